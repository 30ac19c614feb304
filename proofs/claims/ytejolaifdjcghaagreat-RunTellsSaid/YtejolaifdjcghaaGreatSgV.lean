/- What a run has at a tick, and when it has so much, by those kept: as an object. -/
import Derived.Test.YtejolaifdjcghaaGreatSgT
namespace Go.Proofs.YtejolaifdjcghaaGreat
open Go.RowKit Go.Shelf W
set_option linter.unusedVariables false
set_option maxRecDepth 100000
namespace W
theorem turn_ex (b : Nat → Bool) : ∀ n : Nat, (∀ i j, i ≤ j → j < n → b i = true → b j = true) → ∃ i, IsTurn (fun j => b j = true) n i
  | 0, _ => ⟨0, Nat.le_refl _, fun j hj => by omega, fun j h1 h2 => by omega⟩
  | n + 1, hm => by
    obtain ⟨i, h0, h1, h2⟩ := turn_ex b n (fun i j hij hj => hm i j hij (by omega))
    by_cases hn : b n = true
    · refine ⟨i, by omega, h1, fun j hj hjn => ?_⟩
      rcases Nat.lt_or_ge j n with h | h
      · exact h2 j hj h
      · obtain rfl : j = n := by omega
        exact hn
    · refine ⟨n + 1, Nat.le_refl _, fun j hj e => ?_, fun j hj hjn => by omega⟩
      exact hn (hm j n (by omega) (by omega) e)
theorem IsTurn.unique {P : Nat → Prop} {n i i' : Nat} (h : IsTurn P n i) (h' : IsTurn P n i') : i = i' := by
  obtain ⟨a0, a1, a2⟩ := h
  obtain ⟨b0, b1, b2⟩ := h'
  rcases Nat.lt_trichotomy i i' with h | h | h
  · exact absurd (a2 i (Nat.le_refl _) (by omega)) (b1 i h)
  · exact h
  · exact absurd (b2 i' (Nat.le_refl _) (by omega)) (a1 i' h)
/-- The neighbours of i. -/
def winL (i : Nat) (K : List (Int × Int)) : List (Int × Int) := (K.drop (max i 1 - 1)).take (min (i + 1) K.length - (max i 1 - 1))
theorem winL_len {i : Nat} {K : List (Int × Int)} (hi : i ≤ K.length) (hn : 0 < K.length) : (winL i K).length = min (i + 1) K.length - (max i 1 - 1) := by
  unfold winL
  rw [List.length_take, List.length_drop]
  omega
theorem winL_sub {i : Nat} {K : List (Int × Int)} : ∀ k ∈ winL i K, k ∈ K := fun k hk => List.mem_of_mem_drop (List.mem_of_mem_take hk)
theorem winL_mem {i m : Nat} {K : List (Int × Int)} (hm : m < K.length) (hw : InWin i K.length m) : K[m] ∈ winL i K := by
  unfold winL
  unfold InWin at hw
  refine List.mem_take_iff_getElem.2 ⟨m - (max i 1 - 1), by rw [List.length_drop]; omega, ?_⟩
  rw [List.getElem_drop]
  congr 1
  omega
theorem winL_ex {i : Nat} {K : List (Int × Int)} {k : Int × Int} (hk : k ∈ winL i K) : ∃ m, ∃ hm : m < K.length, InWin i K.length m ∧ K[m] = k := by
  unfold winL at hk
  obtain ⟨j, hj, rfl⟩ := List.mem_take_iff_getElem.1 hk
  rw [List.length_drop] at hj
  exact ⟨max i 1 - 1 + j, by omega, by unfold InWin; omega, by rw [List.getElem_drop]⟩
end W
set_option maxHeartbeats 1000000 in
theorem sg_least (B g o cap : Nat) (K : List (Int × Int)) (f l r F L R x k t t2 v : Int) (md : Bool) (w : World) (hS : SgB w B f l r (.slice (some ⟨g, o, none⟩) K.length cap) x k md) (hR : RowAt w g o cap K)
    (hn : 0 < K.length) (hn2 : K.length ≤ 1000) (ht2 : max t x = t2) (ht : Word t) (hx : 0 ≤ x ∧ x ≤ 9223372036854775808) (hF : Word F) (hL : 0 ≤ L ∧ L ≤ 1099511627776) (hRr : Word R)
    (hK : ∀ k ∈ K, 0 ≤ k.1 ∧ k.1 ≤ x ∧ 0 ≤ k.2 ∧ k.2 ≤ 4611686018427387904) (hx1 : ∀ i j (hi : i < K.length) (hj : j < K.length), i ≤ j → K[i].1 ≤ K[j].1)
    (hwin : ∀ i, IsTurn (fun j => ∃ hj : j < K.length, t2 < K[j].1 + L) K.length i → ∀ j (hj : j < K.length), ∃ m, ∃ hm : m < K.length, InWin i K.length m ∧ hv F L R K[m] t2 ≤ hv F L R K[j] t2)
    (hl : IsLst (fun k => hv F L R k t2) K v) :
    Calls Tryz.prog 107 #[.pointer (some ⟨B, 0, none⟩), .agg #[eU F, eU L, eU R], eU t] w fun e w' => e = .returned (eU (stp v)) ∧ Below w.heap.size w w' := by
  have htw : Word t2 := by unfold Word at *; omega
  have hLw : Word L := by unfold Word; omega
  have kin : ∀ j (hj : j < K.length), 0 ≤ K[j].1 ∧ K[j].1 ≤ x ∧ 0 ≤ K[j].2 ∧ K[j].2 ≤ 4611686018427387904 := fun j hj => hK _ (List.getElem_mem hj)
  let b : Nat → Bool := fun j => decide (t2 < (K.getD j (0, 0)).1 + L)
  have bat : ∀ j (hj : j < K.length), b j = decide (t2 < K[j].1 + L) := fun j hj => by
    show decide (t2 < (K.getD j (0, 0)).1 + L) = _
    rw [List.getD_eq_getElem?_getD, List.getElem?_eq_getElem hj]; rfl
  have bmono : ∀ i j, i ≤ j → j < K.length → b i = true → b j = true := fun i j hij hj hb => by
    rw [bat j hj]
    rw [bat i (by omega)] at hb
    have := hx1 i j (by omega) hj hij
    simp only [decide_eq_true_eq] at hb ⊢
    omega
  obtain ⟨i, hi⟩ := turn_ex b K.length bmono
  have hi0 := hi.1
  have hi' : IsTurn (fun j => ∃ hj : j < K.length, t2 < K[j].1 + L) K.length i := ⟨hi.1, fun j hj ⟨hj2, e⟩ => hi.2.1 j hj (by show b j = true; rw [bat j hj2]; simpa using e), fun j h1 h2 => ⟨h2, by have := hi.2.2 j h1 h2; simp only at this; rw [bat j h2] at this; simpa using this⟩⟩
  have hlen := winL_len hi0 hn
  have hRw := hR.win (max i 1 - 1) (min (i + 1) K.length - (max i 1 - 1)) (by omega) (by omega)
  have hm : minL (fun k => hv F L R k t2) (winL i K) = stp v := by
    obtain ⟨l1, c, hc, l2⟩ := hl
    (try simp only at l1 l2)
    obtain ⟨j, hj, e⟩ := List.getElem_of_mem hc
    obtain ⟨m, hm, hw, hle⟩ := hwin i hi' j hj
    rw [e] at hle
    have h1 := minL_le (fun k => hv F L R k t2) (winL_mem hm hw)
    (try simp only at h1)
    have h2 := l1 _ (List.getElem_mem hm)
    have h3 : hv F L R K[m] t2 = v := by omega
    rw [h3] at h1
    rcases minL_ex (fun k => hv F L R k t2) (winL i K) with e2 | ⟨q, hq, e2⟩
    · have := stp_le v; omega
    · have := stp_mono (l1 q (winL_sub q hq))
      omega
  rw [← hm]
  refine least_of B g o cap K (winL i K) f l r F L R x k t t2 md _ w hS ht2 g (o + (max i 1 - 1) * 2) (cap - (max i 1 - 1)) hR.lt (by omega) ?_ ?_ ?_ ?_
  · rw [hlen]
    have := hR.le.1
    omega
  · intro w' C D T hC hD
    refine (around_59 B g o cap K b f l r x k md _ _ w' hn hn2 (hS.below T) (hR.below T) bmono (fun j hj w'' hb => ?_)).mono ?_
    · rw [bat j hj]
      have := kin j hj
      exact t_least_any _ _ L t2 C D w'' ((hC.below hb).cell 1) ((hD.below hb).cell 0) (hC.below hb).lt (hD.below hb).lt (u64_id _ ⟨by omega, by omega⟩)
    · rintro e w'' ⟨⟨i', rfl, hi2⟩, hb⟩
      obtain rfl := hi.unique hi2
      exact ⟨by rw [hlen], hb⟩
  · intro w' T j hj
    exact (hRw.below T).cell (K := winL i K) hj
  · intro j hj w'
    have hmem := hK _ (winL_sub _ (List.getElem_mem hj))
    exact b_has_any _ F L R t2 w' (by unfold Word; omega) (by unfold Word; omega) hF hLw hRr htw (by omega)
set_option maxHeartbeats 1000000 in
theorem sg_latest (B g o cap : Nat) (K : List (Int × Int)) (f l r F L R x k y m : Int) (md : Bool) (w : World) (hS : SgB w B f l r (.slice (some ⟨g, o, none⟩) K.length cap) x k md) (hR : RowAt w g o cap K)
    (hn : 0 < K.length) (hn2 : K.length ≤ 1000) (hy : Word y) (hy2 : y ≤ 4611686018427387904) (hx : 0 ≤ x ∧ x ≤ 9223372036854775808) (hF : Word F) (hRr : Word R) (hc : cMay F L R) (hL0 : 0 ≤ L)
    (hK : ∀ k ∈ K, 0 ≤ k.1 ∧ k.1 ≤ x ∧ 0 ≤ k.2 ∧ k.2 ≤ 4611686018427387904) (hy1 : ∀ i j (hi : i < K.length) (hj : j < K.length), i ≤ j → K[i].2 ≤ K[j].2)
    (hwin : ∀ i, IsTurn (fun j => ∃ hj : j < K.length, y ≤ K[j].2 + F * L) K.length i → ∀ t, x ≤ t → (∀ m (hm : m < K.length), InWin i K.length m → y ≤ hv F L R K[m] t) → ∀ j (hj : j < K.length), y ≤ hv F L R K[j] t)
    (hm : IsAll F L R y x K m) :
    Calls Tryz.prog 109 #[.pointer (some ⟨B, 0, none⟩), .agg #[eU F, eU L, eU R], eU y] w fun e w' => e = .returned (eU m) ∧ Below w.heap.size w w' := by
  obtain ⟨hf1, hr1, hl1, _⟩ := id hc
  have hLw : Word L := by unfold Word; omega
  have kin : ∀ j (hj : j < K.length), 0 ≤ K[j].1 ∧ K[j].1 ≤ x ∧ 0 ≤ K[j].2 ∧ K[j].2 ≤ 4611686018427387904 := fun j hj => hK _ (List.getElem_mem hj)
  let b : Nat → Bool := fun j => decide (y ≤ stp ((K.getD j (0, 0)).2 + F * L))
  have bat : ∀ j (hj : j < K.length), b j = decide (y ≤ stp (K[j].2 + F * L)) := fun j hj => by
    show decide (y ≤ stp ((K.getD j (0, 0)).2 + F * L)) = _
    rw [List.getD_eq_getElem?_getD, List.getElem?_eq_getElem hj]; rfl
  have bst : ∀ z, y ≤ stp z ↔ y ≤ z := fun z => by have := stp_or z; omega
  have bmono : ∀ i j, i ≤ j → j < K.length → b i = true → b j = true := fun i j hij hj hb => by
    rw [bat j hj]
    rw [bat i (by omega)] at hb
    have := hy1 i j (by omega) hj hij
    simp only [decide_eq_true_eq] at hb ⊢
    rw [bst] at hb ⊢
    omega
  obtain ⟨i, hi⟩ := turn_ex b K.length bmono
  have hi0 := hi.1
  have hi' : IsTurn (fun j => ∃ hj : j < K.length, y ≤ K[j].2 + F * L) K.length i := ⟨hi.1, fun j hj ⟨hj2, e⟩ => hi.2.1 j hj (by show b j = true; rw [bat j hj2]; simp only [decide_eq_true_eq]; rw [bst]; exact e), fun j h1 h2 => ⟨h2, by have := hi.2.2 j h1 h2; simp only at this; rw [bat j h2] at this; simp only [decide_eq_true_eq] at this; rwa [bst] at this⟩⟩
  have hlen := winL_len hi0 hn
  have hRw := hR.win (max i 1 - 1) (min (i + 1) K.length - (max i 1 - 1)) (by omega) (by omega)
  have conv : ∀ m', IsAll F L R y x (winL i K) m' → IsAll F L R y x K m' := fun m' ⟨h1, h2, h3⟩ => ⟨h1, h2, fun t t1 t2 => by
    rw [← h3 t t1 t2]
    constructor
    · intro h q hq
      exact h q (winL_sub q hq)
    · intro h q hq
      obtain ⟨j, hj, rfl⟩ := List.getElem_of_mem hq
      exact hwin i hi' t t1 (fun m hm hw => h _ (winL_mem hm hw)) j hj⟩
  refine (latest_of B g o cap K (winL i K) f l r F L R x k y md w hS (by omega) hx.2 g (o + (max i 1 - 1) * 2) (cap - (max i 1 - 1)) hR.lt (by omega) ?_ (fun k hk => (hK k (winL_sub k hk)).2.1) ?_ ?_ ?_).mono ?_
  · rw [hlen]
    have := hR.le.1
    omega
  · intro w' C D T hC hD
    refine (around_55 B g o cap K b f l r x k md _ _ w' hn hn2 (hS.below T) (hR.below T) bmono (fun j hj w'' hb => ?_)).mono ?_
    · rw [bat j hj]
      have := kin j hj
      have e : hv F L R K[j] (K[j].1 + L) = K[j].2 + F * L := by rw [hv_corner (Int.le_refl _), show K[j].1 + L - K[j].1 = L by omega]
      rw [← e]
      exact t_latest_of _ _ F L R y _ C D w'' (hC.below hb) (hD.below hb) (u64_id _ ⟨by omega, by omega⟩) (fun w => b_has_any _ F L R _ w (by unfold Word; omega) (by unfold Word; omega) hF hLw hRr (by unfold Word; omega) (by omega))
    · rintro e w'' ⟨⟨i', rfl, hi2⟩, hb⟩
      obtain rfl := hi.unique hi2
      exact ⟨by rw [hlen], hb⟩
  · intro w' T j hj
    exact (hRw.below T).cell (K := winL i K) hj
  · intro j hj w'
    have hmem := hK _ (winL_sub _ (List.getElem_mem hj))
    exact b_reach_any _ F L R y w' (by omega) (by unfold Word; omega) hF hLw hRr hc hy hy2
  · rintro e w' ⟨⟨m', rfl, hm'⟩, hb⟩
    have := hm.unique (conv m' hm')
    subst this
    exact ⟨rfl, hb⟩
end Go.Proofs.YtejolaifdjcghaaGreat
