/- A run of a sagging curve behind so many starts: what its calls tell, by the starts. -/
import Derived.Test.YtejolaifdjcghaaGreatSgP
import Derived.Test.YtejolaifdjcghaaGreatBnM
namespace Go.Proofs.YtejolaifdjcghaaGreat
open Go.RowKit Go.Shelf W
set_option linter.unusedVariables false
set_option maxRecDepth 100000
namespace W
/-- All copies, one by one. -/
def cpy (X Y : Nat → Int) (k : Nat) : Int × Int := (xS X (k + 1), min (Y k) 4611686018427387904)
def allL (X Y : Nat → Int) (n : Nat) : List (Int × Int) := (List.range n).map (cpy X Y)
theorem allL_succ (X Y : Nat → Int) (n : Nat) : allL X Y (n + 1) = allL X Y n ++ [cpy X Y n] := by simp [allL, List.range_succ]
theorem allL_mem {X Y : Nat → Int} {n : Nat} {c : Int × Int} (h : c ∈ allL X Y n) : ∃ k, k < n ∧ cpy X Y k = c := by
  unfold allL at h
  obtain ⟨k, hk, e⟩ := List.mem_map.1 h
  exact ⟨k, by simpa using hk, e⟩
theorem mem_allL {X Y : Nat → Int} {n k : Nat} (h : k < n) : cpy X Y k ∈ allL X Y n := List.mem_map.2 ⟨k, by simpa using h, rfl⟩
theorem allL_le {X Y : Nat → Int} {n : Nat} (hY : ∀ k, 0 ≤ Y k) : ∀ c ∈ allL X Y n, 0 ≤ c.1 ∧ c.1 ≤ xS X n ∧ 0 ≤ c.2 ∧ c.2 ≤ 4611686018427387904 := fun c hc => by
  obtain ⟨k, hk, rfl⟩ := allL_mem hc
  have h1 := xS_le X (show k + 1 ≤ n by omega)
  have h2 := xS_nn X (k + 1)
  have := hY k
  refine ⟨h2, h1, ?_, ?_⟩ <;> unfold cpy <;> simp only <;> omega
/-- Those kept are what they should be. -/
structure KeptOk (f l r : Int) (X Y : Nat → Int) (n : Nat) (K : List (Int × Int)) : Prop where
  good : Good f l r (xS X n) K
  cov : Covers f l r (xS X n) K (allL X Y n)
  sub : ∀ k ∈ K, k ∈ allL X Y n
  nil : n = 0 → K = []
  pos : 0 < n → 0 < K.length
  len : K.length ≤ n
theorem KeptOk.new (f l r : Int) (X Y : Nat → Int) : KeptOk f l r X Y 0 [] :=
  ⟨⟨fun k hk => by (cases hk), List.Pairwise.nil⟩, fun c hc => by (simp [allL] at hc), fun k hk => by (cases hk), fun _ => rfl, fun h => by omega, Nat.le_refl _⟩
theorem KeptOk.start {f l r : Int} {X Y : Nat → Int} {n : Nat} {K K' : List (Int × Int)} (hc : CvS f l r) (hY : ∀ k, 0 ≤ Y k) (h : KeptOk f l r X Y n K)
    (hj : IsJoin f l r (xS X (n + 1)) (min (Y n) 4611686018427387904) (ageF f l r (xS X (n + 1)) K) K') : KeptOk f l r X Y (n + 1) K' := by
  obtain ⟨hf, hl, hr, hm, hfr⟩ := hc
  have hx := (xS_step X n).1
  have hg := h.good.age hl.1 hx
  have hc := h.cov.age hl.1 hfr hx h.good (fun c hc => (allL_le hY c hc).2.1)
  have hYn := hY n
  refine ⟨hg.join hl.1 (xS_nn _ _) (by omega) (by omega) hj, ?_, fun k hk => ?_, fun e => by omega, fun _ => List.length_pos_iff.2 hj.mem.1, ?_⟩
  · rw [allL_succ]
    exact hc.join hl.1 hfr hg hj
  · rw [allL_succ]
    rcases hj.mem.2 k hk with h1 | h1
    · exact List.mem_append_left _ (h.sub k (ageF_mem k h1))
    · exact List.mem_append_right _ (by rw [h1]; simp [cpy])
  · have := hj.len
    have := ageF_len f l r (xS X (n + 1)) K
    have := h.len
    omega
/-- When all have y, stopped: from m on. -/
def IsRch (F L R y x : Int) (A : List (Int × Int)) (m : Int) : Prop := x ≤ m ∧ m ≤ 9223372036854775808 ∧ ∀ t, x ≤ t → t < 9223372036854775808 → ((∀ k ∈ A, y ≤ stp (hv F L R k t)) ↔ m ≤ t)
theorem IsRch.unique {F L R y x m m' : Int} {A : List (Int × Int)} (h : IsRch F L R y x A m) (h' : IsRch F L R y x A m') : m = m' := by
  obtain ⟨h1, h2, h3⟩ := h
  obtain ⟨g1, g2, g3⟩ := h'
  have one : ∀ a b : Int, x ≤ a → b ≤ 9223372036854775808 → (∀ t, x ≤ t → t < 9223372036854775808 → (a ≤ t ↔ b ≤ t)) → b ≤ a := fun a b ha hb h => by
    rcases Int.lt_or_le a 9223372036854775808 with h4 | h4
    · exact (h a ha h4).1 (Int.le_refl _)
    · omega
  have e : ∀ t, x ≤ t → t < 9223372036854775808 → (m ≤ t ↔ m' ≤ t) := fun t t1 t2 => (h3 t t1 t2).symm.trans (g3 t t1 t2)
  have := one m m' h1 g2 e
  have := one m' m g1 h2 (fun t t1 t2 => (e t t1 t2).symm)
  omega
theorem all_ex {F L R y x : Int} (hF : Word F) (hL : Word L) (hR : Word R) (hx : x ≤ 9223372036854775808) (hy2 : y ≤ 4611686018427387904) :
    ∀ (A : List (Int × Int)), (∀ k ∈ A, 0 ≤ k.1 ∧ k.1 ≤ x ∧ 0 ≤ k.2 ∧ k.2 ≤ 4611686018427387904) → ∃ m, IsAll F L R y x A.reverse m
  | [], _ => ⟨x, IsAll.nil hx⟩
  | k :: A, hA => by
    obtain ⟨m, hm⟩ := all_ex hF hL hR hx hy2 A (fun q hq => hA q (List.mem_cons_of_mem _ hq))
    obtain ⟨n, hn⟩ := reach_ex F L R (rM y k.2) hF hL hR
    have hk := hA k (by simp)
    rw [List.reverse_cons]
    exact ⟨_, hm.snoc hk.2.1 (from_reach hF.1 hR.1 hL.1 ⟨hk.1, by omega⟩ hk.2.2.1 hy2 hn)⟩
theorem all_ex' {F L R y x : Int} (hF : Word F) (hL : Word L) (hR : Word R) (hx : x ≤ 9223372036854775808) (hy2 : y ≤ 4611686018427387904) (A : List (Int × Int)) (hA : ∀ k ∈ A, 0 ≤ k.1 ∧ k.1 ≤ x ∧ 0 ≤ k.2 ∧ k.2 ≤ 4611686018427387904) : ∃ m, IsAll F L R y x A m := by
  have := all_ex hF hL hR hx hy2 A.reverse (fun k hk => hA k (List.mem_reverse.1 hk))
  rwa [List.reverse_reverse] at this
theorem lst_ex (V : Int × Int → Int) : ∀ {A : List (Int × Int)}, 0 < A.length → ∃ v, IsLst V A v
  | [a], _ => ⟨V a, fun c hc => by simp at hc; subst hc; exact Int.le_refl _, a, by simp, rfl⟩
  | a :: b :: A, _ => by
    obtain ⟨v, h1, c, hc, h2⟩ := lst_ex V (A := b :: A) (by simp)
    rcases Int.le_total (V a) v with h | h
    · refine ⟨V a, fun q hq => ?_, a, by simp, rfl⟩
      rcases List.mem_cons.1 hq with rfl | hq
      · exact Int.le_refl _
      · exact Int.le_trans h (h1 q hq)
    · refine ⟨v, fun q hq => ?_, c, List.mem_cons_of_mem _ hc, h2⟩
      rcases List.mem_cons.1 hq with rfl | hq
      · exact h
      · exact h1 q hq
section
variable {f l r : Int} {X Y : Nat → Int} {n : Nat} {K : List (Int × Int)}
theorem KeptOk.beats (hc : CvS f l r) (hY : ∀ k, 0 ≤ Y k) (h : KeptOk f l r X Y n K) {t : Int} (ht : xS X n ≤ t) : ∀ c ∈ allL X Y n, ∃ k ∈ K, hv f l r k t ≤ hv f l r c t := fun c hcm => by
  obtain ⟨hf, hl, hr, hm, hfr⟩ := hc
  obtain ⟨k, hk, k1, k2⟩ := h.cov c hcm
  exact ⟨k, hk, hv_dom hl.1 hfr (h.good.1 k hk).2.1 (allL_le hY c hcm).2.1 ht k1 k2⟩
theorem KeptOk.beatsL (hY : ∀ k, 0 ≤ Y k) (h : KeptOk f l r X Y n K) {t : Int} (ht : xS X n ≤ t) : ∀ c ∈ allL X Y n, ∃ k ∈ K, hv 0 0 r k t ≤ hv 0 0 r c t := fun c hcm => by
  obtain ⟨k, hk, k1, k2⟩ := h.cov c hcm
  have := (h.good.1 k hk).2.1
  have := (allL_le hY c hcm).2.1
  exact ⟨k, hk, by rw [hv_straight (by omega), hv_straight (by omega)]; exact lv_le k2⟩
theorem KeptOk.rch {F L R y x m : Int} (h : KeptOk f l r X Y n K) (hb : ∀ t, xS X n ≤ t → ∀ c ∈ allL X Y n, ∃ k ∈ K, hv F L R k t ≤ hv F L R c t) (hy : y ≤ 4611686018427387904) (hm : IsAll F L R y (xS X n) K m) : IsRch F L R y (xS X n) (allL X Y n) m := by
  obtain ⟨h1, h2, h3⟩ := hm
  refine ⟨h1, h2, fun t t1 t2 => ?_⟩
  rw [← h3 t t1 t2]
  have bst : ∀ z, y ≤ stp z ↔ y ≤ z := fun z => by have := stp_or z; omega
  constructor
  · intro h4 k hk
    exact (bst _).1 (h4 k (h.sub k hk))
  · intro h4 c hc
    obtain ⟨k, hk, k1⟩ := hb t t1 c hc
    have := h4 k hk
    exact (bst _).2 (by omega)
end
theorem rch_far {F L R y x : Int} {A : List (Int × Int)} (hA : 0 < A.length) (hx : x ≤ 9223372036854775808) (hy : 4611686018427387904 < y) : IsRch F L R y x A 9223372036854775808 := by
  refine ⟨hx, Int.le_refl _, fun t t1 t2 => ⟨fun h => ?_, fun h => by omega⟩⟩
  match A, hA with
  | a :: A, _ =>
    have := h a (by simp)
    have := stp_le (hv F L R a t)
    omega
end W
end Go.Proofs.YtejolaifdjcghaaGreat
