/- What the pieces of a curve add up to, in plain arithmetic. No condition but that words are words; where it reaches an amount: of a curve that may be. Whether a curve may be; the one way in which it is told. No condition but that words are words. Whether a curve may be. No condition but that words are words. What the document's calls answer of a curve: none, may be, steepest. No condition but that words are words. What the document's curve has at a tick, in two words. No condition but that words are words. When the document's curve reaches an amount: found by halves. No condition but that words are words. Reach of a curve that may be; Burst, Scale. No condition but that words are words. Whether a curve may be, in words. No condition. -/
import Derived.Test.YtjbpaapglamilaaGE
import Derived.Test.YtjbpaapglamilaaGD
import Derived.Deep.CutRange
import Derived.LoopTactic
namespace Go.Proofs.Ytjbpaapglamilaa
open W
set_option linter.unusedVariables false
theorem stp_stp (x : Int) : stp (stp x) = stp x := stp_lo (stp_le x)
theorem stp_add {x y : Int} (hx : 0 ≤ x) (hy : 0 ≤ y) : stp (stp x + stp y) = stp (x + y) := by
  have h1 := stp_or x; have h2 := stp_or y; have h3 := stp_or (x + y); have h4 := stp_or (stp x + stp y)
  omega
theorem cap_mul {r z : Int} (hr : 1 ≤ r) (hz : 4611686018427387904 ≤ z) : stp (r * z) = 4611686018427387904 := by
  have := Int.mul_le_mul hr hz (by omega) (by omega)
  have h3 := stp_or (r * z)
  omega
theorem stp_mulr {r z : Int} (hr : 0 ≤ r) (hz : 0 ≤ z) : stp (r * stp z) = stp (r * z) := by
  rcases stp_or z with ⟨h, e⟩ | ⟨h, e⟩
  · rw [e]
  · rcases Int.lt_or_eq_of_le hr with k | k
    · rw [e, cap_mul k (by omega), cap_mul k (by omega)]
    · rw [← k]; simp
theorem stp_mul_min {r z l : Int} (hr : 0 ≤ r) (hz : 0 ≤ z) (hl : 0 ≤ l) : stp (r * min (stp z) l) = stp (r * min z l) := by
  rcases stp_or z with ⟨h, e⟩ | ⟨h, e⟩
  · rw [e]
  · rcases Int.lt_or_le l 4611686018427387904 with j | j
    · have : min (stp z) l = min z l := by omega
      rw [this]
    · rcases Int.lt_or_eq_of_le hr with k | k
      · rw [cap_mul k (by omega), cap_mul k (by omega)]
      · rw [← k]; simp
theorem ps_zero {l : Int} (h : l = 0) : ps l = [true] := by subst h; rfl
theorem ps_pos {l : Int} (h : 0 < l) : ps l = [false, true] := by unfold ps; rw [if_neg (by simp; omega)]
theorem atF_eq {f l r t : Int} (hf : Word f) (hl : Word l) (hr : Word r) (ht : Word t) : atF f l r t (ps l) = cAt f l r t := by
  unfold Word at *
  have hM : rT r (min (rM t l) 18446744073709551615) = stp (r * (if t < l then 0 else t - l)) := by
    unfold rT rM
    split
    · rw [show min (0 : Int) 18446744073709551615 = 0 by omega]
    · have := stp_le (t - l)
      rw [show min (stp (t - l)) 18446744073709551615 = stp (t - l) by omega, stp_mulr hr.1 (by omega)]
  rcases Int.lt_or_eq_of_le hl.1 with h | h
  · rw [ps_pos h]
    show rP (rP 0 (rT f (min (rM t 0) l))) (rT r (min (rM t l) 18446744073709551615)) = _
    rw [hM]
    have e1 : rP 0 (rT f (min (rM t 0) l)) = stp (f * min t l) := by
      unfold rP rT rM
      rw [if_neg (by omega), Int.zero_add, Int.sub_zero, stp_stp, stp_mul_min hf.1 ht.1 hl.1]
    rw [e1]
    unfold rP cAt
    have n1 := Int.mul_nonneg hf.1 (show 0 ≤ min t l by omega)
    have n2 := Int.mul_nonneg hr.1 (show 0 ≤ (if t < l then 0 else t - l) by split <;> omega)
    rw [stp_add n1 n2]
    congr 1
    rcases Int.lt_or_le t l with k | k
    · rw [if_pos k, cW_lo (by omega), show min t l = t by omega]; simp
    · rw [if_neg (by omega), cW_hi k, show min t l = l by omega]
  · rw [ps_zero h.symm]
    show rP 0 (rT r (min (rM t l) 18446744073709551615)) = _
    rw [hM]
    unfold rP cAt
    rw [Int.zero_add, stp_stp, if_neg (by omega), cW_hi (by omega), ← h]
    simp
theorem stF_eq {f l r : Int} (hf : Word f) (hl : Word l) (hr : Word r) : stF f r (ps l) = cSt f l r := by
  unfold Word at *
  unfold cSt
  rcases Int.lt_or_eq_of_le hl.1 with h | h
  · rw [ps_pos h]
    show max (max 0 f) r = _
    split <;> omega
  · rw [ps_zero h.symm, if_neg (by omega)]
    show max 0 r = _
    omega
theorem ceil_facts {z c : Int} (hz : 1 ≤ z) (hc : 1 ≤ c) (hC : z ≤ 4611686018427387904) : 1 ≤ qU z 1 c ∧ qU z 1 c ≤ z ∧ z ≤ c * qU z 1 c ∧ c * (qU z 1 c - 1) < z := by
  have e := Int.mul_ediv_add_emod (z * 1 + (c - 1)) c
  have m0 := Int.emod_nonneg (z * 1 + (c - 1)) (show c ≠ 0 by omega)
  have m1 := Int.emod_lt_of_pos (z * 1 + (c - 1)) (show 0 < c by omega)
  rw [Int.mul_one] at e m0 m1
  have h1 : (z + (c - 1)) / c ≤ z := by
    have : (z + (c - 1)) / c < z + 1 := Int.ediv_lt_of_lt_mul (by omega) (by have := Int.mul_le_mul_of_nonneg_left hc (show 0 ≤ z by omega); rw [Int.add_mul]; omega)
    omega
  have h2 : 1 ≤ (z + (c - 1)) / c := by
    have : 1 * c ≤ z + (c - 1) := by omega
    exact (Int.le_ediv_iff_mul_le (by omega)).2 this
  unfold qU
  rw [if_neg (by omega), Int.mul_one, stp_lo (by omega)]
  refine ⟨h2, h1, by omega, ?_⟩
  rw [Int.mul_sub, Int.mul_one]
  omega
theorem rcF_reach {f l r y : Int} (hf : Word f) (hl : Word l) (hr : Word r) (hy : Word y) (y0 : 0 < y) (hm : cMay f l r) : IsReach f l r y (rcF f l r y 0 (ps l)) := by
  unfold Word at *
  obtain ⟨f1, r1, l1, hk⟩ := hm
  have hC := cAt_le f l r 9223372036854775807
  rcases Int.lt_or_eq_of_le hl.1 with h | h
  · rw [ps_pos h]
    have hfl : f * l ≤ 1048576 * 1099511627776 := Int.mul_le_mul f1 l1 hl.1 (by omega)
    have hfl0 := Int.mul_nonneg hf.1 hl.1
    have e1 : rP 0 (grW f l r false) = f * l := by
      show stp (0 + stp (f * min l l)) = f * l
      rw [Int.min_self, Int.zero_add, stp_stp, stp_lo (by omega)]
    show IsReach f l r y (if y ≤ rP 0 (grW f l r false) then hitW f l r y 0 false else if y ≤ rP (rP 0 (grW f l r false)) (grW f l r true) then hitW f l r y (rP 0 (grW f l r false)) true else 9223372036854775808)
    rw [e1]
    by_cases c1 : y ≤ f * l
    · rw [if_pos c1]
      have fp : 1 ≤ f := by rcases Int.lt_or_eq_of_le hf.1 with k | k; omega; rw [← k] at c1; omega
      have c := ceil_facts (z := y) (c := f) (by omega) fp (by omega)
      have eh : hitW f l r y 0 false = qU y 1 f := by
        show min (min 0 9223372036854775808 + qU (y - 0) 1 f) 9223372036854775808 = _
        rw [Int.sub_zero]; omega
      rw [eh]
      obtain ⟨n, en⟩ : ∃ n, qU y 1 f = n := ⟨_, rfl⟩
      rw [en] at c ⊢
      have nl : n ≤ l := by
        rcases Int.lt_or_le l n with k | k
        · have := Int.mul_le_mul_of_nonneg_left (show l ≤ n - 1 by omega) hf.1; omega
        · exact k
      refine .inr ⟨by omega, by omega, ?_, .inr ?_⟩
      · unfold cAt; rw [cW_lo nl]; have := stp_or (f * n); omega
      · unfold cAt; rw [cW_lo (by omega)]; have := stp_or (f * (n - 1)); omega
    · rw [if_neg c1]
      have e2 : rP (f * l) (grW f l r true) = stp (f * l + r * 18446744073709551615) := by
        show stp (f * l + stp (r * min 18446744073709551615 18446744073709551615)) = _
        rw [Int.min_self]
        have := stp_add (x := f * l) (y := r * 18446744073709551615) hfl0 (by omega)
        rwa [stp_lo (x := f * l) (by omega)] at this
      rw [e2]
      rcases Int.lt_or_eq_of_le hr.1 with k | k
      · have e3 : stp (f * l + r * 18446744073709551615) = 4611686018427387904 := by have := stp_or (f * l + r * 18446744073709551615); omega
        rw [e3]
        by_cases c2 : y ≤ 4611686018427387904
        · rw [if_pos c2]
          have c := ceil_facts (z := y - f * l) (c := r) (by omega) k (by omega)
          have eh : hitW f l r y (f * l) true = l + qU (y - f * l) 1 r := by
            show min (min l 9223372036854775808 + qU (y - f * l) 1 r) 9223372036854775808 = _
            omega
          rw [eh]
          obtain ⟨n, en⟩ : ∃ n, qU (y - f * l) 1 r = n := ⟨_, rfl⟩
          rw [en] at c ⊢
          refine .inr ⟨by omega, by omega, ?_, .inr ?_⟩
          · unfold cAt; rw [cW_hi (by omega), show l + n - l = n by omega]; have := stp_or (f * l + r * n); omega
          · unfold cAt; rw [cW_hi (by omega), show l + n - 1 - l = n - 1 by omega]; have := stp_or (f * l + r * (n - 1)); omega
        · rw [if_neg c2]
          exact .inl ⟨rfl, by omega⟩
      · subst k
        rw [if_neg (by have := stp_or (f * l + 0 * 18446744073709551615); omega)]
        refine .inl ⟨rfl, ?_⟩
        unfold cAt
        rw [cW_hi (by omega)]
        have := stp_or (f * l + 0 * (9223372036854775807 - l))
        omega
  · subst h
    rw [ps_zero rfl]
    show IsReach f 0 r y (if y ≤ rP 0 (grW f 0 r true) then hitW f 0 r y 0 true else 9223372036854775808)
    have e1 : rP 0 (grW f 0 r true) = stp (r * 18446744073709551615) := by
      show stp (0 + stp (r * min 18446744073709551615 18446744073709551615)) = _
      rw [Int.min_self, Int.zero_add, stp_stp]
    rw [e1]
    rcases Int.lt_or_eq_of_le hr.1 with k | k
    · have e3 : stp (r * 18446744073709551615) = 4611686018427387904 := by have := stp_or (r * 18446744073709551615); omega
      rw [e3]
      by_cases c2 : y ≤ 4611686018427387904
      · rw [if_pos c2]
        have c := ceil_facts (z := y) (c := r) (by omega) k (by omega)
        have eh : hitW f 0 r y 0 true = qU y 1 r := by
          show min (min 0 9223372036854775808 + qU (y - 0) 1 r) 9223372036854775808 = _
          rw [Int.sub_zero]; omega
        rw [eh]
        obtain ⟨n, en⟩ : ∃ n, qU y 1 r = n := ⟨_, rfl⟩
        rw [en] at c ⊢
        refine .inr ⟨by omega, by omega, ?_, .inr ?_⟩
        · unfold cAt; rw [cW_hi (by omega), Int.mul_zero, Int.zero_add, Int.sub_zero]; have := stp_or (r * n); omega
        · unfold cAt; rw [cW_hi (by omega), Int.mul_zero, Int.zero_add, Int.sub_zero]; have := stp_or (r * (n - 1)); omega
      · rw [if_neg c2]
        exact .inl ⟨rfl, by omega⟩
    · subst k
      rw [if_neg (by have := stp_or (0 * 18446744073709551615); omega)]
      refine .inl ⟨rfl, ?_⟩
      unfold cAt
      rw [cW_hi (by omega)]
      have := stp_or (f * 0 + 0 * (9223372036854775807 - 0))
      omega
end Go.Proofs.Ytjbpaapglamilaa
namespace Go.Proofs.Ytjbpaapglamilaa
open Go.RowKit W
set_option linter.unusedVariables false
def tdF (f l r : Int) : Int := if l = 0 ∨ f = r then 0 else f
def tdL (f l r : Int) : Int := if l = 0 ∨ f = r then 0 else l
def mayB (f l r : Int) : Bool := decide (f ≤ 1048576 ∧ r ≤ 1048576 ∧ l ≤ 1099511627776 ∧ (l = 0 ∧ f = 0 ∨ 0 < l ∧ f ≠ r))
theorem Box.frz {W : World} {B : Nat} {vs : Array Value} {t : TypeId} (h : Box W B vs t) (i : Nat) : W.frozen? ⟨B, i, none⟩ = false := by simp [World.frozen?, show W.heap[B]? = _ from h]
theorem told_any (f l r : Int) (w : World) :
    Calls Try.prog 40 #[.agg #[.int .u64 f, .int .u64 l, .int .u64 r]] w fun e w' => e = .returned (.agg #[.int .u64 (tdF f l r), .int .u64 (tdL f l r), .int .u64 r]) ∧ Below w.heap.size w w' := by
  have hS := fun w => straight_any f l r w
  have T2 := up2 w (.cells #[.int .u64 f, .int .u64 l, .int .u64 r] 25) (.cells #[.int .u64 0, .int .u64 0, .int .u64 0] 25)
  have BC := (Box.new w 25 #[.int .u64 f, .int .u64 l, .int .u64 r]).alloc (.cells #[.int .u64 0, .int .u64 0, .int .u64 0] 25)
  have BR := Box.new (w.alloc (.cells #[.int .u64 f, .int .u64 l, .int .u64 r] 25)) 25 #[.int .u64 0, .int .u64 0, .int .u64 0]
  simp only [World.size_alloc] at BR
  unfold tdF tdL
  by_cases h1 : l = 0
  · rw [if_pos (.inl h1), if_pos (.inl h1)]
    have hl : (l == 0) = true := by simp [h1]
    rw [hl] at hS
    clear h1
    go_enter Try.func40, Try.ntmps40
    go_wp2_with (go_at_call 50; (with_reducible refine (hS _).mono ?_); rintro e w1 ⟨rfl, hb1⟩; replace BC := BC.below hb1; replace BR := BR.below hb1; obtain ⟨c0, c1, c2, c3⟩ := BC.tri; obtain ⟨r0, r1, r2, r3⟩ := BR.tri; have g0 := BR.frz 0; have g1 := BR.frz 1; have g2 := BR.frz 2; replace T2 := up T2 hb1 (by simp; omega))
    exact bodyPost_ret (v := .agg #[.int .u64 0, .int .u64 0, .int .u64 r]) (by simp [results, Try.results40, go_sem, r1, r2, r3]) rfl ⟨rfl, ((T2.setCell (by simp) _).setCell (by simp) _).setCell (by simp) _⟩
  · have hl : (l == 0) = false := by simp [h1]
    rw [hl] at hS
    by_cases h2 : f = r
    · rw [if_pos (.inr h2), if_pos (.inr h2)]
      have hfr : (f == r) = true := by simp [h2]
      clear h1 h2
      go_enter Try.func40, Try.ntmps40
      go_wp2_with (go_at_call 50; (with_reducible refine (hS _).mono ?_); rintro e w1 ⟨rfl, hb1⟩; replace BC := BC.below hb1; replace BR := BR.below hb1; obtain ⟨c0, c1, c2, c3⟩ := BC.tri; obtain ⟨r0, r1, r2, r3⟩ := BR.tri; have g0 := BR.frz 0; have g1 := BR.frz 1; have g2 := BR.frz 2; replace T2 := up T2 hb1 (by simp; omega))
      exact bodyPost_ret (v := .agg #[.int .u64 0, .int .u64 0, .int .u64 r]) (by simp [results, Try.results40, go_sem, r1, r2, r3]) rfl ⟨rfl, ((T2.setCell (by simp) _).setCell (by simp) _).setCell (by simp) _⟩
    · rw [if_neg (by omega), if_neg (by omega)]
      have hfr : (f == r) = false := by simp [h2]
      clear h1 h2
      go_enter Try.func40, Try.ntmps40
      go_wp2_with (go_at_call 50; (with_reducible refine (hS _).mono ?_); rintro e w1 ⟨rfl, hb1⟩; replace BC := BC.below hb1; replace BR := BR.below hb1; obtain ⟨c0, c1, c2, c3⟩ := BC.tri; obtain ⟨r0, r1, r2, r3⟩ := BR.tri; have g0 := BR.frz 0; have g1 := BR.frz 1; have g2 := BR.frz 2; replace T2 := up T2 hb1 (by simp; omega))
      exact bodyPost_ret (v := .agg #[.int .u64 f, .int .u64 l, .int .u64 r]) (by simp [results, Try.results40, go_sem, r1, r2, r3]) rfl ⟨rfl, ((T2.setCell (by simp) _).setCell (by simp) _).setCell (by simp) _⟩
end Go.Proofs.Ytjbpaapglamilaa
namespace Go.Proofs.Ytjbpaapglamilaa
open Go.RowKit W
set_option linter.unusedVariables false
set_option maxRecDepth 100000 in
set_option maxHeartbeats 2000000 in
theorem may_hi (f l r s : Int) (w : World) (hS : ∀ w, Calls Try.prog 39 #[.agg #[.int .u64 f, .int .u64 l, .int .u64 r]] w fun e w' => e = .returned (.int .u64 s) ∧ Below w.heap.size w w')
    (h1 : decide (s ≤ 1048576) = false) :
    Calls Try.prog 24 #[.agg #[.int .u64 f, .int .u64 l, .int .u64 r]] w fun e w' => e = .returned (.bool false) ∧ Below w.heap.size w w' := by
  have BC := Box.new w 25 #[.int .u64 f, .int .u64 l, .int .u64 r]
  have T := up1 w (.cells #[.int .u64 f, .int .u64 l, .int .u64 r] 25)
  go_enter Try.func24, Try.ntmps24
  go_wp2
  obtain ⟨w0, hw0⟩ : ∃ w0, w.alloc (.cells #[.int .u64 f, .int .u64 l, .int .u64 r] 25) = w0 := ⟨_, rfl⟩
  rw [hw0] at BC T ⊢
  clear hw0
  refine wp_region_held_drew (S := (fun w' => w'.cell? ⟨w.heap.size, 0, none⟩ = some (.int .u64 f) ∧ w'.cell? ⟨w.heap.size, 1, none⟩ = some (.int .u64 l) ∧ w'.cell? ⟨w.heap.size, 2, none⟩ = some (.int .u64 r))) (by kernel_rfl) BC.tri.2 (fun hHeld => ?_)
  refine wpAnyH_take (i := 0) (v := ?_) (by simp only [List.getElem?_toArray, List.getElem?_cons_zero]; rfl) (by kernel_rfl) (by kernel_rfl) (by kernel_rfl) (by exact fun _ _ _ h => h) (Or.inl ⟨by rfl, ?_⟩) (by assumption) ?_
  rotate_left
  · (intro w hSw; (try dsimp only at hSw); go_simp; (try with_reducible rfl))
  try simp only [Act.put, List.setIfInBounds_toArray, List.set_cons_zero, List.set_cons_succ]
  refine wpAnyH_ready (rs := [1]) (by kernel_rfl) (by simp) ?_
  refine AllReadyH.cons (by simp only [List.getElem?_toArray, List.getElem?_cons_zero, List.getElem?_cons_succ]; rfl) (fun K hK => ?_) AllReadyH.nil
  go_simp
  go_at_call 39
  (with_reducible refine (hS _).mono ?_)
  rintro e w1 ⟨rfl, hb1⟩
  have E1 := undrew hb1
  have hH1 : (fun w' => w'.cell? ⟨w.heap.size, 0, none⟩ = some (.int .u64 f) ∧ w'.cell? ⟨w.heap.size, 1, none⟩ = some (.int .u64 l) ∧ w'.cell? ⟨w.heap.size, 2, none⟩ = some (.int .u64 r)) w1 := (BC.below E1).tri.2
  refine hK.out _ _ hH1 (fun hHeld => ?_)
  clear hK K
  try simp only [Act.put, List.setIfInBounds_toArray, List.set_cons_zero, List.set_cons_succ]
  refine wpAnyH_take (i := 2) (v := ?_) (by simp only [List.getElem?_toArray, List.getElem?_cons_zero, List.getElem?_cons_succ]; rfl) (by kernel_rfl) (by kernel_rfl) (by kernel_rfl) (by exact fun _ _ _ h => h) (Or.inl ⟨by rfl, ?_⟩) (by assumption) ?_
  rotate_left
  · (intro w hSw; (try dsimp only at hSw); go_simp; (try with_reducible rfl))
  try simp only [Act.put, List.setIfInBounds_toArray, List.set_cons_zero, List.set_cons_succ]
  refine wpAnyH_take (i := 3) (v := ?_) (by simp only [List.getElem?_toArray, List.getElem?_cons_zero, List.getElem?_cons_succ]; rfl) (by kernel_rfl) (by kernel_rfl) (by kernel_rfl) (by exact fun _ _ _ h => h) (Or.inl ⟨by rfl, ?_⟩) (by assumption) ?_
  rotate_left
  · (intro w hSw; (try dsimp only at hSw); go_simp; (try with_reducible rfl))
  try simp only [Act.put, List.setIfInBounds_toArray, List.set_cons_zero, List.set_cons_succ]
  refine wpAnyH_take (i := 4) (v := undef) (by simp only [List.getElem?_toArray, List.getElem?_cons_zero, List.getElem?_cons_succ]; rfl) (by kernel_rfl) (by kernel_rfl) (by kernel_rfl) (by exact fun _ _ _ h => h) (Or.inr ⟨by rfl, rfl⟩) (by assumption) ?_
  try simp only [Act.put, List.setIfInBounds_toArray, List.set_cons_zero, List.set_cons_succ]
  refine wpAnyH_take (i := 5) (v := undef) (by simp only [List.getElem?_toArray, List.getElem?_cons_zero, List.getElem?_cons_succ]; rfl) (by kernel_rfl) (by kernel_rfl) (by kernel_rfl) (by exact fun _ _ _ h => h) (Or.inr ⟨by rfl, rfl⟩) (by assumption) ?_
  try simp only [Act.put, List.setIfInBounds_toArray, List.set_cons_zero, List.set_cons_succ]
  refine wpAnyH_take (i := 6) (v := undef) (by simp only [List.getElem?_toArray, List.getElem?_cons_zero, List.getElem?_cons_succ]; rfl) (by kernel_rfl) (by kernel_rfl) (by kernel_rfl) (by exact fun _ _ _ h => h) (Or.inr ⟨by rfl, rfl⟩) (by assumption) ?_
  try simp only [Act.put, List.setIfInBounds_toArray, List.set_cons_zero, List.set_cons_succ]
  refine wpAnyH_take (i := 7) (v := ?_) (by simp only [List.getElem?_toArray, List.getElem?_cons_zero, List.getElem?_cons_succ]; rfl) (by kernel_rfl) (by kernel_rfl) (by kernel_rfl) (by exact fun _ _ _ h => h) (Or.inl ⟨by rfl, ?_⟩) (by assumption) ?_
  rotate_left
  · (intro w hSw; (try dsimp only at hSw); go_simp; (try with_reducible rfl))
  try simp only [Act.put, List.setIfInBounds_toArray, List.set_cons_zero, List.set_cons_succ]
  refine wpAnyH_take (i := 8) (v := ?_) (by simp only [List.getElem?_toArray, List.getElem?_cons_zero, List.getElem?_cons_succ]; rfl) (by kernel_rfl) (by kernel_rfl) (by kernel_rfl) (by exact fun _ _ _ h => h) (Or.inl ⟨by rfl, ?_⟩) (by assumption) ?_
  rotate_left
  · (intro w hSw; (try dsimp only at hSw); go_simp; (try with_reducible rfl))
  try simp only [Act.put, List.setIfInBounds_toArray, List.set_cons_zero, List.set_cons_succ]
  refine wpAnyH_take (i := 9) (v := undef) (by simp only [List.getElem?_toArray, List.getElem?_cons_zero, List.getElem?_cons_succ]; rfl) (by kernel_rfl) (by kernel_rfl) (by kernel_rfl) (by exact fun _ _ _ h => h) (Or.inr ⟨by rfl, rfl⟩) (by assumption) ?_
  try simp only [Act.put, List.setIfInBounds_toArray, List.set_cons_zero, List.set_cons_succ]
  refine wpAnyH_take (i := 10) (v := undef) (by simp only [List.getElem?_toArray, List.getElem?_cons_zero, List.getElem?_cons_succ]; rfl) (by kernel_rfl) (by kernel_rfl) (by kernel_rfl) (by exact fun _ _ _ h => h) (Or.inr ⟨by rfl, rfl⟩) (by assumption) ?_
  try simp only [Act.put, List.setIfInBounds_toArray, List.set_cons_zero, List.set_cons_succ]
  refine wpAnyH_take (i := 11) (v := undef) (by simp only [List.getElem?_toArray, List.getElem?_cons_zero, List.getElem?_cons_succ]; rfl) (by kernel_rfl) (by kernel_rfl) (by kernel_rfl) (by exact fun _ _ _ h => h) (Or.inr ⟨by rfl, rfl⟩) (by assumption) ?_
  try simp only [Act.put, List.setIfInBounds_toArray, List.set_cons_zero, List.set_cons_succ]
  refine wpAnyH_take (i := 12) (v := undef) (by simp only [List.getElem?_toArray, List.getElem?_cons_zero, List.getElem?_cons_succ]; rfl) (by kernel_rfl) (by kernel_rfl) (by kernel_rfl) (by exact fun _ _ _ h => h) (Or.inr ⟨by rfl, rfl⟩) (by assumption) ?_
  try simp only [Act.put, List.setIfInBounds_toArray, List.set_cons_zero, List.set_cons_succ]
  refine wpAnyH_take (i := 13) (v := ?_) (by simp only [List.getElem?_toArray, List.getElem?_cons_zero, List.getElem?_cons_succ]; rfl) (by kernel_rfl) (by kernel_rfl) (by kernel_rfl) (by exact fun _ _ _ h => h) (Or.inl ⟨by rfl, ?_⟩) (by assumption) ?_
  rotate_left
  · (intro w hSw; (try dsimp only at hSw); go_simp; (try with_reducible rfl))
  try simp only [Act.put, List.setIfInBounds_toArray, List.set_cons_zero, List.set_cons_succ]
  refine wpAnyH_take (i := 14) (v := ?_) (by simp only [List.getElem?_toArray, List.getElem?_cons_zero, List.getElem?_cons_succ]; rfl) (by kernel_rfl) (by kernel_rfl) (by kernel_rfl) (by exact fun _ _ _ h => h) (Or.inl ⟨by rfl, ?_⟩) (by assumption) ?_
  rotate_left
  · (intro w hSw; (try dsimp only at hSw); go_simp; (try with_reducible rfl))
  try simp only [Act.put, List.setIfInBounds_toArray, List.set_cons_zero, List.set_cons_succ]
  refine wpAnyH_done (by kernel_rfl) ?_ _
  go_wp2
  go_ret
  exact ⟨rfl, up T E1 T.size⟩
set_option maxRecDepth 100000 in
set_option maxHeartbeats 2000000 in
theorem may_long (f l r s : Int) (w : World) (hS : ∀ w, Calls Try.prog 39 #[.agg #[.int .u64 f, .int .u64 l, .int .u64 r]] w fun e w' => e = .returned (.int .u64 s) ∧ Below w.heap.size w w')
    (h1 : decide (s ≤ 1048576) = true) (h2 : decide (l ≤ 1099511627776) = false) :
    Calls Try.prog 24 #[.agg #[.int .u64 f, .int .u64 l, .int .u64 r]] w fun e w' => e = .returned (.bool false) ∧ Below w.heap.size w w' := by
  have BC := Box.new w 25 #[.int .u64 f, .int .u64 l, .int .u64 r]
  have T := up1 w (.cells #[.int .u64 f, .int .u64 l, .int .u64 r] 25)
  go_enter Try.func24, Try.ntmps24
  go_wp2
  obtain ⟨w0, hw0⟩ : ∃ w0, w.alloc (.cells #[.int .u64 f, .int .u64 l, .int .u64 r] 25) = w0 := ⟨_, rfl⟩
  rw [hw0] at BC T ⊢
  clear hw0
  refine wp_region_held_drew (S := (fun w' => w'.cell? ⟨w.heap.size, 0, none⟩ = some (.int .u64 f) ∧ w'.cell? ⟨w.heap.size, 1, none⟩ = some (.int .u64 l) ∧ w'.cell? ⟨w.heap.size, 2, none⟩ = some (.int .u64 r))) (by kernel_rfl) BC.tri.2 (fun hHeld => ?_)
  refine wpAnyH_take (i := 0) (v := ?_) (by simp only [List.getElem?_toArray, List.getElem?_cons_zero]; rfl) (by kernel_rfl) (by kernel_rfl) (by kernel_rfl) (by exact fun _ _ _ h => h) (Or.inl ⟨by rfl, ?_⟩) (by assumption) ?_
  rotate_left
  · (intro w hSw; (try dsimp only at hSw); go_simp; (try with_reducible rfl))
  try simp only [Act.put, List.setIfInBounds_toArray, List.set_cons_zero, List.set_cons_succ]
  refine wpAnyH_ready (rs := [1]) (by kernel_rfl) (by simp) ?_
  refine AllReadyH.cons (by simp only [List.getElem?_toArray, List.getElem?_cons_zero, List.getElem?_cons_succ]; rfl) (fun K hK => ?_) AllReadyH.nil
  go_simp
  go_at_call 39
  (with_reducible refine (hS _).mono ?_)
  rintro e w1 ⟨rfl, hb1⟩
  have E1 := undrew hb1
  have hH1 : (fun w' => w'.cell? ⟨w.heap.size, 0, none⟩ = some (.int .u64 f) ∧ w'.cell? ⟨w.heap.size, 1, none⟩ = some (.int .u64 l) ∧ w'.cell? ⟨w.heap.size, 2, none⟩ = some (.int .u64 r)) w1 := (BC.below E1).tri.2
  refine hK.out _ _ hH1 (fun hHeld => ?_)
  clear hK K
  try simp only [Act.put, List.setIfInBounds_toArray, List.set_cons_zero, List.set_cons_succ]
  refine wpAnyH_take (i := 2) (v := ?_) (by simp only [List.getElem?_toArray, List.getElem?_cons_zero, List.getElem?_cons_succ]; rfl) (by kernel_rfl) (by kernel_rfl) (by kernel_rfl) (by exact fun _ _ _ h => h) (Or.inl ⟨by rfl, ?_⟩) (by assumption) ?_
  rotate_left
  · (intro w hSw; (try dsimp only at hSw); go_simp; (try with_reducible rfl))
  try simp only [Act.put, List.setIfInBounds_toArray, List.set_cons_zero, List.set_cons_succ]
  refine wpAnyH_take (i := 3) (v := ?_) (by simp only [List.getElem?_toArray, List.getElem?_cons_zero, List.getElem?_cons_succ]; rfl) (by kernel_rfl) (by kernel_rfl) (by kernel_rfl) (by exact fun _ _ _ h => h) (Or.inl ⟨by rfl, ?_⟩) (by assumption) ?_
  rotate_left
  · (intro w hSw; (try dsimp only at hSw); go_simp; (try with_reducible rfl))
  try simp only [Act.put, List.setIfInBounds_toArray, List.set_cons_zero, List.set_cons_succ]
  refine wpAnyH_take (i := 4) (v := ?_) (by simp only [List.getElem?_toArray, List.getElem?_cons_zero, List.getElem?_cons_succ]; rfl) (by kernel_rfl) (by kernel_rfl) (by kernel_rfl) (by exact fun _ _ _ h => h) (Or.inl ⟨by rfl, ?_⟩) (by assumption) ?_
  rotate_left
  · (intro w hSw; (try dsimp only at hSw); go_simp; (try with_reducible rfl))
  try simp only [Act.put, List.setIfInBounds_toArray, List.set_cons_zero, List.set_cons_succ]
  refine wpAnyH_take (i := 5) (v := ?_) (by simp only [List.getElem?_toArray, List.getElem?_cons_zero, List.getElem?_cons_succ]; rfl) (by kernel_rfl) (by kernel_rfl) (by kernel_rfl) (by exact fun _ _ _ h => h) (Or.inl ⟨by rfl, ?_⟩) (by assumption) ?_
  rotate_left
  · (intro w hSw; (try dsimp only at hSw); go_simp; (try with_reducible rfl))
  try simp only [Act.put, List.setIfInBounds_toArray, List.set_cons_zero, List.set_cons_succ]
  refine wpAnyH_take (i := 6) (v := ?_) (by simp only [List.getElem?_toArray, List.getElem?_cons_zero, List.getElem?_cons_succ]; rfl) (by kernel_rfl) (by kernel_rfl) (by kernel_rfl) (by exact fun _ _ _ h => h) (Or.inl ⟨by rfl, ?_⟩) (by assumption) ?_
  rotate_left
  · (intro w hSw; (try dsimp only at hSw); go_simp; (try with_reducible rfl))
  try simp only [Act.put, List.setIfInBounds_toArray, List.set_cons_zero, List.set_cons_succ]
  refine wpAnyH_take (i := 7) (v := ?_) (by simp only [List.getElem?_toArray, List.getElem?_cons_zero, List.getElem?_cons_succ]; rfl) (by kernel_rfl) (by kernel_rfl) (by kernel_rfl) (by exact fun _ _ _ h => h) (Or.inl ⟨by rfl, ?_⟩) (by assumption) ?_
  rotate_left
  · (intro w hSw; (try dsimp only at hSw); go_simp; (try with_reducible rfl))
  try simp only [Act.put, List.setIfInBounds_toArray, List.set_cons_zero, List.set_cons_succ]
  refine wpAnyH_take (i := 8) (v := ?_) (by simp only [List.getElem?_toArray, List.getElem?_cons_zero, List.getElem?_cons_succ]; rfl) (by kernel_rfl) (by kernel_rfl) (by kernel_rfl) (by exact fun _ _ _ h => h) (Or.inl ⟨by rfl, ?_⟩) (by assumption) ?_
  rotate_left
  · (intro w hSw; (try dsimp only at hSw); go_simp; (try with_reducible rfl))
  try simp only [Act.put, List.setIfInBounds_toArray, List.set_cons_zero, List.set_cons_succ]
  refine wpAnyH_take (i := 9) (v := undef) (by simp only [List.getElem?_toArray, List.getElem?_cons_zero, List.getElem?_cons_succ]; rfl) (by kernel_rfl) (by kernel_rfl) (by kernel_rfl) (by exact fun _ _ _ h => h) (Or.inr ⟨by rfl, rfl⟩) (by assumption) ?_
  try simp only [Act.put, List.setIfInBounds_toArray, List.set_cons_zero, List.set_cons_succ]
  refine wpAnyH_take (i := 10) (v := undef) (by simp only [List.getElem?_toArray, List.getElem?_cons_zero, List.getElem?_cons_succ]; rfl) (by kernel_rfl) (by kernel_rfl) (by kernel_rfl) (by exact fun _ _ _ h => h) (Or.inr ⟨by rfl, rfl⟩) (by assumption) ?_
  try simp only [Act.put, List.setIfInBounds_toArray, List.set_cons_zero, List.set_cons_succ]
  refine wpAnyH_take (i := 11) (v := undef) (by simp only [List.getElem?_toArray, List.getElem?_cons_zero, List.getElem?_cons_succ]; rfl) (by kernel_rfl) (by kernel_rfl) (by kernel_rfl) (by exact fun _ _ _ h => h) (Or.inr ⟨by rfl, rfl⟩) (by assumption) ?_
  try simp only [Act.put, List.setIfInBounds_toArray, List.set_cons_zero, List.set_cons_succ]
  refine wpAnyH_take (i := 12) (v := undef) (by simp only [List.getElem?_toArray, List.getElem?_cons_zero, List.getElem?_cons_succ]; rfl) (by kernel_rfl) (by kernel_rfl) (by kernel_rfl) (by exact fun _ _ _ h => h) (Or.inr ⟨by rfl, rfl⟩) (by assumption) ?_
  try simp only [Act.put, List.setIfInBounds_toArray, List.set_cons_zero, List.set_cons_succ]
  refine wpAnyH_take (i := 13) (v := ?_) (by simp only [List.getElem?_toArray, List.getElem?_cons_zero, List.getElem?_cons_succ]; rfl) (by kernel_rfl) (by kernel_rfl) (by kernel_rfl) (by exact fun _ _ _ h => h) (Or.inl ⟨by rfl, ?_⟩) (by assumption) ?_
  rotate_left
  · (intro w hSw; (try dsimp only at hSw); go_simp; (try with_reducible rfl))
  try simp only [Act.put, List.setIfInBounds_toArray, List.set_cons_zero, List.set_cons_succ]
  refine wpAnyH_take (i := 14) (v := ?_) (by simp only [List.getElem?_toArray, List.getElem?_cons_zero, List.getElem?_cons_succ]; rfl) (by kernel_rfl) (by kernel_rfl) (by kernel_rfl) (by exact fun _ _ _ h => h) (Or.inl ⟨by rfl, ?_⟩) (by assumption) ?_
  rotate_left
  · (intro w hSw; (try dsimp only at hSw); go_simp; (try with_reducible rfl))
  try simp only [Act.put, List.setIfInBounds_toArray, List.set_cons_zero, List.set_cons_succ]
  refine wpAnyH_done (by kernel_rfl) ?_ _
  go_wp2
  go_ret
  exact ⟨rfl, up T E1 T.size⟩
set_option maxRecDepth 100000 in
set_option maxHeartbeats 2000000 in
theorem may_eq (f l r s : Int) (w : World) (hS : ∀ w, Calls Try.prog 39 #[.agg #[.int .u64 f, .int .u64 l, .int .u64 r]] w fun e w' => e = .returned (.int .u64 s) ∧ Below w.heap.size w w')
    (h1 : decide (s ≤ 1048576) = true) (h2 : decide (l ≤ 1099511627776) = true) (hT : ∀ w, Calls Try.prog 40 #[.agg #[.int .u64 f, .int .u64 l, .int .u64 r]] w fun e w' => e = .returned (.agg #[.int .u64 f, .int .u64 l, .int .u64 r]) ∧ Below w.heap.size w w') :
    Calls Try.prog 24 #[.agg #[.int .u64 f, .int .u64 l, .int .u64 r]] w fun e w' => e = .returned (.bool true) ∧ Below w.heap.size w w' := by
  have BC := Box.new w 25 #[.int .u64 f, .int .u64 l, .int .u64 r]
  have T := up1 w (.cells #[.int .u64 f, .int .u64 l, .int .u64 r] 25)
  go_enter Try.func24, Try.ntmps24
  go_wp2
  obtain ⟨w0, hw0⟩ : ∃ w0, w.alloc (.cells #[.int .u64 f, .int .u64 l, .int .u64 r] 25) = w0 := ⟨_, rfl⟩
  rw [hw0] at BC T ⊢
  clear hw0
  refine wp_region_held_drew (S := (fun w' => w'.cell? ⟨w.heap.size, 0, none⟩ = some (.int .u64 f) ∧ w'.cell? ⟨w.heap.size, 1, none⟩ = some (.int .u64 l) ∧ w'.cell? ⟨w.heap.size, 2, none⟩ = some (.int .u64 r))) (by kernel_rfl) BC.tri.2 (fun hHeld => ?_)
  refine wpAnyH_take (i := 0) (v := ?_) (by simp only [List.getElem?_toArray, List.getElem?_cons_zero]; rfl) (by kernel_rfl) (by kernel_rfl) (by kernel_rfl) (by exact fun _ _ _ h => h) (Or.inl ⟨by rfl, ?_⟩) (by assumption) ?_
  rotate_left
  · (intro w hSw; (try dsimp only at hSw); go_simp; (try with_reducible rfl))
  try simp only [Act.put, List.setIfInBounds_toArray, List.set_cons_zero, List.set_cons_succ]
  refine wpAnyH_ready (rs := [1]) (by kernel_rfl) (by simp) ?_
  refine AllReadyH.cons (by simp only [List.getElem?_toArray, List.getElem?_cons_zero, List.getElem?_cons_succ]; rfl) (fun K hK => ?_) AllReadyH.nil
  go_simp
  go_at_call 39
  (with_reducible refine (hS _).mono ?_)
  rintro e w1 ⟨rfl, hb1⟩
  have E1 := undrew hb1
  have hH1 : (fun w' => w'.cell? ⟨w.heap.size, 0, none⟩ = some (.int .u64 f) ∧ w'.cell? ⟨w.heap.size, 1, none⟩ = some (.int .u64 l) ∧ w'.cell? ⟨w.heap.size, 2, none⟩ = some (.int .u64 r)) w1 := (BC.below E1).tri.2
  refine hK.out _ _ hH1 (fun hHeld => ?_)
  clear hK K
  try simp only [Act.put, List.setIfInBounds_toArray, List.set_cons_zero, List.set_cons_succ]
  refine wpAnyH_take (i := 2) (v := ?_) (by simp only [List.getElem?_toArray, List.getElem?_cons_zero, List.getElem?_cons_succ]; rfl) (by kernel_rfl) (by kernel_rfl) (by kernel_rfl) (by exact fun _ _ _ h => h) (Or.inl ⟨by rfl, ?_⟩) (by assumption) ?_
  rotate_left
  · (intro w hSw; (try dsimp only at hSw); go_simp; (try with_reducible rfl))
  try simp only [Act.put, List.setIfInBounds_toArray, List.set_cons_zero, List.set_cons_succ]
  refine wpAnyH_take (i := 3) (v := ?_) (by simp only [List.getElem?_toArray, List.getElem?_cons_zero, List.getElem?_cons_succ]; rfl) (by kernel_rfl) (by kernel_rfl) (by kernel_rfl) (by exact fun _ _ _ h => h) (Or.inl ⟨by rfl, ?_⟩) (by assumption) ?_
  rotate_left
  · (intro w hSw; (try dsimp only at hSw); go_simp; (try with_reducible rfl))
  try simp only [Act.put, List.setIfInBounds_toArray, List.set_cons_zero, List.set_cons_succ]
  refine wpAnyH_take (i := 4) (v := ?_) (by simp only [List.getElem?_toArray, List.getElem?_cons_zero, List.getElem?_cons_succ]; rfl) (by kernel_rfl) (by kernel_rfl) (by kernel_rfl) (by exact fun _ _ _ h => h) (Or.inl ⟨by rfl, ?_⟩) (by assumption) ?_
  rotate_left
  · (intro w hSw; (try dsimp only at hSw); go_simp; (try with_reducible rfl))
  try simp only [Act.put, List.setIfInBounds_toArray, List.set_cons_zero, List.set_cons_succ]
  refine wpAnyH_take (i := 5) (v := ?_) (by simp only [List.getElem?_toArray, List.getElem?_cons_zero, List.getElem?_cons_succ]; rfl) (by kernel_rfl) (by kernel_rfl) (by kernel_rfl) (by exact fun _ _ _ h => h) (Or.inl ⟨by rfl, ?_⟩) (by assumption) ?_
  rotate_left
  · (intro w hSw; (try dsimp only at hSw); go_simp; (try with_reducible rfl))
  try simp only [Act.put, List.setIfInBounds_toArray, List.set_cons_zero, List.set_cons_succ]
  refine wpAnyH_take (i := 6) (v := ?_) (by simp only [List.getElem?_toArray, List.getElem?_cons_zero, List.getElem?_cons_succ]; rfl) (by kernel_rfl) (by kernel_rfl) (by kernel_rfl) (by exact fun _ _ _ h => h) (Or.inl ⟨by rfl, ?_⟩) (by assumption) ?_
  rotate_left
  · (intro w hSw; (try dsimp only at hSw); go_simp; (try with_reducible rfl))
  try simp only [Act.put, List.setIfInBounds_toArray, List.set_cons_zero, List.set_cons_succ]
  refine wpAnyH_take (i := 7) (v := ?_) (by simp only [List.getElem?_toArray, List.getElem?_cons_zero, List.getElem?_cons_succ]; rfl) (by kernel_rfl) (by kernel_rfl) (by kernel_rfl) (by exact fun _ _ _ h => h) (Or.inl ⟨by rfl, ?_⟩) (by assumption) ?_
  rotate_left
  · (intro w hSw; (try dsimp only at hSw); go_simp; (try with_reducible rfl))
  try simp only [Act.put, List.setIfInBounds_toArray, List.set_cons_zero, List.set_cons_succ]
  refine wpAnyH_take (i := 8) (v := ?_) (by simp only [List.getElem?_toArray, List.getElem?_cons_zero, List.getElem?_cons_succ]; rfl) (by kernel_rfl) (by kernel_rfl) (by kernel_rfl) (by exact fun _ _ _ h => h) (Or.inl ⟨by rfl, ?_⟩) (by assumption) ?_
  rotate_left
  · (intro w hSw; (try dsimp only at hSw); go_simp; (try with_reducible rfl))
  try simp only [Act.put, List.setIfInBounds_toArray, List.set_cons_zero, List.set_cons_succ]
  refine wpAnyH_take (i := 9) (v := ?_) (by simp only [List.getElem?_toArray, List.getElem?_cons_zero, List.getElem?_cons_succ]; rfl) (by kernel_rfl) (by kernel_rfl) (by kernel_rfl) (by exact fun _ _ _ h => h) (Or.inl ⟨by rfl, ?_⟩) (by assumption) ?_
  rotate_left
  · (intro w hSw; (try dsimp only at hSw); go_simp; (try with_reducible rfl))
  try simp only [Act.put, List.setIfInBounds_toArray, List.set_cons_zero, List.set_cons_succ]
  refine wpAnyH_take (i := 10) (v := ?_) (by simp only [List.getElem?_toArray, List.getElem?_cons_zero, List.getElem?_cons_succ]; rfl) (by kernel_rfl) (by kernel_rfl) (by kernel_rfl) (by exact fun _ _ _ h => h) (Or.inl ⟨by rfl, ?_⟩) (by assumption) ?_
  rotate_left
  · (intro w hSw; (try dsimp only at hSw); go_simp; (try with_reducible rfl))
  try simp only [Act.put, List.setIfInBounds_toArray, List.set_cons_zero, List.set_cons_succ]
  refine wpAnyH_ready (rs := [11]) (by kernel_rfl) (by simp) ?_
  refine AllReadyH.cons (by simp only [List.getElem?_toArray, List.getElem?_cons_zero, List.getElem?_cons_succ]; rfl) (fun K hK => ?_) AllReadyH.nil
  go_simp
  go_at_call 40
  (with_reducible refine (hT _).mono ?_)
  rintro e w2 ⟨rfl, hb2⟩
  have E2 := up E1 hb2 E1.size
  have hH2 : (fun w' => w'.cell? ⟨w.heap.size, 0, none⟩ = some (.int .u64 f) ∧ w'.cell? ⟨w.heap.size, 1, none⟩ = some (.int .u64 l) ∧ w'.cell? ⟨w.heap.size, 2, none⟩ = some (.int .u64 r)) w2 := (BC.below E2).tri.2
  refine hK.out _ _ hH2 (fun hHeld => ?_)
  clear hK K
  try simp only [Act.put, List.setIfInBounds_toArray, List.set_cons_zero, List.set_cons_succ]
  refine wpAnyH_take (i := 12) (v := ?_) (by simp only [List.getElem?_toArray, List.getElem?_cons_zero, List.getElem?_cons_succ]; rfl) (by kernel_rfl) (by kernel_rfl) (by kernel_rfl) (by exact fun _ _ _ h => h) (Or.inl ⟨by rfl, ?_⟩) (by assumption) ?_
  rotate_left
  · (intro w hSw; (try dsimp only at hSw); go_simp; (try with_reducible rfl))
  try simp only [Act.put, List.setIfInBounds_toArray, List.set_cons_zero, List.set_cons_succ]
  refine wpAnyH_take (i := 13) (v := ?_) (by simp only [List.getElem?_toArray, List.getElem?_cons_zero, List.getElem?_cons_succ]; rfl) (by kernel_rfl) (by kernel_rfl) (by kernel_rfl) (by exact fun _ _ _ h => h) (Or.inl ⟨by rfl, ?_⟩) (by assumption) ?_
  rotate_left
  · (intro w hSw; (try dsimp only at hSw); go_simp; (try with_reducible rfl))
  try simp only [Act.put, List.setIfInBounds_toArray, List.set_cons_zero, List.set_cons_succ]
  refine wpAnyH_take (i := 14) (v := ?_) (by simp only [List.getElem?_toArray, List.getElem?_cons_zero, List.getElem?_cons_succ]; rfl) (by kernel_rfl) (by kernel_rfl) (by kernel_rfl) (by exact fun _ _ _ h => h) (Or.inl ⟨by rfl, ?_⟩) (by assumption) ?_
  rotate_left
  · (intro w hSw; (try dsimp only at hSw); go_simp; (try with_reducible rfl))
  try simp only [Act.put, List.setIfInBounds_toArray, List.set_cons_zero, List.set_cons_succ]
  refine wpAnyH_done (by kernel_rfl) ?_ _
  go_wp2
  go_ret
  exact ⟨rfl, up T E2 T.size⟩
set_option maxRecDepth 100000 in
set_option maxHeartbeats 2000000 in
theorem may_ne1 (f l r s : Int) (w : World) (hS : ∀ w, Calls Try.prog 39 #[.agg #[.int .u64 f, .int .u64 l, .int .u64 r]] w fun e w' => e = .returned (.int .u64 s) ∧ Below w.heap.size w w')
    (h1 : decide (s ≤ 1048576) = true) (h2 : decide (l ≤ 1099511627776) = true) (h3 : ¬ f = 0) (hT : ∀ w, Calls Try.prog 40 #[.agg #[.int .u64 f, .int .u64 l, .int .u64 r]] w fun e w' => e = .returned (.agg #[.int .u64 0, .int .u64 0, .int .u64 r]) ∧ Below w.heap.size w w') :
    Calls Try.prog 24 #[.agg #[.int .u64 f, .int .u64 l, .int .u64 r]] w fun e w' => e = .returned (.bool false) ∧ Below w.heap.size w w' := by
  have BC := Box.new w 25 #[.int .u64 f, .int .u64 l, .int .u64 r]
  have T := up1 w (.cells #[.int .u64 f, .int .u64 l, .int .u64 r] 25)
  go_enter Try.func24, Try.ntmps24
  go_wp2
  obtain ⟨w0, hw0⟩ : ∃ w0, w.alloc (.cells #[.int .u64 f, .int .u64 l, .int .u64 r] 25) = w0 := ⟨_, rfl⟩
  rw [hw0] at BC T ⊢
  clear hw0
  refine wp_region_held_drew (S := (fun w' => w'.cell? ⟨w.heap.size, 0, none⟩ = some (.int .u64 f) ∧ w'.cell? ⟨w.heap.size, 1, none⟩ = some (.int .u64 l) ∧ w'.cell? ⟨w.heap.size, 2, none⟩ = some (.int .u64 r))) (by kernel_rfl) BC.tri.2 (fun hHeld => ?_)
  refine wpAnyH_take (i := 0) (v := ?_) (by simp only [List.getElem?_toArray, List.getElem?_cons_zero]; rfl) (by kernel_rfl) (by kernel_rfl) (by kernel_rfl) (by exact fun _ _ _ h => h) (Or.inl ⟨by rfl, ?_⟩) (by assumption) ?_
  rotate_left
  · (intro w hSw; (try dsimp only at hSw); go_simp; (try with_reducible rfl))
  try simp only [Act.put, List.setIfInBounds_toArray, List.set_cons_zero, List.set_cons_succ]
  refine wpAnyH_ready (rs := [1]) (by kernel_rfl) (by simp) ?_
  refine AllReadyH.cons (by simp only [List.getElem?_toArray, List.getElem?_cons_zero, List.getElem?_cons_succ]; rfl) (fun K hK => ?_) AllReadyH.nil
  go_simp
  go_at_call 39
  (with_reducible refine (hS _).mono ?_)
  rintro e w1 ⟨rfl, hb1⟩
  have E1 := undrew hb1
  have hH1 : (fun w' => w'.cell? ⟨w.heap.size, 0, none⟩ = some (.int .u64 f) ∧ w'.cell? ⟨w.heap.size, 1, none⟩ = some (.int .u64 l) ∧ w'.cell? ⟨w.heap.size, 2, none⟩ = some (.int .u64 r)) w1 := (BC.below E1).tri.2
  refine hK.out _ _ hH1 (fun hHeld => ?_)
  clear hK K
  try simp only [Act.put, List.setIfInBounds_toArray, List.set_cons_zero, List.set_cons_succ]
  refine wpAnyH_take (i := 2) (v := ?_) (by simp only [List.getElem?_toArray, List.getElem?_cons_zero, List.getElem?_cons_succ]; rfl) (by kernel_rfl) (by kernel_rfl) (by kernel_rfl) (by exact fun _ _ _ h => h) (Or.inl ⟨by rfl, ?_⟩) (by assumption) ?_
  rotate_left
  · (intro w hSw; (try dsimp only at hSw); go_simp; (try with_reducible rfl))
  try simp only [Act.put, List.setIfInBounds_toArray, List.set_cons_zero, List.set_cons_succ]
  refine wpAnyH_take (i := 3) (v := ?_) (by simp only [List.getElem?_toArray, List.getElem?_cons_zero, List.getElem?_cons_succ]; rfl) (by kernel_rfl) (by kernel_rfl) (by kernel_rfl) (by exact fun _ _ _ h => h) (Or.inl ⟨by rfl, ?_⟩) (by assumption) ?_
  rotate_left
  · (intro w hSw; (try dsimp only at hSw); go_simp; (try with_reducible rfl))
  try simp only [Act.put, List.setIfInBounds_toArray, List.set_cons_zero, List.set_cons_succ]
  refine wpAnyH_take (i := 4) (v := ?_) (by simp only [List.getElem?_toArray, List.getElem?_cons_zero, List.getElem?_cons_succ]; rfl) (by kernel_rfl) (by kernel_rfl) (by kernel_rfl) (by exact fun _ _ _ h => h) (Or.inl ⟨by rfl, ?_⟩) (by assumption) ?_
  rotate_left
  · (intro w hSw; (try dsimp only at hSw); go_simp; (try with_reducible rfl))
  try simp only [Act.put, List.setIfInBounds_toArray, List.set_cons_zero, List.set_cons_succ]
  refine wpAnyH_take (i := 5) (v := ?_) (by simp only [List.getElem?_toArray, List.getElem?_cons_zero, List.getElem?_cons_succ]; rfl) (by kernel_rfl) (by kernel_rfl) (by kernel_rfl) (by exact fun _ _ _ h => h) (Or.inl ⟨by rfl, ?_⟩) (by assumption) ?_
  rotate_left
  · (intro w hSw; (try dsimp only at hSw); go_simp; (try with_reducible rfl))
  try simp only [Act.put, List.setIfInBounds_toArray, List.set_cons_zero, List.set_cons_succ]
  refine wpAnyH_take (i := 6) (v := ?_) (by simp only [List.getElem?_toArray, List.getElem?_cons_zero, List.getElem?_cons_succ]; rfl) (by kernel_rfl) (by kernel_rfl) (by kernel_rfl) (by exact fun _ _ _ h => h) (Or.inl ⟨by rfl, ?_⟩) (by assumption) ?_
  rotate_left
  · (intro w hSw; (try dsimp only at hSw); go_simp; (try with_reducible rfl))
  try simp only [Act.put, List.setIfInBounds_toArray, List.set_cons_zero, List.set_cons_succ]
  refine wpAnyH_take (i := 7) (v := ?_) (by simp only [List.getElem?_toArray, List.getElem?_cons_zero, List.getElem?_cons_succ]; rfl) (by kernel_rfl) (by kernel_rfl) (by kernel_rfl) (by exact fun _ _ _ h => h) (Or.inl ⟨by rfl, ?_⟩) (by assumption) ?_
  rotate_left
  · (intro w hSw; (try dsimp only at hSw); go_simp; (try with_reducible rfl))
  try simp only [Act.put, List.setIfInBounds_toArray, List.set_cons_zero, List.set_cons_succ]
  refine wpAnyH_take (i := 8) (v := ?_) (by simp only [List.getElem?_toArray, List.getElem?_cons_zero, List.getElem?_cons_succ]; rfl) (by kernel_rfl) (by kernel_rfl) (by kernel_rfl) (by exact fun _ _ _ h => h) (Or.inl ⟨by rfl, ?_⟩) (by assumption) ?_
  rotate_left
  · (intro w hSw; (try dsimp only at hSw); go_simp; (try with_reducible rfl))
  try simp only [Act.put, List.setIfInBounds_toArray, List.set_cons_zero, List.set_cons_succ]
  refine wpAnyH_take (i := 9) (v := ?_) (by simp only [List.getElem?_toArray, List.getElem?_cons_zero, List.getElem?_cons_succ]; rfl) (by kernel_rfl) (by kernel_rfl) (by kernel_rfl) (by exact fun _ _ _ h => h) (Or.inl ⟨by rfl, ?_⟩) (by assumption) ?_
  rotate_left
  · (intro w hSw; (try dsimp only at hSw); go_simp; (try with_reducible rfl))
  try simp only [Act.put, List.setIfInBounds_toArray, List.set_cons_zero, List.set_cons_succ]
  refine wpAnyH_take (i := 10) (v := ?_) (by simp only [List.getElem?_toArray, List.getElem?_cons_zero, List.getElem?_cons_succ]; rfl) (by kernel_rfl) (by kernel_rfl) (by kernel_rfl) (by exact fun _ _ _ h => h) (Or.inl ⟨by rfl, ?_⟩) (by assumption) ?_
  rotate_left
  · (intro w hSw; (try dsimp only at hSw); go_simp; (try with_reducible rfl))
  try simp only [Act.put, List.setIfInBounds_toArray, List.set_cons_zero, List.set_cons_succ]
  refine wpAnyH_ready (rs := [11]) (by kernel_rfl) (by simp) ?_
  refine AllReadyH.cons (by simp only [List.getElem?_toArray, List.getElem?_cons_zero, List.getElem?_cons_succ]; rfl) (fun K hK => ?_) AllReadyH.nil
  go_simp
  go_at_call 40
  (with_reducible refine (hT _).mono ?_)
  rintro e w2 ⟨rfl, hb2⟩
  have E2 := up E1 hb2 E1.size
  have hH2 : (fun w' => w'.cell? ⟨w.heap.size, 0, none⟩ = some (.int .u64 f) ∧ w'.cell? ⟨w.heap.size, 1, none⟩ = some (.int .u64 l) ∧ w'.cell? ⟨w.heap.size, 2, none⟩ = some (.int .u64 r)) w2 := (BC.below E2).tri.2
  refine hK.out _ _ hH2 (fun hHeld => ?_)
  clear hK K
  try simp only [Act.put, List.setIfInBounds_toArray, List.set_cons_zero, List.set_cons_succ]
  refine wpAnyH_take (i := 12) (v := ?_) (by simp only [List.getElem?_toArray, List.getElem?_cons_zero, List.getElem?_cons_succ]; rfl) (by kernel_rfl) (by kernel_rfl) (by kernel_rfl) (by exact fun _ _ _ h => h) (Or.inl ⟨by rfl, ?_⟩) (by assumption) ?_
  rotate_left
  · (intro w hSw; (try dsimp only at hSw); go_simp; (try with_reducible rfl))
  try simp only [Act.put, List.setIfInBounds_toArray, List.set_cons_zero, List.set_cons_succ]
  refine wpAnyH_take (i := 13) (v := ?_) (by simp only [List.getElem?_toArray, List.getElem?_cons_zero, List.getElem?_cons_succ]; rfl) (by kernel_rfl) (by kernel_rfl) (by kernel_rfl) (by exact fun _ _ _ h => h) (Or.inl ⟨by rfl, ?_⟩) (by assumption) ?_
  rotate_left
  · (intro w hSw; (try dsimp only at hSw); go_simp; (try with_reducible rfl))
  try simp only [Act.put, List.setIfInBounds_toArray, List.set_cons_zero, List.set_cons_succ]
  refine wpAnyH_take (i := 14) (v := ?_) (by simp only [List.getElem?_toArray, List.getElem?_cons_zero, List.getElem?_cons_succ]; rfl) (by kernel_rfl) (by kernel_rfl) (by kernel_rfl) (by exact fun _ _ _ h => h) (Or.inl ⟨by rfl, ?_⟩) (by assumption) ?_
  rotate_left
  · (intro w hSw; (try dsimp only at hSw); go_simp; (try with_reducible rfl))
  try simp only [Act.put, List.setIfInBounds_toArray, List.set_cons_zero, List.set_cons_succ]
  refine wpAnyH_done (by kernel_rfl) ?_ _
  go_wp2
  go_ret
  exact ⟨rfl, up T E2 T.size⟩
set_option maxRecDepth 100000 in
set_option maxHeartbeats 2000000 in
theorem may_ne2 (l r s : Int) (w : World) (hS : ∀ w, Calls Try.prog 39 #[.agg #[.int .u64 0, .int .u64 l, .int .u64 r]] w fun e w' => e = .returned (.int .u64 s) ∧ Below w.heap.size w w')
    (h1 : decide (s ≤ 1048576) = true) (h2 : decide (l ≤ 1099511627776) = true) (h4 : ¬ l = 0) (hT : ∀ w, Calls Try.prog 40 #[.agg #[.int .u64 0, .int .u64 l, .int .u64 r]] w fun e w' => e = .returned (.agg #[.int .u64 0, .int .u64 0, .int .u64 r]) ∧ Below w.heap.size w w') :
    Calls Try.prog 24 #[.agg #[.int .u64 0, .int .u64 l, .int .u64 r]] w fun e w' => e = .returned (.bool false) ∧ Below w.heap.size w w' := by
  have BC := Box.new w 25 #[.int .u64 0, .int .u64 l, .int .u64 r]
  have T := up1 w (.cells #[.int .u64 0, .int .u64 l, .int .u64 r] 25)
  go_enter Try.func24, Try.ntmps24
  go_wp2
  obtain ⟨w0, hw0⟩ : ∃ w0, w.alloc (.cells #[.int .u64 0, .int .u64 l, .int .u64 r] 25) = w0 := ⟨_, rfl⟩
  rw [hw0] at BC T ⊢
  clear hw0
  refine wp_region_held_drew (S := (fun w' => w'.cell? ⟨w.heap.size, 0, none⟩ = some (.int .u64 0) ∧ w'.cell? ⟨w.heap.size, 1, none⟩ = some (.int .u64 l) ∧ w'.cell? ⟨w.heap.size, 2, none⟩ = some (.int .u64 r))) (by kernel_rfl) BC.tri.2 (fun hHeld => ?_)
  refine wpAnyH_take (i := 0) (v := ?_) (by simp only [List.getElem?_toArray, List.getElem?_cons_zero]; rfl) (by kernel_rfl) (by kernel_rfl) (by kernel_rfl) (by exact fun _ _ _ h => h) (Or.inl ⟨by rfl, ?_⟩) (by assumption) ?_
  rotate_left
  · (intro w hSw; (try dsimp only at hSw); go_simp; (try with_reducible rfl))
  try simp only [Act.put, List.setIfInBounds_toArray, List.set_cons_zero, List.set_cons_succ]
  refine wpAnyH_ready (rs := [1]) (by kernel_rfl) (by simp) ?_
  refine AllReadyH.cons (by simp only [List.getElem?_toArray, List.getElem?_cons_zero, List.getElem?_cons_succ]; rfl) (fun K hK => ?_) AllReadyH.nil
  go_simp
  go_at_call 39
  (with_reducible refine (hS _).mono ?_)
  rintro e w1 ⟨rfl, hb1⟩
  have E1 := undrew hb1
  have hH1 : (fun w' => w'.cell? ⟨w.heap.size, 0, none⟩ = some (.int .u64 0) ∧ w'.cell? ⟨w.heap.size, 1, none⟩ = some (.int .u64 l) ∧ w'.cell? ⟨w.heap.size, 2, none⟩ = some (.int .u64 r)) w1 := (BC.below E1).tri.2
  refine hK.out _ _ hH1 (fun hHeld => ?_)
  clear hK K
  try simp only [Act.put, List.setIfInBounds_toArray, List.set_cons_zero, List.set_cons_succ]
  refine wpAnyH_take (i := 2) (v := ?_) (by simp only [List.getElem?_toArray, List.getElem?_cons_zero, List.getElem?_cons_succ]; rfl) (by kernel_rfl) (by kernel_rfl) (by kernel_rfl) (by exact fun _ _ _ h => h) (Or.inl ⟨by rfl, ?_⟩) (by assumption) ?_
  rotate_left
  · (intro w hSw; (try dsimp only at hSw); go_simp; (try with_reducible rfl))
  try simp only [Act.put, List.setIfInBounds_toArray, List.set_cons_zero, List.set_cons_succ]
  refine wpAnyH_take (i := 3) (v := ?_) (by simp only [List.getElem?_toArray, List.getElem?_cons_zero, List.getElem?_cons_succ]; rfl) (by kernel_rfl) (by kernel_rfl) (by kernel_rfl) (by exact fun _ _ _ h => h) (Or.inl ⟨by rfl, ?_⟩) (by assumption) ?_
  rotate_left
  · (intro w hSw; (try dsimp only at hSw); go_simp; (try with_reducible rfl))
  try simp only [Act.put, List.setIfInBounds_toArray, List.set_cons_zero, List.set_cons_succ]
  refine wpAnyH_take (i := 4) (v := ?_) (by simp only [List.getElem?_toArray, List.getElem?_cons_zero, List.getElem?_cons_succ]; rfl) (by kernel_rfl) (by kernel_rfl) (by kernel_rfl) (by exact fun _ _ _ h => h) (Or.inl ⟨by rfl, ?_⟩) (by assumption) ?_
  rotate_left
  · (intro w hSw; (try dsimp only at hSw); go_simp; (try with_reducible rfl))
  try simp only [Act.put, List.setIfInBounds_toArray, List.set_cons_zero, List.set_cons_succ]
  refine wpAnyH_take (i := 5) (v := ?_) (by simp only [List.getElem?_toArray, List.getElem?_cons_zero, List.getElem?_cons_succ]; rfl) (by kernel_rfl) (by kernel_rfl) (by kernel_rfl) (by exact fun _ _ _ h => h) (Or.inl ⟨by rfl, ?_⟩) (by assumption) ?_
  rotate_left
  · (intro w hSw; (try dsimp only at hSw); go_simp; (try with_reducible rfl))
  try simp only [Act.put, List.setIfInBounds_toArray, List.set_cons_zero, List.set_cons_succ]
  refine wpAnyH_take (i := 6) (v := ?_) (by simp only [List.getElem?_toArray, List.getElem?_cons_zero, List.getElem?_cons_succ]; rfl) (by kernel_rfl) (by kernel_rfl) (by kernel_rfl) (by exact fun _ _ _ h => h) (Or.inl ⟨by rfl, ?_⟩) (by assumption) ?_
  rotate_left
  · (intro w hSw; (try dsimp only at hSw); go_simp; (try with_reducible rfl))
  try simp only [Act.put, List.setIfInBounds_toArray, List.set_cons_zero, List.set_cons_succ]
  refine wpAnyH_take (i := 7) (v := ?_) (by simp only [List.getElem?_toArray, List.getElem?_cons_zero, List.getElem?_cons_succ]; rfl) (by kernel_rfl) (by kernel_rfl) (by kernel_rfl) (by exact fun _ _ _ h => h) (Or.inl ⟨by rfl, ?_⟩) (by assumption) ?_
  rotate_left
  · (intro w hSw; (try dsimp only at hSw); go_simp; (try with_reducible rfl))
  try simp only [Act.put, List.setIfInBounds_toArray, List.set_cons_zero, List.set_cons_succ]
  refine wpAnyH_take (i := 8) (v := ?_) (by simp only [List.getElem?_toArray, List.getElem?_cons_zero, List.getElem?_cons_succ]; rfl) (by kernel_rfl) (by kernel_rfl) (by kernel_rfl) (by exact fun _ _ _ h => h) (Or.inl ⟨by rfl, ?_⟩) (by assumption) ?_
  rotate_left
  · (intro w hSw; (try dsimp only at hSw); go_simp; (try with_reducible rfl))
  try simp only [Act.put, List.setIfInBounds_toArray, List.set_cons_zero, List.set_cons_succ]
  refine wpAnyH_take (i := 9) (v := ?_) (by simp only [List.getElem?_toArray, List.getElem?_cons_zero, List.getElem?_cons_succ]; rfl) (by kernel_rfl) (by kernel_rfl) (by kernel_rfl) (by exact fun _ _ _ h => h) (Or.inl ⟨by rfl, ?_⟩) (by assumption) ?_
  rotate_left
  · (intro w hSw; (try dsimp only at hSw); go_simp; (try with_reducible rfl))
  try simp only [Act.put, List.setIfInBounds_toArray, List.set_cons_zero, List.set_cons_succ]
  refine wpAnyH_take (i := 10) (v := ?_) (by simp only [List.getElem?_toArray, List.getElem?_cons_zero, List.getElem?_cons_succ]; rfl) (by kernel_rfl) (by kernel_rfl) (by kernel_rfl) (by exact fun _ _ _ h => h) (Or.inl ⟨by rfl, ?_⟩) (by assumption) ?_
  rotate_left
  · (intro w hSw; (try dsimp only at hSw); go_simp; (try with_reducible rfl))
  try simp only [Act.put, List.setIfInBounds_toArray, List.set_cons_zero, List.set_cons_succ]
  refine wpAnyH_ready (rs := [11]) (by kernel_rfl) (by simp) ?_
  refine AllReadyH.cons (by simp only [List.getElem?_toArray, List.getElem?_cons_zero, List.getElem?_cons_succ]; rfl) (fun K hK => ?_) AllReadyH.nil
  go_simp
  go_at_call 40
  (with_reducible refine (hT _).mono ?_)
  rintro e w2 ⟨rfl, hb2⟩
  have E2 := up E1 hb2 E1.size
  have hH2 : (fun w' => w'.cell? ⟨w.heap.size, 0, none⟩ = some (.int .u64 0) ∧ w'.cell? ⟨w.heap.size, 1, none⟩ = some (.int .u64 l) ∧ w'.cell? ⟨w.heap.size, 2, none⟩ = some (.int .u64 r)) w2 := (BC.below E2).tri.2
  refine hK.out _ _ hH2 (fun hHeld => ?_)
  clear hK K
  try simp only [Act.put, List.setIfInBounds_toArray, List.set_cons_zero, List.set_cons_succ]
  refine wpAnyH_take (i := 12) (v := ?_) (by simp only [List.getElem?_toArray, List.getElem?_cons_zero, List.getElem?_cons_succ]; rfl) (by kernel_rfl) (by kernel_rfl) (by kernel_rfl) (by exact fun _ _ _ h => h) (Or.inl ⟨by rfl, ?_⟩) (by assumption) ?_
  rotate_left
  · (intro w hSw; (try dsimp only at hSw); go_simp; (try with_reducible rfl))
  try simp only [Act.put, List.setIfInBounds_toArray, List.set_cons_zero, List.set_cons_succ]
  refine wpAnyH_take (i := 13) (v := ?_) (by simp only [List.getElem?_toArray, List.getElem?_cons_zero, List.getElem?_cons_succ]; rfl) (by kernel_rfl) (by kernel_rfl) (by kernel_rfl) (by exact fun _ _ _ h => h) (Or.inl ⟨by rfl, ?_⟩) (by assumption) ?_
  rotate_left
  · (intro w hSw; (try dsimp only at hSw); go_simp; (try with_reducible rfl))
  try simp only [Act.put, List.setIfInBounds_toArray, List.set_cons_zero, List.set_cons_succ]
  refine wpAnyH_take (i := 14) (v := ?_) (by simp only [List.getElem?_toArray, List.getElem?_cons_zero, List.getElem?_cons_succ]; rfl) (by kernel_rfl) (by kernel_rfl) (by kernel_rfl) (by exact fun _ _ _ h => h) (Or.inl ⟨by rfl, ?_⟩) (by assumption) ?_
  rotate_left
  · (intro w hSw; (try dsimp only at hSw); go_simp; (try with_reducible rfl))
  try simp only [Act.put, List.setIfInBounds_toArray, List.set_cons_zero, List.set_cons_succ]
  refine wpAnyH_done (by kernel_rfl) ?_ _
  go_wp2
  go_ret
  exact ⟨rfl, up T E2 T.size⟩
theorem may_any (f l r : Int) (w : World) (hf : Word f) (hl : Word l) (hr : Word r) :
    Calls Try.prog 24 #[.agg #[.int .u64 f, .int .u64 l, .int .u64 r]] w fun e w' => e = .returned (.bool (mayB f l r)) ∧ Below w.heap.size w w' := by
  have hS := fun w => steepest_of f l r w
  rw [stF_eq hf hl hr] at hS
  have hT := fun w => told_any f l r w
  unfold Word at *
  by_cases h1 : cSt f l r ≤ 1048576
  · by_cases h2 : l ≤ 1099511627776
    · have h1' := h1
      unfold cSt at h1'
      by_cases h3 : l = 0 ∨ f = r
      · have e1 : tdF f l r = 0 := by unfold tdF; rw [if_pos h3]
        have e2 : tdL f l r = 0 := by unfold tdL; rw [if_pos h3]
        rw [e1, e2] at hT
        by_cases h4 : f = 0
        · by_cases h5 : l = 0
          · have : mayB f l r = true := decide_eq_true ⟨by omega, by split at h1' <;> omega, by omega, .inl ⟨h5, h4⟩⟩
            rw [this]
            subst h4 h5
            exact may_eq 0 0 r _ w hS (by simpa using h1) (by simp) hT
          · have : mayB f l r = false := decide_eq_false (by omega)
            rw [this]
            subst h4
            exact may_ne2 l r _ w hS (by simpa using h1) (by simpa using h2) h5 hT
        · have : mayB f l r = false := decide_eq_false (by omega)
          rw [this]
          exact may_ne1 f l r _ w hS (by simpa using h1) (by simpa using h2) h4 hT
      · have e1 : tdF f l r = f := by unfold tdF; rw [if_neg h3]
        have e2 : tdL f l r = l := by unfold tdL; rw [if_neg h3]
        rw [e1, e2] at hT
        have : mayB f l r = true := decide_eq_true ⟨by split at h1' <;> omega, by split at h1' <;> omega, by omega, .inr ⟨by omega, by omega⟩⟩
        rw [this]
        exact may_eq f l r _ w hS (by simpa using h1) (by simpa using h2) hT
    · have : mayB f l r = false := decide_eq_false (by omega)
      rw [this]
      exact may_long f l r _ w hS (by simpa using h1) (by simp; omega)
  · have : mayB f l r = false := decide_eq_false (by unfold cSt at h1; split at h1 <;> omega)
    rw [this]
    exact may_hi f l r _ w hS (by simp; omega)
end Go.Proofs.Ytjbpaapglamilaa
namespace Go.Proofs.Ytjbpaapglamilaa
open Go.RowKit W
set_option linter.unusedVariables false
theorem beqB {a b : Int} {c : Bool} (h1 : a = b → c = true) (h2 : a ≠ b → c = false) : (a == b) = c := by
  by_cases h : a = b
  · rw [h1 h]; simpa using h
  · rw [h2 h]; simpa using h
theorem bneB {a b : Int} {c : Bool} (h1 : a = b → c = false) (h2 : a ≠ b → c = true) : (a != b) = c := by
  by_cases h : a = b
  · rw [h1 h]; simpa using h
  · rw [h2 h]; simpa using h
theorem kMay_any (f l r : Int) (w : World) (hf : Word f) (hl : Word l) (hr : Word r) :
    Calls Try.prog 25 #[.agg #[.int .u64 f, .int .u64 l, .int .u64 r]] w fun e w' => e = .returned (.bool (mayB f l r)) ∧ Below w.heap.size w w' := by
  unfold Word at *
  go_enter Try.func25, Try.ntmps25
  go_wp2
  all_goals go_ret
  all_goals (refine ⟨?_, up1 _ _⟩; first | (have e : mayB f l r = true := decide_eq_true (by omega)); rw [e]; rfl | (have e : mayB f l r = false := decide_eq_false (by omega)); rw [e]; rfl | (have e : (f == 0) = mayB f l r := beqB (fun h => decide_eq_true (by omega)) (fun h => decide_eq_false (by omega))); rw [← e]; rfl | (have e : (f != r) = mayB f l r := bneB (fun h => decide_eq_false (by omega)) (fun h => decide_eq_true (by omega))); rw [← e]; rfl)
end Go.Proofs.Ytjbpaapglamilaa
namespace Go.Proofs.Ytjbpaapglamilaa
open Go.RowKit W
set_option linter.unusedVariables false
theorem Box.has {W : World} {B : Nat} {t : TypeId} {x y : Int} (h : Box W B #[.int .u64 x, .int .u64 y] t) : Has W B x y :=
  ⟨h.lt, by simp [World.cell?, show W.heap[B]? = _ from h], by simp [World.cell?, show W.heap[B]? = _ from h]⟩
theorem Box.setNe {W : World} {B : Nat} {t : TypeId} {vs : Array Value} (h : Box W B vs t) {a : Addr} (hne : B ≠ a.block) (v : Value) : Box (W.setCell a v) B vs t := (Below.heap_setCell W a v B hne).trans h
set_option maxRecDepth 100000 in
set_option maxHeartbeats 2000000 in
theorem kWide_lo (f l r t a b : Int) (w : World) (h1 : t ≤ l)
    (hM : ∀ w, Calls Try.prog 66 #[.int .u64 f, .int .u64 t] w fun e w' => e = .returned (.agg #[.int .u64 a, .int .u64 b]) ∧ Below w.heap.size w w')
    (hP : ∀ w, Calls Try.prog 86 #[.agg #[.int .u64 a, .int .u64 b], .agg #[.int .u64 0, .int .u64 0]] w fun e w' => e = .returned (.tuple #[.agg #[.int .u64 a, .int .u64 b], .int .i64 0]) ∧ Below w.heap.size w w') :
    Calls Try.prog 87 #[.agg #[.int .u64 f, .int .u64 l, .int .u64 r], .int .u64 t] w fun e w' => e = .returned (.agg #[.int .u64 a, .int .u64 b]) ∧ Below w.heap.size w w' := by
  have T2 := up2 w (.cells #[.int .u64 f, .int .u64 l, .int .u64 r] 25) (.cells #[.int .u64 0, .int .u64 0] 96)
  have BC := (Box.new w 25 #[.int .u64 f, .int .u64 l, .int .u64 r]).alloc (.cells #[.int .u64 0, .int .u64 0] 96)
  have BR := Box.new (w.alloc (.cells #[.int .u64 f, .int .u64 l, .int .u64 r] 25)) 96 #[.int .u64 0, .int .u64 0]
  simp only [World.size_alloc] at BR
  have m1 : min t l = t := by omega
  have m2 : max t l = l := by omega
  have hd : decide (l < t) = false := by simp; omega
  go_enter Try.func87, Try.ntmps87
  go_wp2_with (first
    | (go_at_call 66; (with_reducible refine (hM _).mono ?_); rintro e w1 ⟨rfl, hb1⟩; replace BC := BC.below hb1; replace BR := BR.below hb1; obtain ⟨c0, c1, c2, c3⟩ := BC.tri; replace T2 := up T2 hb1 (by simp; omega))
    | (go_at_call 86; (with_reducible refine (hP _).mono ?_); rintro e w2 ⟨rfl, hb2⟩; have BR2 := (((BR.alloc (.cells #[.int .u64 a, .int .u64 b] 96)).alloc (.cells #[.int .u64 0, .int .u64 0] 96)).below hb2).alloc (.cells #[.int .u64 a, .int .u64 b] 96); obtain ⟨r0, r1, r2⟩ := BR2.has; have g0 := BR2.frz 0; have g1 := BR2.frz 1; have T3 := (T2.alloc T2.size (.cells #[.int .u64 a, .int .u64 b] 96)).alloc (by have := T2.size; simp; omega) (.cells #[.int .u64 0, .int .u64 0] 96); have T4 := (up T3 hb2 T3.size).alloc (up T3 hb2 T3.size).size (.cells #[.int .u64 a, .int .u64 b] 96)))
  exact bodyPost_ret (v := .agg #[.int .u64 a, .int .u64 b]) (by simp [results, Try.results87, go_sem, r1, r2]) rfl ⟨rfl, (T4.setCell (by simp) _).setCell (by simp) _⟩
set_option maxRecDepth 100000 in
set_option maxHeartbeats 2000000 in
theorem kWide_hi (f l r t a b c d x y : Int) (w : World) (h1 : l < t) (hw : IntKind.u64.wrap (t - l) = t - l)
    (hM : ∀ w, Calls Try.prog 66 #[.int .u64 f, .int .u64 l] w fun e w' => e = .returned (.agg #[.int .u64 a, .int .u64 b]) ∧ Below w.heap.size w w')
    (hN : ∀ w, Calls Try.prog 66 #[.int .u64 r, .int .u64 (t - l)] w fun e w' => e = .returned (.agg #[.int .u64 c, .int .u64 d]) ∧ Below w.heap.size w w')
    (hP : ∀ w, Calls Try.prog 86 #[.agg #[.int .u64 a, .int .u64 b], .agg #[.int .u64 c, .int .u64 d]] w fun e w' => e = .returned (.tuple #[.agg #[.int .u64 x, .int .u64 y], .int .i64 0]) ∧ Below w.heap.size w w') :
    Calls Try.prog 87 #[.agg #[.int .u64 f, .int .u64 l, .int .u64 r], .int .u64 t] w fun e w' => e = .returned (.agg #[.int .u64 x, .int .u64 y]) ∧ Below w.heap.size w w' := by
  have T2 := up2 w (.cells #[.int .u64 f, .int .u64 l, .int .u64 r] 25) (.cells #[.int .u64 0, .int .u64 0] 96)
  have BC := (Box.new w 25 #[.int .u64 f, .int .u64 l, .int .u64 r]).alloc (.cells #[.int .u64 0, .int .u64 0] 96)
  have BR := Box.new (w.alloc (.cells #[.int .u64 f, .int .u64 l, .int .u64 r] 25)) 96 #[.int .u64 0, .int .u64 0]
  simp only [World.size_alloc] at BR
  have m1 : min t l = l := by omega
  have m2 : max t l = t := by omega
  have hd : decide (l < t) = true := by simp; omega
  go_enter Try.func87, Try.ntmps87
  go_wp2_with (first
    | (go_at_call 66; (with_reducible refine (hM _).mono ?_); rintro e w1 ⟨rfl, hb1⟩; replace BC := BC.below hb1; replace BR := BR.below hb1; obtain ⟨c0, c1, c2, c3⟩ := BC.tri; have hq := BR.lt; replace T2 := up T2 hb1 (by simp; omega))
    | (go_at_call 66; (with_reducible refine (hN _).mono ?_); rintro e w2 ⟨rfl, hb2⟩; have BF := ((Box.new w1 96 #[.int .u64 a, .int .u64 b]).alloc (.cells #[.int .u64 0, .int .u64 0] 96)).below hb2; have BS := Box.new (w1.alloc (.cells #[.int .u64 a, .int .u64 b] 96)) 96 #[.int .u64 0, .int .u64 0]; simp only [World.size_alloc] at BS; replace BS := BS.below hb2; obtain ⟨s0, s1, s2⟩ := BS.has; obtain ⟨f0, f1, f2⟩ := BF.has; have g0 := BS.frz 0; have g1 := BS.frz 1; have T3 := (T2.alloc T2.size (.cells #[.int .u64 a, .int .u64 b] 96)).alloc (by have := T2.size; simp; omega) (.cells #[.int .u64 0, .int .u64 0] 96); replace T3 := up T3 hb2 T3.size; replace BR := ((BR.alloc (.cells #[.int .u64 a, .int .u64 b] 96)).alloc (.cells #[.int .u64 0, .int .u64 0] 96)).below hb2)
    | (go_at_call 86; (with_reducible refine (hP _).mono ?_); rintro e w3 ⟨rfl, hb3⟩; have BR3 := (((BR.setNe (a := ⟨w1.heap.size + 1, 0, none⟩) (by simp; omega) (.int .u64 c)).setNe (a := ⟨w1.heap.size + 1, 1, none⟩) (by simp; omega) (.int .u64 d)).below hb3).alloc (.cells #[.int .u64 x, .int .u64 y] 96); obtain ⟨r0, r1, r2⟩ := BR3.has; have k0 := BR3.frz 0; have k1 := BR3.frz 1; have T4 := (T3.setCell (p := ⟨w1.heap.size + 1, 0, none⟩) (by simp; omega) (.int .u64 c)).setCell (p := ⟨w1.heap.size + 1, 1, none⟩) (by simp; omega) (.int .u64 d); have T5 := (up T4 hb3 T4.size).alloc (up T4 hb3 T4.size).size (.cells #[.int .u64 x, .int .u64 y] 96)))
  exact bodyPost_ret (v := .agg #[.int .u64 x, .int .u64 y]) (by simp [results, Try.results87, go_sem, r1, r2]) rfl ⟨rfl, (T5.setCell (by simp) _).setCell (by simp) _⟩
theorem pZero {a b : Int} (ha : Word a) (hb : Word b) : pE a b 0 0 = 0 ∧ pH a b 0 0 = a ∧ pL a b 0 0 = b := @pOk a b 0 0 a b (by unfold V; omega) hb ha
theorem kWide_any (f l r t : Int) (w : World) (hf : Word f) (hl : Word l) (hr : Word r) (ht : Word t) :
    Calls Try.prog 87 #[.agg #[.int .u64 f, .int .u64 l, .int .u64 r], .int .u64 t] w fun e w' => e = .returned (.agg #[.int .u64 (cW f l r t / 18446744073709551616), .int .u64 (cW f l r t % 18446744073709551616)]) ∧ Below w.heap.size w w' := by
  rcases Int.lt_or_le l t with h | h
  · have e := cW_hi (F := f) (L := l) (R := r) (show l ≤ t by omega)
    have ha := xH_word hf hl
    have hb := xL_word f l
    have ht' : Word (t - l) := by unfold Word at *; omega
    have hc := xH_word hr ht'
    have hd := xL_word r (t - l)
    have hP := fun w => rPlus_any (xH f l) (xL f l) (xH r (t - l)) (xL r (t - l)) w ha hb hc hd
    have b1 : f * l ≤ 18446744073709551615 * l := Int.mul_le_mul_of_nonneg_right (by unfold Word at hf; omega) hl.1
    have b2 : r * (t - l) ≤ 18446744073709551615 * (t - l) := Int.mul_le_mul_of_nonneg_right (by unfold Word at hr; omega) ht'.1
    have b3 := Int.mul_nonneg hf.1 hl.1
    have b4 := Int.mul_nonneg hr.1 ht'.1
    unfold Word at ht hl
    obtain ⟨e1, e2, e3⟩ := @pOk (xH f l) (xL f l) (xH r (t - l)) (xL r (t - l)) (cW f l r t / 18446744073709551616) (cW f l r t % 18446744073709551616) (by rw [V_x, V_x]; unfold V; omega) (by unfold Word; omega) (by unfold Word; omega)
    rw [e1, e2, e3] at hP
    exact kWide_hi f l r t _ _ _ _ _ _ w h (IntWalk.u64_in _ (by omega)) (fun w => rMul_any f l w hf hl) (fun w => rMul_any r (t - l) w hr ht') hP
  · have e := cW_lo (F := f) (R := r) h
    rw [e]
    have hP := fun w => rPlus_any (xH f t) (xL f t) 0 0 w (xH_word hf ht) (xL_word f t) ⟨by omega, by omega⟩ ⟨by omega, by omega⟩
    obtain ⟨e1, e2, e3⟩ := pZero (xH_word hf ht) (xL_word f t)
    rw [e1, e2, e3] at hP
    exact kWide_lo f l r t _ _ w h (fun w => rMul_any f t w hf ht) hP
theorem cW_word2 {f l r t : Int} (hf : Word f) (hl : Word l) (hr : Word r) (ht : Word t) : 0 ≤ cW f l r t ∧ cW f l r t < 340282366920938463463374607431768211456 := by
  refine ⟨cW_nn hf.1 hr.1 hl.1 ht.1, ?_⟩
  rcases Int.lt_or_le l t with h | h
  · rw [cW_hi (by omega)]
    have b1 : f * l ≤ 18446744073709551615 * l := Int.mul_le_mul_of_nonneg_right (by unfold Word at hf; omega) hl.1
    have b2 : r * (t - l) ≤ 18446744073709551615 * (t - l) := Int.mul_le_mul_of_nonneg_right (by unfold Word at hr; omega) (by omega)
    unfold Word at ht; omega
  · rw [cW_lo h]
    have b1 : f * t ≤ 18446744073709551615 * t := Int.mul_le_mul_of_nonneg_right (by unfold Word at hf; omega) ht.1
    unfold Word at ht; omega
end Go.Proofs.Ytjbpaapglamilaa
namespace Go.Proofs.Ytjbpaapglamilaa
open Go.RowKit W
set_option linter.unusedVariables false
/-- Between low and high it is reached. -/
def RI (f l r y lo hi : Int) : Prop := 0 ≤ lo ∧ lo ≤ hi ∧ hi ≤ 9223372036854775807 ∧ y ≤ cAt f l r hi ∧ (lo = 0 ∨ cAt f l r (lo - 1) < y)
end Go.Proofs.Ytjbpaapglamilaa
namespace Go.Proofs.Ytjbpaapglamilaa
open Go.RowKit W
set_option linter.unusedVariables false
theorem Steepest_any (f l r : Int) (w : World) (hf : Word f) (hl : Word l) (hr : Word r) :
    Calls Try.prog 39 #[.agg #[.int .u64 f, .int .u64 l, .int .u64 r]] w fun e w' => e = .returned (.int .u64 (cSt f l r)) ∧ Below w.heap.size w w' := by
  have := steepest_of f l r w
  rwa [stF_eq hf hl hr] at this
/-- It is reached somewhere, or never. -/
theorem reach_ex (f l r y : Int) (hf : Word f) (hl : Word l) (hr : Word r) : ∃ n, IsReach f l r y n := by
  by_cases h : cAt f l r 9223372036854775807 < y
  · exact ⟨_, .inl ⟨rfl, h⟩⟩
  · suffices hs : ∀ k : Nat, (k : Int) ≤ 9223372036854775807 → y ≤ cAt f l r k → ∃ n, IsReach f l r y n by
      have := hs 9223372036854775807 (by omega) (by simpa using Int.not_lt.1 h)
      exact this
    intro k
    induction k with
    | zero => intro _ hk; exact ⟨0, .inr ⟨by omega, by omega, hk, .inl rfl⟩⟩
    | succ k ih =>
      intro h1 h2
      by_cases h3 : y ≤ cAt f l r k
      · exact ih (by omega) h3
      · exact ⟨((k + 1 : Nat) : Int), .inr ⟨by omega, by omega, h2, .inr (by rw [show ((k + 1 : Nat) : Int) - 1 = k by omega]; omega)⟩⟩
/-- By how much a bent one's Rest is above 0, put on backwards. -/
def buO (f l r : Int) : Int := if r < f then rT (f - r) l else 0
end Go.Proofs.Ytjbpaapglamilaa
namespace Go.Proofs.Ytjbpaapglamilaa
open Go.RowKit W
set_option linter.unusedVariables false
theorem mayB_is {f l r : Int} : mayB f l r = true ↔ cMay f l r := by
  unfold mayB cMay
  rw [decide_eq_true_iff]
end Go.Proofs.Ytjbpaapglamilaa
