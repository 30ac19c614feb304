/- What the pieces of a curve add up to, in plain arithmetic. No condition but that words are words; where it reaches an amount: of a curve that may be. -/
import Derived.Test.YtbgccdjkofpiaaaRea
import Derived.Test.YtbgccdjkofpiaaaCurN
namespace Go.Proofs.Ytbgccdjkofpiaaa
open W
set_option linter.unusedVariables false
theorem stp_stp (x : Int) : stp (stp x) = stp x := stp_lo (stp_le x)
theorem stp_add {x y : Int} (hx : 0 ≤ x) (hy : 0 ≤ y) : stp (stp x + stp y) = stp (x + y) := by
  have h1 := stp_or x; have h2 := stp_or y; have h3 := stp_or (x + y); have h4 := stp_or (stp x + stp y)
  omega
theorem cap_mul {r z : Int} (hr : 1 ≤ r) (hz : 4611686018427387904 ≤ z) : stp (r * z) = 4611686018427387904 := by
  have := Int.mul_le_mul hr hz (by omega) (by omega)
  have h3 := stp_or (r * z)
  omega
theorem stp_mulr {r z : Int} (hr : 0 ≤ r) (hz : 0 ≤ z) : stp (r * stp z) = stp (r * z) := by
  rcases stp_or z with ⟨h, e⟩ | ⟨h, e⟩
  · rw [e]
  · rcases Int.lt_or_eq_of_le hr with k | k
    · rw [e, cap_mul k (by omega), cap_mul k (by omega)]
    · rw [← k]; simp
theorem stp_mul_min {r z l : Int} (hr : 0 ≤ r) (hz : 0 ≤ z) (hl : 0 ≤ l) : stp (r * min (stp z) l) = stp (r * min z l) := by
  rcases stp_or z with ⟨h, e⟩ | ⟨h, e⟩
  · rw [e]
  · rcases Int.lt_or_le l 4611686018427387904 with j | j
    · have : min (stp z) l = min z l := by omega
      rw [this]
    · rcases Int.lt_or_eq_of_le hr with k | k
      · rw [cap_mul k (by omega), cap_mul k (by omega)]
      · rw [← k]; simp
theorem ps_zero {l : Int} (h : l = 0) : ps l = [true] := by subst h; rfl
theorem ps_pos {l : Int} (h : 0 < l) : ps l = [false, true] := by unfold ps; rw [if_neg (by simp; omega)]
theorem atF_eq {f l r t : Int} (hf : Word f) (hl : Word l) (hr : Word r) (ht : Word t) : atF f l r t (ps l) = cAt f l r t := by
  unfold Word at *
  have hM : rT r (min (rM t l) 18446744073709551615) = stp (r * (if t < l then 0 else t - l)) := by
    unfold rT rM
    split
    · rw [show min (0 : Int) 18446744073709551615 = 0 by omega]
    · have := stp_le (t - l)
      rw [show min (stp (t - l)) 18446744073709551615 = stp (t - l) by omega, stp_mulr hr.1 (by omega)]
  rcases Int.lt_or_eq_of_le hl.1 with h | h
  · rw [ps_pos h]
    show rP (rP 0 (rT f (min (rM t 0) l))) (rT r (min (rM t l) 18446744073709551615)) = _
    rw [hM]
    have e1 : rP 0 (rT f (min (rM t 0) l)) = stp (f * min t l) := by
      unfold rP rT rM
      rw [if_neg (by omega), Int.zero_add, Int.sub_zero, stp_stp, stp_mul_min hf.1 ht.1 hl.1]
    rw [e1]
    unfold rP cAt
    have n1 := Int.mul_nonneg hf.1 (show 0 ≤ min t l by omega)
    have n2 := Int.mul_nonneg hr.1 (show 0 ≤ (if t < l then 0 else t - l) by split <;> omega)
    rw [stp_add n1 n2]
    congr 1
    rcases Int.lt_or_le t l with k | k
    · rw [if_pos k, cW_lo (by omega), show min t l = t by omega]; simp
    · rw [if_neg (by omega), cW_hi k, show min t l = l by omega]
  · rw [ps_zero h.symm]
    show rP 0 (rT r (min (rM t l) 18446744073709551615)) = _
    rw [hM]
    unfold rP cAt
    rw [Int.zero_add, stp_stp, if_neg (by omega), cW_hi (by omega), ← h]
    simp
theorem stF_eq {f l r : Int} (hf : Word f) (hl : Word l) (hr : Word r) : stF f r (ps l) = cSt f l r := by
  unfold Word at *
  unfold cSt
  rcases Int.lt_or_eq_of_le hl.1 with h | h
  · rw [ps_pos h]
    show max (max 0 f) r = _
    split <;> omega
  · rw [ps_zero h.symm, if_neg (by omega)]
    show max 0 r = _
    omega
theorem ceil_facts {z c : Int} (hz : 1 ≤ z) (hc : 1 ≤ c) (hC : z ≤ 4611686018427387904) : 1 ≤ qU z 1 c ∧ qU z 1 c ≤ z ∧ z ≤ c * qU z 1 c ∧ c * (qU z 1 c - 1) < z := by
  have e := Int.mul_ediv_add_emod (z * 1 + (c - 1)) c
  have m0 := Int.emod_nonneg (z * 1 + (c - 1)) (show c ≠ 0 by omega)
  have m1 := Int.emod_lt_of_pos (z * 1 + (c - 1)) (show 0 < c by omega)
  rw [Int.mul_one] at e m0 m1
  have h1 : (z + (c - 1)) / c ≤ z := by
    have : (z + (c - 1)) / c < z + 1 := Int.ediv_lt_of_lt_mul (by omega) (by have := Int.mul_le_mul_of_nonneg_left hc (show 0 ≤ z by omega); rw [Int.add_mul]; omega)
    omega
  have h2 : 1 ≤ (z + (c - 1)) / c := by
    have : 1 * c ≤ z + (c - 1) := by omega
    exact (Int.le_ediv_iff_mul_le (by omega)).2 this
  unfold qU
  rw [if_neg (by omega), Int.mul_one, stp_lo (by omega)]
  refine ⟨h2, h1, by omega, ?_⟩
  rw [Int.mul_sub, Int.mul_one]
  omega
theorem rcF_reach {f l r y : Int} (hf : Word f) (hl : Word l) (hr : Word r) (hy : Word y) (y0 : 0 < y) (hm : cMay f l r) : IsReach f l r y (rcF f l r y 0 (ps l)) := by
  unfold Word at *
  obtain ⟨f1, r1, l1, hk⟩ := hm
  have hC := cAt_le f l r 9223372036854775807
  rcases Int.lt_or_eq_of_le hl.1 with h | h
  · rw [ps_pos h]
    have hfl : f * l ≤ 1048576 * 1099511627776 := Int.mul_le_mul f1 l1 hl.1 (by omega)
    have hfl0 := Int.mul_nonneg hf.1 hl.1
    have e1 : rP 0 (grW f l r false) = f * l := by
      show stp (0 + stp (f * min l l)) = f * l
      rw [Int.min_self, Int.zero_add, stp_stp, stp_lo (by omega)]
    show IsReach f l r y (if y ≤ rP 0 (grW f l r false) then hitW f l r y 0 false else if y ≤ rP (rP 0 (grW f l r false)) (grW f l r true) then hitW f l r y (rP 0 (grW f l r false)) true else 9223372036854775808)
    rw [e1]
    by_cases c1 : y ≤ f * l
    · rw [if_pos c1]
      have fp : 1 ≤ f := by rcases Int.lt_or_eq_of_le hf.1 with k | k; omega; rw [← k] at c1; omega
      have c := ceil_facts (z := y) (c := f) (by omega) fp (by omega)
      have eh : hitW f l r y 0 false = qU y 1 f := by
        show min (min 0 9223372036854775808 + qU (y - 0) 1 f) 9223372036854775808 = _
        rw [Int.sub_zero]; omega
      rw [eh]
      obtain ⟨n, en⟩ : ∃ n, qU y 1 f = n := ⟨_, rfl⟩
      rw [en] at c ⊢
      have nl : n ≤ l := by
        rcases Int.lt_or_le l n with k | k
        · have := Int.mul_le_mul_of_nonneg_left (show l ≤ n - 1 by omega) hf.1; omega
        · exact k
      refine .inr ⟨by omega, by omega, ?_, .inr ?_⟩
      · unfold cAt; rw [cW_lo nl]; have := stp_or (f * n); omega
      · unfold cAt; rw [cW_lo (by omega)]; have := stp_or (f * (n - 1)); omega
    · rw [if_neg c1]
      have e2 : rP (f * l) (grW f l r true) = stp (f * l + r * 18446744073709551615) := by
        show stp (f * l + stp (r * min 18446744073709551615 18446744073709551615)) = _
        rw [Int.min_self]
        have := stp_add (x := f * l) (y := r * 18446744073709551615) hfl0 (by omega)
        rwa [stp_lo (x := f * l) (by omega)] at this
      rw [e2]
      rcases Int.lt_or_eq_of_le hr.1 with k | k
      · have e3 : stp (f * l + r * 18446744073709551615) = 4611686018427387904 := by have := stp_or (f * l + r * 18446744073709551615); omega
        rw [e3]
        by_cases c2 : y ≤ 4611686018427387904
        · rw [if_pos c2]
          have c := ceil_facts (z := y - f * l) (c := r) (by omega) k (by omega)
          have eh : hitW f l r y (f * l) true = l + qU (y - f * l) 1 r := by
            show min (min l 9223372036854775808 + qU (y - f * l) 1 r) 9223372036854775808 = _
            omega
          rw [eh]
          obtain ⟨n, en⟩ : ∃ n, qU (y - f * l) 1 r = n := ⟨_, rfl⟩
          rw [en] at c ⊢
          refine .inr ⟨by omega, by omega, ?_, .inr ?_⟩
          · unfold cAt; rw [cW_hi (by omega), show l + n - l = n by omega]; have := stp_or (f * l + r * n); omega
          · unfold cAt; rw [cW_hi (by omega), show l + n - 1 - l = n - 1 by omega]; have := stp_or (f * l + r * (n - 1)); omega
        · rw [if_neg c2]
          exact .inl ⟨rfl, by omega⟩
      · subst k
        rw [if_neg (by have := stp_or (f * l + 0 * 18446744073709551615); omega)]
        refine .inl ⟨rfl, ?_⟩
        unfold cAt
        rw [cW_hi (by omega)]
        have := stp_or (f * l + 0 * (9223372036854775807 - l))
        omega
  · subst h
    rw [ps_zero rfl]
    show IsReach f 0 r y (if y ≤ rP 0 (grW f 0 r true) then hitW f 0 r y 0 true else 9223372036854775808)
    have e1 : rP 0 (grW f 0 r true) = stp (r * 18446744073709551615) := by
      show stp (0 + stp (r * min 18446744073709551615 18446744073709551615)) = _
      rw [Int.min_self, Int.zero_add, stp_stp]
    rw [e1]
    rcases Int.lt_or_eq_of_le hr.1 with k | k
    · have e3 : stp (r * 18446744073709551615) = 4611686018427387904 := by have := stp_or (r * 18446744073709551615); omega
      rw [e3]
      by_cases c2 : y ≤ 4611686018427387904
      · rw [if_pos c2]
        have c := ceil_facts (z := y) (c := r) (by omega) k (by omega)
        have eh : hitW f 0 r y 0 true = qU y 1 r := by
          show min (min 0 9223372036854775808 + qU (y - 0) 1 r) 9223372036854775808 = _
          rw [Int.sub_zero]; omega
        rw [eh]
        obtain ⟨n, en⟩ : ∃ n, qU y 1 r = n := ⟨_, rfl⟩
        rw [en] at c ⊢
        refine .inr ⟨by omega, by omega, ?_, .inr ?_⟩
        · unfold cAt; rw [cW_hi (by omega), Int.mul_zero, Int.zero_add, Int.sub_zero]; have := stp_or (r * n); omega
        · unfold cAt; rw [cW_hi (by omega), Int.mul_zero, Int.zero_add, Int.sub_zero]; have := stp_or (r * (n - 1)); omega
      · rw [if_neg c2]
        exact .inl ⟨rfl, by omega⟩
    · subst k
      rw [if_neg (by have := stp_or (0 * 18446744073709551615); omega)]
      refine .inl ⟨rfl, ?_⟩
      unfold cAt
      rw [cW_hi (by omega)]
      have := stp_or (f * 0 + 0 * (9223372036854775807 - 0))
      omega
end Go.Proofs.Ytbgccdjkofpiaaa
