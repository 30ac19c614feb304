/- Plain arithmetic of two-piece curves: what one has at a tick, how it grows, when it reaches an amount. No condition. -/
import Derived.Test.YtbgccdjkofpiaaaRatN
namespace Go.Proofs.Ytbgccdjkofpiaaa.W
set_option linter.unusedVariables false
/-- What a curve has at a tick, without an end. -/
def cW (F L R t : Int) : Int := if t ≤ L then F * t else F * L + R * (t - L)
/-- What it has, stopped. -/
def cAt (F L R t : Int) : Int := stp (cW F L R t)
/-- The greater slope that counts. -/
def cSt (F L R : Int) : Int := if 0 < L ∧ R < F then F else R
/-- A curve that may be. -/
def cMay (F L R : Int) : Prop := F ≤ 1048576 ∧ R ≤ 1048576 ∧ L ≤ 1099511627776 ∧ ((L = 0 ∧ F = 0) ∨ (0 < L ∧ F ≠ R))
theorem cW_lo {F L R t : Int} (h : t ≤ L) : cW F L R t = F * t := by unfold cW; rw [if_pos h]
theorem cW_hi {F L R t : Int} (h : L ≤ t) : cW F L R t = F * L + R * (t - L) := by
  unfold cW; split
  · have : t = L := by omega
    subst this; simp
  · rfl
theorem cW_zero {F L R : Int} (h : 0 ≤ L) : cW F L R 0 = 0 := by rw [cW_lo h]; simp
theorem cW_succ {F L R t : Int} : cW F L R (t + 1) = cW F L R t + (if t < L then F else R) := by
  by_cases h : t < L
  · rw [if_pos h, cW_lo (by omega), cW_lo (by omega), Int.mul_add, Int.mul_one]
  · rw [if_neg h, cW_hi (by omega), cW_hi (by omega), show t + 1 - L = (t - L) + 1 by omega, Int.mul_add, Int.mul_one]; omega
theorem cSt_R (F L R : Int) : R ≤ cSt F L R := by unfold cSt; split <;> omega
theorem cSt_F {F L R : Int} (h : 0 < L) : F ≤ cSt F L R := by unfold cSt; split <;> omega
theorem cSt_nn {F L R : Int} (hR : 0 ≤ R) : 0 ≤ cSt F L R := by have := cSt_R F L R; omega
/-- By m ticks it grows by at least 0 and at most its steepest slope times m. -/
theorem cW_grow {F L R t : Int} (hF : 0 ≤ F) (hR : 0 ≤ R) (ht : 0 ≤ t) (m : Nat) : cW F L R t ≤ cW F L R (t + m) ∧ cW F L R (t + m) ≤ cW F L R t + cSt F L R * m := by
  induction m with
  | zero => simp
  | succ m ih =>
    have e : t + ((m + 1 : Nat) : Int) = t + m + 1 := by omega
    have e2 : cSt F L R * ((m + 1 : Nat) : Int) = cSt F L R * m + cSt F L R := by rw [Int.natCast_add, Int.mul_add]; simp
    rw [e, e2, cW_succ]
    have h1 := cSt_R F L R
    split
    · have h2 := @cSt_F F L R (by omega)
      omega
    · omega
theorem cW_mono {F L R s t : Int} (hF : 0 ≤ F) (hR : 0 ≤ R) (hs : 0 ≤ s) (h : s ≤ t) : cW F L R s ≤ cW F L R t := by
  have := (cW_grow (L := L) hF hR hs (t - s).toNat).1
  rwa [Int.toNat_of_nonneg (by omega), show s + (t - s) = t by omega] at this
theorem cW_nn {F L R t : Int} (hF : 0 ≤ F) (hR : 0 ≤ R) (hL : 0 ≤ L) (ht : 0 ≤ t) : 0 ≤ cW F L R t := by
  have := cW_mono (L := L) hF hR (Int.le_refl 0) ht
  rwa [cW_zero hL] at this
theorem cAt_mono {F L R s t : Int} (hF : 0 ≤ F) (hR : 0 ≤ R) (hs : 0 ≤ s) (h : s ≤ t) : cAt F L R s ≤ cAt F L R t := stp_mono (cW_mono hF hR hs h)
theorem cAt_zero {F L R : Int} (h : 0 ≤ L) : cAt F L R 0 = 0 := by unfold cAt; rw [cW_zero h]; rfl
theorem cAt_nn {F L R t : Int} (hF : 0 ≤ F) (hR : 0 ≤ R) (hL : 0 ≤ L) (ht : 0 ≤ t) : 0 ≤ cAt F L R t := stp_nn (cW_nn hF hR hL ht)
theorem cAt_le (F L R t : Int) : cAt F L R t ≤ 4611686018427387904 := stp_le _
theorem stp_diff {x y : Int} (hx : 0 ≤ x) (h : x ≤ y) : stp y - stp x ≤ stp (y - x) ∧ stp y - stp x ≤ y - x := by
  have h1 := stp_or x
  have h2 := stp_or y
  have h3 := stp_or (y - x)
  omega
/-- P3.6: by how much it grows. -/
theorem cAt_grow {F L R t m : Int} (hF : 0 ≤ F) (hR : 0 ≤ R) (hL : 0 ≤ L) (ht : 0 ≤ t) (hm : 0 ≤ m) :
    cAt F L R t ≤ cAt F L R (t + m) ∧ cAt F L R (t + m) - cAt F L R t ≤ stp (cSt F L R * m) := by
  have hg := cW_grow (L := L) hF hR ht m.toNat
  rw [Int.toNat_of_nonneg hm] at hg
  have h0 := cW_nn hF hR hL ht
  refine ⟨stp_mono hg.1, ?_⟩
  have h1 := (stp_diff h0 hg.1).1
  have h2 : stp (cW F L R (t + m) - cW F L R t) ≤ stp (cSt F L R * m) := stp_mono (by omega)
  have h1' : cAt F L R (t + m) - cAt F L R t ≤ stp (cW F L R (t + m) - cW F L R t) := by
    unfold cAt
    have := stp_or (cW F L R t); have := stp_or (cW F L R (t + m)); have := stp_or (cW F L R (t + m) - cW F L R t)
    omega
  omega
theorem cAt_one {F L R t : Int} (hF : 0 ≤ F) (hR : 0 ≤ R) (hL : 0 ≤ L) (ht : 0 ≤ t) :
    cAt F L R (t + 1) - cAt F L R t ≤ cSt F L R ∧ (4611686018427387904 - cSt F L R ≤ cAt F L R t ∨ cAt F L R (t + 1) - cAt F L R t = F ∨ cAt F L R (t + 1) - cAt F L R t = R) := by
  have e := @cW_succ F L R t
  have h0 := cW_nn hF hR hL ht
  have hR' := cSt_R F L R
  have h1 := stp_or (cW F L R t)
  have h2 := stp_or (cW F L R (t + 1))
  unfold cAt
  rw [e] at h2 ⊢
  split at h2
  · rename_i k
    have hF' := @cSt_F F L R (by omega)
    rw [if_pos k]
    refine ⟨by omega, ?_⟩
    by_cases c : 4611686018427387904 - cSt F L R ≤ stp (cW F L R t)
    · exact .inl c
    · exact .inr (.inl (by omega))
  · rename_i k
    rw [if_neg k]
    refine ⟨by omega, ?_⟩
    by_cases c : 4611686018427387904 - cSt F L R ≤ stp (cW F L R t)
    · exact .inl c
    · exact .inr (.inr (by omega))
/-- P3.5: n is when it reaches y. -/
def IsReach (F L R y n : Int) : Prop :=
  (n = 9223372036854775808 ∧ cAt F L R 9223372036854775807 < y) ∨ (0 ≤ n ∧ n < 9223372036854775808 ∧ y ≤ cAt F L R n ∧ (n = 0 ∨ cAt F L R (n - 1) < y))
theorem IsReach.unique {F L R y n m : Int} (hF : 0 ≤ F) (hR : 0 ≤ R) (hn : IsReach F L R y n) (hm : IsReach F L R y m) : n = m := by
  rcases hn with ⟨rfl, h1⟩ | ⟨a0, a1, a2, a3⟩
  · rcases hm with ⟨rfl, _⟩ | ⟨b0, b1, b2, b3⟩
    · rfl
    · have := cAt_mono (L := L) hF hR b0 (show m ≤ 9223372036854775807 by omega); omega
  · rcases hm with ⟨rfl, h1⟩ | ⟨b0, b1, b2, b3⟩
    · have := cAt_mono (L := L) hF hR a0 (show n ≤ 9223372036854775807 by omega); omega
    · rcases Int.lt_trichotomy n m with h | h | h
      · have := cAt_mono (L := L) hF hR a0 (show n ≤ m - 1 by omega)
        omega
      · exact h
      · have := cAt_mono (L := L) hF hR b0 (show m ≤ n - 1 by omega)
        omega
/-- When it reaches what it has at t. -/
theorem IsReach.back {F L R t n : Int} (hF : 0 ≤ F) (hR : 0 ≤ R) (ht : 0 ≤ t) (hC : t < 9223372036854775808) (hn : IsReach F L R (cAt F L R t) n) :
    0 ≤ n ∧ n ≤ t ∧ cAt F L R n = cAt F L R t ∧ (t = 0 ∧ n = 0 ∨ 0 < t ∧ (n = t ↔ cAt F L R (t - 1) < cAt F L R t)) := by
  rcases hn with ⟨rfl, h1⟩ | ⟨a0, a1, a2, a3⟩
  · have := cAt_mono (L := L) hF hR ht (show t ≤ 9223372036854775807 by omega); omega
  · have hle : n ≤ t := by
      rcases Int.lt_or_le t n with h | h
      · rcases a3 with h3 | h3
        · omega
        · have := cAt_mono (L := L) hF hR ht (show t ≤ n - 1 by omega); omega
      · exact h
    have h2 := cAt_mono (L := L) hF hR a0 hle
    refine ⟨a0, hle, by omega, ?_⟩
    rcases Int.lt_or_eq_of_le ht with h | h
    · refine .inr ⟨h, ⟨fun e => ?_, fun e => ?_⟩⟩
      · subst e
        rcases a3 with h3 | h3
        · omega
        · exact h3
      · rcases Int.lt_or_eq_of_le hle with k | k
        · have := cAt_mono (L := L) hF hR a0 (show n ≤ t - 1 by omega); omega
        · exact k
    · exact .inl ⟨h.symm, by omega⟩
end Go.Proofs.Ytbgccdjkofpiaaa.W
