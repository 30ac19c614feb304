/- What the document's own Plus, Minus, Times, Half, Over of layer 2 answer. No condition but that words are words. What the document's own Down and Up answer. No condition but that words are words. Plain arithmetic of two-piece curves: what one has at a tick, how it grows, when it reaches an amount. No condition. Plain arithmetic of two-piece curves: two stretches, the burst, one way to tell a curve, a curve by parts. No condition. -/
import Derived.Test.YtjbpaapglamilaaGC
import Derived.Test.YtjbpaapglamilaaGA
import Derived.Test.YtjbpaapglamilaaGB
namespace Go.Proofs.Ytjbpaapglamilaa
open Go.RowKit W
set_option linter.unusedVariables false
end Go.Proofs.Ytjbpaapglamilaa
namespace Go.Proofs.Ytjbpaapglamilaa
open Go.RowKit W
set_option linter.unusedVariables false
namespace W
theorem ceil_some {x c : Int} (c0 : 1 ≤ c) (h : 0 < x % c) : (x + (c - 1)) / c = x / c + 1 := by
  have e := Int.mul_ediv_add_emod x c
  have m := Int.emod_lt_of_pos x (show 0 < c by omega)
  have e2 : x + (c - 1) = (x % c - 1) + c * (x / c + 1) := by rw [Int.mul_add]; omega
  rw [e2, Int.add_mul_ediv_left _ _ (by omega), Int.ediv_eq_zero_of_lt (by omega) (by omega)]
  omega
theorem ceil_none {x c : Int} (c0 : 1 ≤ c) (h : x % c = 0) : (x + (c - 1)) / c = x / c := by
  have e := Int.mul_ediv_add_emod x c
  have e2 : x + (c - 1) = (c - 1) + c * (x / c) := by omega
  rw [e2, Int.add_mul_ediv_left _ _ (by omega), Int.ediv_eq_zero_of_lt (by omega) (by omega)]
  omega
theorem two_steps {h l c : Int} (c0 : 1 ≤ c) : V (h / c) (V (h % c) l / c) = V h l / c ∧ V (h % c) l % c = V h l % c := by
  have e := Int.mul_ediv_add_emod h c
  have e2 : V h l = V (h % c) l + c * (h / c * 18446744073709551616) := by
    have : c * (h / c * 18446744073709551616) = c * (h / c) * 18446744073709551616 := by rw [Int.mul_assoc]
    unfold V; omega
  refine ⟨?_, ?_⟩
  · rw [e2, Int.add_mul_ediv_left _ _ (by omega)]
    generalize V (h % c) l / c = y
    unfold V; omega
  · rw [e2, Int.add_mul_emod_self_left]
end W
end Go.Proofs.Ytjbpaapglamilaa
namespace Go.Proofs.Ytjbpaapglamilaa.W
set_option linter.unusedVariables false
/-- What a curve has at a tick, without an end. -/
def cW (F L R t : Int) : Int := if t ≤ L then F * t else F * L + R * (t - L)
/-- What it has, stopped. -/
def cAt (F L R t : Int) : Int := stp (cW F L R t)
/-- The greater slope that counts. -/
def cSt (F L R : Int) : Int := if 0 < L ∧ R < F then F else R
/-- A curve that may be. -/
def cMay (F L R : Int) : Prop := F ≤ 1048576 ∧ R ≤ 1048576 ∧ L ≤ 1099511627776 ∧ ((L = 0 ∧ F = 0) ∨ (0 < L ∧ F ≠ R))
theorem cW_lo {F L R t : Int} (h : t ≤ L) : cW F L R t = F * t := by unfold cW; rw [if_pos h]
theorem cW_hi {F L R t : Int} (h : L ≤ t) : cW F L R t = F * L + R * (t - L) := by
  unfold cW; split
  · have : t = L := by omega
    subst this; simp
  · rfl
theorem cW_zero {F L R : Int} (h : 0 ≤ L) : cW F L R 0 = 0 := by rw [cW_lo h]; simp
theorem cW_succ {F L R t : Int} : cW F L R (t + 1) = cW F L R t + (if t < L then F else R) := by
  by_cases h : t < L
  · rw [if_pos h, cW_lo (by omega), cW_lo (by omega), Int.mul_add, Int.mul_one]
  · rw [if_neg h, cW_hi (by omega), cW_hi (by omega), show t + 1 - L = (t - L) + 1 by omega, Int.mul_add, Int.mul_one]; omega
theorem cSt_R (F L R : Int) : R ≤ cSt F L R := by unfold cSt; split <;> omega
theorem cSt_F {F L R : Int} (h : 0 < L) : F ≤ cSt F L R := by unfold cSt; split <;> omega
theorem cSt_nn {F L R : Int} (hR : 0 ≤ R) : 0 ≤ cSt F L R := by have := cSt_R F L R; omega
/-- By m ticks it grows by at least 0 and at most its steepest slope times m. -/
theorem cW_grow {F L R t : Int} (hF : 0 ≤ F) (hR : 0 ≤ R) (ht : 0 ≤ t) (m : Nat) : cW F L R t ≤ cW F L R (t + m) ∧ cW F L R (t + m) ≤ cW F L R t + cSt F L R * m := by
  induction m with
  | zero => simp
  | succ m ih =>
    have e : t + ((m + 1 : Nat) : Int) = t + m + 1 := by omega
    have e2 : cSt F L R * ((m + 1 : Nat) : Int) = cSt F L R * m + cSt F L R := by rw [Int.natCast_add, Int.mul_add]; simp
    rw [e, e2, cW_succ]
    have h1 := cSt_R F L R
    split
    · have h2 := @cSt_F F L R (by omega)
      omega
    · omega
theorem cW_mono {F L R s t : Int} (hF : 0 ≤ F) (hR : 0 ≤ R) (hs : 0 ≤ s) (h : s ≤ t) : cW F L R s ≤ cW F L R t := by
  have := (cW_grow (L := L) hF hR hs (t - s).toNat).1
  rwa [Int.toNat_of_nonneg (by omega), show s + (t - s) = t by omega] at this
theorem cW_nn {F L R t : Int} (hF : 0 ≤ F) (hR : 0 ≤ R) (hL : 0 ≤ L) (ht : 0 ≤ t) : 0 ≤ cW F L R t := by
  have := cW_mono (L := L) hF hR (Int.le_refl 0) ht
  rwa [cW_zero hL] at this
theorem cAt_mono {F L R s t : Int} (hF : 0 ≤ F) (hR : 0 ≤ R) (hs : 0 ≤ s) (h : s ≤ t) : cAt F L R s ≤ cAt F L R t := stp_mono (cW_mono hF hR hs h)
theorem cAt_zero {F L R : Int} (h : 0 ≤ L) : cAt F L R 0 = 0 := by unfold cAt; rw [cW_zero h]; rfl
theorem cAt_nn {F L R t : Int} (hF : 0 ≤ F) (hR : 0 ≤ R) (hL : 0 ≤ L) (ht : 0 ≤ t) : 0 ≤ cAt F L R t := stp_nn (cW_nn hF hR hL ht)
theorem cAt_le (F L R t : Int) : cAt F L R t ≤ 4611686018427387904 := stp_le _
theorem stp_diff {x y : Int} (hx : 0 ≤ x) (h : x ≤ y) : stp y - stp x ≤ stp (y - x) ∧ stp y - stp x ≤ y - x := by
  have h1 := stp_or x
  have h2 := stp_or y
  have h3 := stp_or (y - x)
  omega
/-- P3.6: by how much it grows. -/
theorem cAt_grow {F L R t m : Int} (hF : 0 ≤ F) (hR : 0 ≤ R) (hL : 0 ≤ L) (ht : 0 ≤ t) (hm : 0 ≤ m) :
    cAt F L R t ≤ cAt F L R (t + m) ∧ cAt F L R (t + m) - cAt F L R t ≤ stp (cSt F L R * m) := by
  have hg := cW_grow (L := L) hF hR ht m.toNat
  rw [Int.toNat_of_nonneg hm] at hg
  have h0 := cW_nn hF hR hL ht
  refine ⟨stp_mono hg.1, ?_⟩
  have h1 := (stp_diff h0 hg.1).1
  have h2 : stp (cW F L R (t + m) - cW F L R t) ≤ stp (cSt F L R * m) := stp_mono (by omega)
  have h1' : cAt F L R (t + m) - cAt F L R t ≤ stp (cW F L R (t + m) - cW F L R t) := by
    unfold cAt
    have := stp_or (cW F L R t); have := stp_or (cW F L R (t + m)); have := stp_or (cW F L R (t + m) - cW F L R t)
    omega
  omega
theorem cAt_one {F L R t : Int} (hF : 0 ≤ F) (hR : 0 ≤ R) (hL : 0 ≤ L) (ht : 0 ≤ t) :
    cAt F L R (t + 1) - cAt F L R t ≤ cSt F L R ∧ (4611686018427387904 - cSt F L R ≤ cAt F L R t ∨ cAt F L R (t + 1) - cAt F L R t = F ∨ cAt F L R (t + 1) - cAt F L R t = R) := by
  have e := @cW_succ F L R t
  have h0 := cW_nn hF hR hL ht
  have hR' := cSt_R F L R
  have h1 := stp_or (cW F L R t)
  have h2 := stp_or (cW F L R (t + 1))
  unfold cAt
  rw [e] at h2 ⊢
  split at h2
  · rename_i k
    have hF' := @cSt_F F L R (by omega)
    rw [if_pos k]
    refine ⟨by omega, ?_⟩
    by_cases c : 4611686018427387904 - cSt F L R ≤ stp (cW F L R t)
    · exact .inl c
    · exact .inr (.inl (by omega))
  · rename_i k
    rw [if_neg k]
    refine ⟨by omega, ?_⟩
    by_cases c : 4611686018427387904 - cSt F L R ≤ stp (cW F L R t)
    · exact .inl c
    · exact .inr (.inr (by omega))
/-- P3.5: n is when it reaches y. -/
def IsReach (F L R y n : Int) : Prop :=
  (n = 9223372036854775808 ∧ cAt F L R 9223372036854775807 < y) ∨ (0 ≤ n ∧ n < 9223372036854775808 ∧ y ≤ cAt F L R n ∧ (n = 0 ∨ cAt F L R (n - 1) < y))
theorem IsReach.unique {F L R y n m : Int} (hF : 0 ≤ F) (hR : 0 ≤ R) (hn : IsReach F L R y n) (hm : IsReach F L R y m) : n = m := by
  rcases hn with ⟨rfl, h1⟩ | ⟨a0, a1, a2, a3⟩
  · rcases hm with ⟨rfl, _⟩ | ⟨b0, b1, b2, b3⟩
    · rfl
    · have := cAt_mono (L := L) hF hR b0 (show m ≤ 9223372036854775807 by omega); omega
  · rcases hm with ⟨rfl, h1⟩ | ⟨b0, b1, b2, b3⟩
    · have := cAt_mono (L := L) hF hR a0 (show n ≤ 9223372036854775807 by omega); omega
    · rcases Int.lt_trichotomy n m with h | h | h
      · have := cAt_mono (L := L) hF hR a0 (show n ≤ m - 1 by omega)
        omega
      · exact h
      · have := cAt_mono (L := L) hF hR b0 (show m ≤ n - 1 by omega)
        omega
/-- When it reaches what it has at t. -/
theorem IsReach.back {F L R t n : Int} (hF : 0 ≤ F) (hR : 0 ≤ R) (ht : 0 ≤ t) (hC : t < 9223372036854775808) (hn : IsReach F L R (cAt F L R t) n) :
    0 ≤ n ∧ n ≤ t ∧ cAt F L R n = cAt F L R t ∧ (t = 0 ∧ n = 0 ∨ 0 < t ∧ (n = t ↔ cAt F L R (t - 1) < cAt F L R t)) := by
  rcases hn with ⟨rfl, h1⟩ | ⟨a0, a1, a2, a3⟩
  · have := cAt_mono (L := L) hF hR ht (show t ≤ 9223372036854775807 by omega); omega
  · have hle : n ≤ t := by
      rcases Int.lt_or_le t n with h | h
      · rcases a3 with h3 | h3
        · omega
        · have := cAt_mono (L := L) hF hR ht (show t ≤ n - 1 by omega); omega
      · exact h
    have h2 := cAt_mono (L := L) hF hR a0 hle
    refine ⟨a0, hle, by omega, ?_⟩
    rcases Int.lt_or_eq_of_le ht with h | h
    · refine .inr ⟨h, ⟨fun e => ?_, fun e => ?_⟩⟩
      · subst e
        rcases a3 with h3 | h3
        · omega
        · exact h3
      · rcases Int.lt_or_eq_of_le hle with k | k
        · have := cAt_mono (L := L) hF hR a0 (show n ≤ t - 1 by omega); omega
        · exact k
    · exact .inl ⟨h.symm, by omega⟩
end Go.Proofs.Ytjbpaapglamilaa.W
namespace Go.Proofs.Ytjbpaapglamilaa.W
set_option linter.unusedVariables false
theorem mul_le {a b c d : Int} (h1 : a ≤ b) (h2 : c ≤ d) (hc : 0 ≤ c) (hb : 0 ≤ b) : a * c ≤ b * d := Int.mul_le_mul h1 h2 hc hb
/-- What a curve that may be has below 2^42 ticks is far below Cap. -/
theorem cW_small {F L R t : Int} (hF : 0 ≤ F) (hR : 0 ≤ R) (hL : 0 ≤ L) (ht : 0 ≤ t) (h : cMay F L R) (hb : t ≤ 4398046511104) : cW F L R t ≤ 4611686018427387904 := by
  obtain ⟨f1, r1, l1, _⟩ := h
  have hg := (cW_grow (F := F) (L := L) hF hR (Int.le_refl 0) t.toNat).2
  rw [Int.toNat_of_nonneg ht, cW_zero hL] at hg
  have hs : cSt F L R ≤ 1048576 := by unfold cSt; split <;> omega
  have := mul_le hs hb ht (by omega)
  simp at hg
  omega
theorem cAt_small {F L R t : Int} (hF : 0 ≤ F) (hR : 0 ≤ R) (hL : 0 ≤ L) (ht : 0 ≤ t) (h : cMay F L R) (hb : t ≤ 4398046511104) : cAt F L R t = cW F L R t := stp_lo (cW_small hF hR hL ht h hb)

/-- P3.7, a bent one. -/
theorem cW_bent {F L R s t : Int} (hL : 0 ≤ L) (hs : 0 ≤ s) (ht : 0 ≤ t) (h : R < F) : cW F L R (s + t) ≤ cW F L R s + cW F L R t := by
  obtain ⟨k, rfl⟩ := Int.eq_ofNat_of_zero_le ht
  induction k with
  | zero => simp [cW_zero hL]
  | succ k ih =>
    have ih := ih (by omega)
    have e1 : s + ((k + 1 : Nat) : Int) = s + k + 1 := by omega
    have e2 : ((k + 1 : Nat) : Int) = (k : Int) + 1 := by omega
    rw [e1, e2, cW_succ, cW_succ]
    split <;> split <;> omega
/-- P3.7, one that sags. -/
theorem cW_sag {F L R s t : Int} (hL : 0 ≤ L) (hs : 0 ≤ s) (ht : 0 ≤ t) (h : F ≤ R) : cW F L R s + cW F L R t ≤ cW F L R (s + t) := by
  obtain ⟨k, rfl⟩ := Int.eq_ofNat_of_zero_le ht
  induction k with
  | zero => simp [cW_zero hL]
  | succ k ih =>
    have ih := ih (by omega)
    have e1 : s + ((k + 1 : Nat) : Int) = s + k + 1 := by omega
    have e2 : ((k + 1 : Nat) : Int) = (k : Int) + 1 := by omega
    rw [e1, e2, cW_succ, cW_succ]
    split <;> split <;> omega
/-- P3.3, P3.7: the burst and the second piece. -/
theorem cW_burst {F L R t : Int} (hL : 0 ≤ L) (ht : 0 ≤ t) (h : R < F) : (t < L ∧ cW F L R t < (F - R) * L + R * t) ∨ (L ≤ t ∧ cW F L R t = (F - R) * L + R * t) := by
  rcases Int.lt_or_le t L with k | k
  · refine .inl ⟨k, ?_⟩
    rw [cW_lo (by omega)]
    have h1 : (F - R) * t < (F - R) * L := Int.mul_lt_mul_of_pos_left k (by omega)
    rw [Int.sub_mul] at h1
    omega
  · refine .inr ⟨k, ?_⟩
    rw [cW_hi k, Int.sub_mul, Int.mul_sub]
    omega
/-- P3.8: what two curves that are the same have at. -/
theorem one_way {F L R F' L' R' : Int} (hF : 0 ≤ F) (hL : 0 ≤ L) (hR : 0 ≤ R) (hF' : 0 ≤ F') (hL' : 0 ≤ L') (hR' : 0 ≤ R') (h : cMay F L R) (h' : cMay F' L' R')
    (e1 : cW F L R 1 = cW F' L' R' 1) (eA : cW F L R L = cW F' L' R' L) (eA1 : cW F L R (L + 1) = cW F' L' R' (L + 1)) (eB : cW F L R L' = cW F' L' R' L') (eB1 : cW F L R (L' + 1) = cW F' L' R' (L' + 1))
    (eE : cW F L R (L + L' + 2) = cW F' L' R' (L + L' + 2)) (eE1 : cW F L R (L + L' + 3) = cW F' L' R' (L + L' + 3)) : F = F' ∧ L = L' ∧ R = R' := by
  have hRR : R = R' := by
    have a := @cW_succ F L R (L + L' + 2)
    have b := @cW_succ F' L' R' (L + L' + 2)
    rw [if_neg (by omega)] at a b
    rw [show L + L' + 2 + 1 = L + L' + 3 by omega] at a b
    omega
  subst hRR
  obtain ⟨_, _, _, c⟩ := h
  obtain ⟨_, _, _, c'⟩ := h'
  have a1 := @cW_succ F L R 0
  have b1 := @cW_succ F' L' R 0
  rw [cW_zero hL] at a1
  rw [cW_zero hL'] at b1
  simp only [Int.zero_add] at a1 b1
  rcases c with ⟨rfl, rfl⟩ | ⟨c1, c2⟩
  · rcases c' with ⟨rfl, rfl⟩ | ⟨d1, d2⟩
    · exact ⟨rfl, rfl, rfl⟩
    · rw [if_neg (by omega)] at a1
      rw [if_pos (by omega)] at b1
      omega
  · rcases c' with ⟨rfl, rfl⟩ | ⟨d1, d2⟩
    · rw [if_pos (by omega)] at a1
      rw [if_neg (by omega)] at b1
      omega
    · rw [if_pos (by omega)] at a1 b1
      have hFF : F = F' := by omega
      subst hFF
      refine ⟨rfl, ?_, rfl⟩
      have p := @cW_succ F L R L
      have q := @cW_succ F L' R L
      have p' := @cW_succ F L R L'
      have q' := @cW_succ F L' R L'
      rcases Int.lt_trichotomy L L' with k | k | k
      · rw [if_neg (by omega)] at p
        rw [if_pos (by omega)] at q
        omega
      · exact k
      · rw [if_pos (by omega)] at p'
        rw [if_neg (by omega)] at q'
        omega
/-- A quotient of a sum, by parts. -/
theorem ediv_add_le {x y b : Int} (hb : 0 < b) : x / b + y / b ≤ (x + y) / b ∧ (x + y) / b ≤ x / b + y / b + 1 := by
  have e := Int.mul_ediv_add_emod x b
  have f := Int.mul_ediv_add_emod y b
  have m0 := Int.emod_nonneg x (show b ≠ 0 by omega)
  have m1 := Int.emod_lt_of_pos x hb
  have n0 := Int.emod_nonneg y (show b ≠ 0 by omega)
  have n1 := Int.emod_lt_of_pos y hb
  refine ⟨?_, ?_⟩
  · apply Int.le_ediv_of_mul_le hb
    rw [Int.add_mul, Int.mul_comm (x / b), Int.mul_comm (y / b)]; omega
  · have : (x + y) / b < x / b + y / b + 2 := by
      apply Int.ediv_lt_of_lt_mul hb
      rw [Int.add_mul, Int.add_mul, Int.mul_comm (x / b), Int.mul_comm (y / b)]; omega
    omega
/-- P3.4: a curve by parts has at most its parts, and less by at most the ticks. -/
theorem cW_parts {F L R a b : Int} (hL : 0 ≤ L) (hb : 0 < b) (t : Nat) :
    cW (F * a / b) L (R * a / b) t ≤ cW F L R t * a / b ∧ cW F L R t * a / b ≤ cW (F * a / b) L (R * a / b) t + t := by
  induction t with
  | zero => simp [cW_zero hL]
  | succ t ih =>
    have e : ((t + 1 : Nat) : Int) = (t : Int) + 1 := by omega
    rw [e, cW_succ, cW_succ, Int.add_mul]
    by_cases h : (t : Int) < L
    · rw [if_pos h, if_pos h]
      have := @ediv_add_le (cW F L R t * a) (F * a) b hb
      omega
    · rw [if_neg h, if_neg h]
      have := @ediv_add_le (cW F L R t * a) (R * a) b hb
      omega
/-- A curve whose slopes became the same is straight. -/
theorem cW_same {R L t : Int} (h0 : 0 ≤ t) : cW R L R t = R * t := by
  rcases Int.lt_or_le t L with h | h
  · exact cW_lo (by omega)
  · rw [cW_hi h, ← Int.mul_add]; congr 1; omega
theorem cW_straight {R t : Int} (h0 : 0 ≤ t) : cW 0 0 R t = R * t := by
  rw [cW_hi h0]; simp
end Go.Proofs.Ytjbpaapglamilaa.W
