/- Plain arithmetic of two-piece curves: two stretches, the burst, one way to tell a curve, a curve by parts. No condition. -/
import Derived.Test.YtbgccdjkofpiaaaCurM
namespace Go.Proofs.Ytbgccdjkofpiaaa.W
set_option linter.unusedVariables false
theorem mul_le {a b c d : Int} (h1 : a ≤ b) (h2 : c ≤ d) (hc : 0 ≤ c) (hb : 0 ≤ b) : a * c ≤ b * d := Int.mul_le_mul h1 h2 hc hb
/-- What a curve that may be has below 2^42 ticks is far below Cap. -/
theorem cW_small {F L R t : Int} (hF : 0 ≤ F) (hR : 0 ≤ R) (hL : 0 ≤ L) (ht : 0 ≤ t) (h : cMay F L R) (hb : t ≤ 4398046511104) : cW F L R t ≤ 4611686018427387904 := by
  obtain ⟨f1, r1, l1, _⟩ := h
  have hg := (cW_grow (F := F) (L := L) hF hR (Int.le_refl 0) t.toNat).2
  rw [Int.toNat_of_nonneg ht, cW_zero hL] at hg
  have hs : cSt F L R ≤ 1048576 := by unfold cSt; split <;> omega
  have := mul_le hs hb ht (by omega)
  simp at hg
  omega
theorem cAt_small {F L R t : Int} (hF : 0 ≤ F) (hR : 0 ≤ R) (hL : 0 ≤ L) (ht : 0 ≤ t) (h : cMay F L R) (hb : t ≤ 4398046511104) : cAt F L R t = cW F L R t := stp_lo (cW_small hF hR hL ht h hb)

/-- P3.7, a bent one. -/
theorem cW_bent {F L R s t : Int} (hL : 0 ≤ L) (hs : 0 ≤ s) (ht : 0 ≤ t) (h : R < F) : cW F L R (s + t) ≤ cW F L R s + cW F L R t := by
  obtain ⟨k, rfl⟩ := Int.eq_ofNat_of_zero_le ht
  induction k with
  | zero => simp [cW_zero hL]
  | succ k ih =>
    have ih := ih (by omega)
    have e1 : s + ((k + 1 : Nat) : Int) = s + k + 1 := by omega
    have e2 : ((k + 1 : Nat) : Int) = (k : Int) + 1 := by omega
    rw [e1, e2, cW_succ, cW_succ]
    split <;> split <;> omega
/-- P3.7, one that sags. -/
theorem cW_sag {F L R s t : Int} (hL : 0 ≤ L) (hs : 0 ≤ s) (ht : 0 ≤ t) (h : F ≤ R) : cW F L R s + cW F L R t ≤ cW F L R (s + t) := by
  obtain ⟨k, rfl⟩ := Int.eq_ofNat_of_zero_le ht
  induction k with
  | zero => simp [cW_zero hL]
  | succ k ih =>
    have ih := ih (by omega)
    have e1 : s + ((k + 1 : Nat) : Int) = s + k + 1 := by omega
    have e2 : ((k + 1 : Nat) : Int) = (k : Int) + 1 := by omega
    rw [e1, e2, cW_succ, cW_succ]
    split <;> split <;> omega
/-- P3.3, P3.7: the burst and the second piece. -/
theorem cW_burst {F L R t : Int} (hL : 0 ≤ L) (ht : 0 ≤ t) (h : R < F) : (t < L ∧ cW F L R t < (F - R) * L + R * t) ∨ (L ≤ t ∧ cW F L R t = (F - R) * L + R * t) := by
  rcases Int.lt_or_le t L with k | k
  · refine .inl ⟨k, ?_⟩
    rw [cW_lo (by omega)]
    have h1 : (F - R) * t < (F - R) * L := Int.mul_lt_mul_of_pos_left k (by omega)
    rw [Int.sub_mul] at h1
    omega
  · refine .inr ⟨k, ?_⟩
    rw [cW_hi k, Int.sub_mul, Int.mul_sub]
    omega
/-- P3.8: what two curves that are the same have at. -/
theorem one_way {F L R F' L' R' : Int} (hF : 0 ≤ F) (hL : 0 ≤ L) (hR : 0 ≤ R) (hF' : 0 ≤ F') (hL' : 0 ≤ L') (hR' : 0 ≤ R') (h : cMay F L R) (h' : cMay F' L' R')
    (e1 : cW F L R 1 = cW F' L' R' 1) (eA : cW F L R L = cW F' L' R' L) (eA1 : cW F L R (L + 1) = cW F' L' R' (L + 1)) (eB : cW F L R L' = cW F' L' R' L') (eB1 : cW F L R (L' + 1) = cW F' L' R' (L' + 1))
    (eE : cW F L R (L + L' + 2) = cW F' L' R' (L + L' + 2)) (eE1 : cW F L R (L + L' + 3) = cW F' L' R' (L + L' + 3)) : F = F' ∧ L = L' ∧ R = R' := by
  have hRR : R = R' := by
    have a := @cW_succ F L R (L + L' + 2)
    have b := @cW_succ F' L' R' (L + L' + 2)
    rw [if_neg (by omega)] at a b
    rw [show L + L' + 2 + 1 = L + L' + 3 by omega] at a b
    omega
  subst hRR
  obtain ⟨_, _, _, c⟩ := h
  obtain ⟨_, _, _, c'⟩ := h'
  have a1 := @cW_succ F L R 0
  have b1 := @cW_succ F' L' R 0
  rw [cW_zero hL] at a1
  rw [cW_zero hL'] at b1
  simp only [Int.zero_add] at a1 b1
  rcases c with ⟨rfl, rfl⟩ | ⟨c1, c2⟩
  · rcases c' with ⟨rfl, rfl⟩ | ⟨d1, d2⟩
    · exact ⟨rfl, rfl, rfl⟩
    · rw [if_neg (by omega)] at a1
      rw [if_pos (by omega)] at b1
      omega
  · rcases c' with ⟨rfl, rfl⟩ | ⟨d1, d2⟩
    · rw [if_pos (by omega)] at a1
      rw [if_neg (by omega)] at b1
      omega
    · rw [if_pos (by omega)] at a1 b1
      have hFF : F = F' := by omega
      subst hFF
      refine ⟨rfl, ?_, rfl⟩
      have p := @cW_succ F L R L
      have q := @cW_succ F L' R L
      have p' := @cW_succ F L R L'
      have q' := @cW_succ F L' R L'
      rcases Int.lt_trichotomy L L' with k | k | k
      · rw [if_neg (by omega)] at p
        rw [if_pos (by omega)] at q
        omega
      · exact k
      · rw [if_pos (by omega)] at p'
        rw [if_neg (by omega)] at q'
        omega
/-- A quotient of a sum, by parts. -/
theorem ediv_add_le {x y b : Int} (hb : 0 < b) : x / b + y / b ≤ (x + y) / b ∧ (x + y) / b ≤ x / b + y / b + 1 := by
  have e := Int.mul_ediv_add_emod x b
  have f := Int.mul_ediv_add_emod y b
  have m0 := Int.emod_nonneg x (show b ≠ 0 by omega)
  have m1 := Int.emod_lt_of_pos x hb
  have n0 := Int.emod_nonneg y (show b ≠ 0 by omega)
  have n1 := Int.emod_lt_of_pos y hb
  refine ⟨?_, ?_⟩
  · apply Int.le_ediv_of_mul_le hb
    rw [Int.add_mul, Int.mul_comm (x / b), Int.mul_comm (y / b)]; omega
  · have : (x + y) / b < x / b + y / b + 2 := by
      apply Int.ediv_lt_of_lt_mul hb
      rw [Int.add_mul, Int.add_mul, Int.mul_comm (x / b), Int.mul_comm (y / b)]; omega
    omega
/-- P3.4: a curve by parts has at most its parts, and less by at most the ticks. -/
theorem cW_parts {F L R a b : Int} (hL : 0 ≤ L) (hb : 0 < b) (t : Nat) :
    cW (F * a / b) L (R * a / b) t ≤ cW F L R t * a / b ∧ cW F L R t * a / b ≤ cW (F * a / b) L (R * a / b) t + t := by
  induction t with
  | zero => simp [cW_zero hL]
  | succ t ih =>
    have e : ((t + 1 : Nat) : Int) = (t : Int) + 1 := by omega
    rw [e, cW_succ, cW_succ, Int.add_mul]
    by_cases h : (t : Int) < L
    · rw [if_pos h, if_pos h]
      have := @ediv_add_le (cW F L R t * a) (F * a) b hb
      omega
    · rw [if_neg h, if_neg h]
      have := @ediv_add_le (cW F L R t * a) (R * a) b hb
      omega
/-- A curve whose slopes became the same is straight. -/
theorem cW_same {R L t : Int} (h0 : 0 ≤ t) : cW R L R t = R * t := by
  rcases Int.lt_or_le t L with h | h
  · exact cW_lo (by omega)
  · rw [cW_hi h, ← Int.mul_add]; congr 1; omega
theorem cW_straight {R t : Int} (h0 : 0 ≤ t) : cW 0 0 R t = R * t := by
  rw [cW_hi h0]; simp
end Go.Proofs.Ytbgccdjkofpiaaa.W
