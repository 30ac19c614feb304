/- The walk of WideFractions, every case. No condition but that the numbers are of 32 bits. -/
import Derived.Test.YtdnljjpfmnfdoaaFracWalk
namespace Go.Proofs.Ytdnljjpfmnfdoaa.wideFractions
open Go.RowKit W
set_option linter.unusedVariables false

set_option maxRecDepth 100000 in
theorem zero (p q r s t u n : Int) (w : World) (p0 : 0 ≤ p) (p1 : p ≤ 4294967295) (q0 : 0 ≤ q) (q1 : q ≤ 4294967295) (r0 : 0 ≤ r) (r1 : r ≤ 4294967295) (s0 : 0 ≤ s) (s1 : s ≤ 4294967295)
    (t0 : 0 ≤ t) (t1 : t ≤ 4294967295) (u0 : 0 ≤ u) (u1 : u ≤ 4294967295) (h : q = 0 ∨ s = 0 ∨ u = 0) :
    Calls Try.prog 8 #[.int .u32 p, .int .u32 q, .int .u32 r, .int .u32 s, .int .u32 t, .int .u32 u, .int .u32 n] w fun e w' => e = .returned (.bool true) ∧ Below w.heap.size w w' := by
  by_cases hq : q = 0
  · subst hq
    clear h
    go_enter Try.func8, Try.ntmps8
    go_wp2_with (go_at_call 24; (with_reducible refine (awake_any _).mono ?_); rintro e w1 ⟨rfl, hb1⟩)
    go_ret
    exact ⟨rfl, hb1⟩
  · have hq' : (q == 0) = false := by simp; omega
    by_cases hs : s = 0
    · subst hs
      clear h hq
      go_enter Try.func8, Try.ntmps8
      go_wp2_with (go_at_call 24; (with_reducible refine (awake_any _).mono ?_); rintro e w1 ⟨rfl, hb1⟩)
      go_ret
      exact ⟨rfl, hb1⟩
    · have hs' : (s == 0) = false := by simp; omega
      obtain rfl : u = 0 := by omega
      clear h hq hs
      go_enter Try.func8, Try.ntmps8
      go_wp2_with (go_at_call 24; (with_reducible refine (awake_any _).mono ?_); rintro e w1 ⟨rfl, hb1⟩)
      go_ret
      exact ⟨rfl, hb1⟩

theorem cmp3 (x y : Int) : (cmpN x y = -1 ∧ cmpN y x = 1 ∧ x < y) ∨ (cmpN x y = 0 ∧ cmpN y x = 0 ∧ x = y) ∨ (cmpN x y = 1 ∧ cmpN y x = -1 ∧ y < x) := by
  rcases Int.lt_trichotomy x y with h | h | h
  · exact .inl ⟨cmpN_lt h, cmpN_gt h, h⟩
  · exact .inr (.inl ⟨cmpN_eq h, cmpN_eq h.symm, h⟩)
  · exact .inr (.inr ⟨cmpN_gt h, cmpN_lt h, h⟩)

/-- Fractions by their products: a chain of two. -/
theorem chain {p q r s t u : Int} (hq : 0 < q) (hs : 0 < s) (hu : 0 < u) : Go3 (cmpN (p * s) (r * q)) (cmpN (r * q) (p * s)) (cmpN (r * u) (t * s)) (cmpN (p * u) (t * q)) := by
  have e1 : p * s * u = p * u * s := Int.mul_right_comm p s u
  have e2 : r * q * u = r * u * q := Int.mul_right_comm r q u
  have e3 : t * s * q = t * q * s := Int.mul_right_comm t s q
  have a := cmp3 (p * s) (r * q)
  have b := cmp3 (r * u) (t * s)
  have c := cmp3 (p * u) (t * q)
  have lt1 : p * s < r * q → p * s * u < r * q * u := fun h => Int.mul_lt_mul_of_pos_right h hu
  have gt1 : r * q < p * s → r * q * u < p * s * u := fun h => Int.mul_lt_mul_of_pos_right h hu
  have eq1 : p * s = r * q → p * s * u = r * q * u := fun h => by rw [h]
  have lt2 : r * u < t * s → r * u * q < t * s * q := fun h => Int.mul_lt_mul_of_pos_right h hq
  have gt2 : t * s < r * u → t * s * q < r * u * q := fun h => Int.mul_lt_mul_of_pos_right h hq
  have eq2 : r * u = t * s → r * u * q = t * s * q := fun h => by rw [h]
  have lt3 : p * u < t * q → p * u * s < t * q * s := fun h => Int.mul_lt_mul_of_pos_right h hs
  have gt3 : t * q < p * u → t * q * s < p * u * s := fun h => Int.mul_lt_mul_of_pos_right h hs
  have eq3 : p * u = t * q → p * u * s = t * q * s := fun h => by rw [h]
  unfold Go3
  refine ⟨by omega, by omega, by omega, ?_, ?_⟩
  · rintro ⟨x, y, z⟩
    omega
  · rintro ⟨x, y⟩
    rcases b with ⟨b1, b2, b3⟩ | ⟨b1, b2, b3⟩ | ⟨b1, b2, b3⟩ <;> rcases c with ⟨c1, c2, c3⟩ | ⟨c1, c2, c3⟩ | ⟨c1, c2, c3⟩ <;> omega

theorem walk (p q r s t u n : Int) (hp : 0 ≤ p ∧ p ≤ 4294967295) (hq : 0 ≤ q ∧ q ≤ 4294967295) (hr : 0 ≤ r ∧ r ≤ 4294967295) (hs : 0 ≤ s ∧ s ≤ 4294967295)
    (ht : 0 ≤ t ∧ t ≤ 4294967295) (hu : 0 ≤ u ∧ u ≤ 4294967295) (hn : 0 ≤ n ∧ n ≤ 4294967295) (w : World) :
    Calls Try.prog 8 #[.int .u32 p, .int .u32 q, .int .u32 r, .int .u32 s, .int .u32 t, .int .u32 u, .int .u32 n] w fun e w' => e = .returned (.bool true) ∧ Below w.heap.size w w' := by
  by_cases h : q = 0 ∨ s = 0 ∨ u = 0
  · exact zero p q r s t u n w hp.1 hp.2 hq.1 hq.2 hr.1 hr.2 hs.1 hs.2 ht.1 ht.2 hu.1 hu.2 h
  · have w1 : ∀ x : Int, 0 ≤ x ∧ x ≤ 4294967296 → Word x := fun x hx => ⟨hx.1, by omega⟩
    have w2 : ∀ x y : Int, 0 ≤ x ∧ x ≤ 4294967295 → 0 ≤ y ∧ y ≤ 4294967295 → Word (x * y) := fun x y hx hy => by
      obtain ⟨a, b⟩ := half_mul hx hy
      exact ⟨a, by omega⟩
    refine core p q r s t u n _ _ _ _ w hp.1 hp.2 (by omega) hq.2 hr.1 hr.2 (by omega) hs.2 ht.1 ht.2 (by omega) hu.2 hn.1 hn.2 (chain (p := p) (q := q) (r := r) (s := s) (t := t) (u := u) (by omega) (by omega) (by omega))
      (fun w => Fraction_any p q r s w (w1 _ (by omega)) (w1 _ (by omega)) (w1 _ (by omega)) (w1 _ (by omega)))
      (fun w => Fraction_any r s t u w (w1 _ (by omega)) (w1 _ (by omega)) (w1 _ (by omega)) (w1 _ (by omega)))
      (fun w => Fraction_any p q t u w (w1 _ (by omega)) (w1 _ (by omega)) (w1 _ (by omega)) (w1 _ (by omega)))
      (fun w => Fraction_any r s p q w (w1 _ (by omega)) (w1 _ (by omega)) (w1 _ (by omega)) (w1 _ (by omega)))
      (fun hl w => ?_) (fun hl w => ?_) (fun w => ?_) (fun w => ?_)
    · have := Fraction_any (p * (n + 1)) (q * (n + 1)) p q w (w2 _ _ hp (by omega)) (w2 _ _ hq (by omega)) (w1 _ (by omega)) (w1 _ (by omega))
      rwa [cmpN_eq (show p * (n + 1) * q = p * (q * (n + 1)) by rw [Int.mul_right_comm, Int.mul_assoc])] at this
    · have := Fraction_any (p * (n + 1)) (q * (n + 1)) r s w (w2 _ _ hp (by omega)) (w2 _ _ hq (by omega)) (w1 _ (by omega)) (w1 _ (by omega))
      have e1 : p * (n + 1) * s = p * s * (n + 1) := Int.mul_right_comm _ _ _
      have e2 : r * (q * (n + 1)) = r * q * (n + 1) := (Int.mul_assoc _ _ _).symm
      have e3 : cmpN (p * s * (n + 1)) (r * q * (n + 1)) = cmpN (p * s) (r * q) := by
        rcases Int.lt_trichotomy (p * s) (r * q) with h | h | h
        · rw [cmpN_lt h, cmpN_lt (Int.mul_lt_mul_of_pos_right h (by omega))]
        · rw [cmpN_eq h, cmpN_eq (by rw [h])]
        · rw [cmpN_gt h, cmpN_gt (Int.mul_lt_mul_of_pos_right h (by omega))]
      rwa [e1, e2, e3] at this
    · have := Fraction_any (p + 1) q p q w (w1 _ (by omega)) (w1 _ (by omega)) (w1 _ (by omega)) (w1 _ (by omega))
      rwa [cmpN_gt (show p * q < (p + 1) * q by rw [qy1']; omega)] at this
    · have := Fraction_any (p + 1) (q + 1) (p + 1) q w (w1 _ (by omega)) (w1 _ (by omega)) (w1 _ (by omega)) (w1 _ (by omega))
      rwa [cmpN_lt (show (p + 1) * q < (p + 1) * (q + 1) by rw [Int.mul_add (p + 1) q 1, Int.mul_one]; omega)] at this
end Go.Proofs.Ytdnljjpfmnfdoaa.wideFractions
