/- The walks of RatioGrows and RatioLeast. No condition but that words are words. -/
import Derived.Test.YtiieehnfbemleaaStopsWalk
namespace Go.Proofs.Ytiieehnfbemleaa
open Go.RowKit W
set_option linter.unusedVariables false
namespace W
theorem qD_nn {a b c : Int} (ha : Word a) (hb : Word b) (hc : Word c) : Word (qD a b c) := by
  unfold qD; split
  · exact ⟨by omega, by omega⟩
  · exact stp_word (Int.ediv_nonneg (word_mul ha hb).1 hc.1)
theorem qU_nn {a b c : Int} (ha : Word a) (hb : Word b) (hc : Word c) : Word (qU a b c) := by
  unfold qU; split
  · exact ⟨by omega, by omega⟩
  · have := (word_mul ha hb).1
    exact stp_word (Int.ediv_nonneg (by have := hc.1; omega) hc.1)
theorem ceil_some2 {x c : Int} (c0 : 1 ≤ c) (h : 0 < x % c) : (x + (c - 1)) / c = x / c + 1 := by
  have e := Int.mul_ediv_add_emod x c
  have m := Int.emod_lt_of_pos x (show 0 < c by omega)
  have e2 : x + (c - 1) = (x % c - 1) + c * (x / c + 1) := by rw [Int.mul_add]; omega
  rw [e2, Int.add_mul_ediv_left _ _ (by omega), Int.ediv_eq_zero_of_lt (by omega) (by omega)]
  omega
theorem ceil_none2 {x c : Int} (c0 : 1 ≤ c) (h : x % c = 0) : (x + (c - 1)) / c = x / c := by
  have e := Int.mul_ediv_add_emod x c
  have e2 : x + (c - 1) = (c - 1) + c * (x / c) := by omega
  rw [e2, Int.add_mul_ediv_left _ _ (by omega), Int.ediv_eq_zero_of_lt (by omega) (by omega)]
  omega
theorem div_mono {x y c : Int} (hc : 0 < c) (h : x ≤ y) : x / c ≤ y / c := Int.ediv_le_ediv hc h
theorem qD_mono {x y b c : Int} (h : x ≤ y) (hb : 0 ≤ b) (hc : 0 ≤ c) : qD x b c ≤ qD y b c := by
  unfold qD; split
  · omega
  · exact stp_mono (div_mono (by omega) (Int.mul_le_mul_of_nonneg_right h hb))
theorem qU_mono {x y b c : Int} (h : x ≤ y) (hb : 0 ≤ b) (hc : 0 ≤ c) : qU x b c ≤ qU y b c := by
  unfold qU; split
  · omega
  · have := Int.mul_le_mul_of_nonneg_right h hb
    exact stp_mono (div_mono (by omega) (by omega))
theorem div_anti {x c : Int} (hx : 0 ≤ x) (hc : 0 < c) : x / (c + 1) ≤ x / c := by
  apply Int.le_ediv_of_mul_le hc
  have e := Int.mul_ediv_add_emod x (c + 1)
  have m := Int.emod_nonneg x (show c + 1 ≠ 0 by omega)
  have q := Int.ediv_nonneg hx (show 0 ≤ c + 1 by omega)
  rw [Int.add_mul, Int.one_mul] at e
  rw [Int.mul_comm]
  omega
theorem qD_anti {x b c : Int} (hx : Word x) (hb : Word b) (hc : 0 < c) : qD x b (c + 1) ≤ qD x b c := by
  unfold qD; rw [if_neg (by omega), if_neg (by omega)]
  exact stp_mono (div_anti (word_mul hx hb).1 hc)
theorem ceil_anti {x c : Int} (hx : 0 ≤ x) (hc : 0 < c) : (x + (c + 1 - 1)) / (c + 1) ≤ (x + (c - 1)) / c := by
  rcases Int.lt_or_eq_of_le (Int.emod_nonneg x (show c ≠ 0 by omega)) with h | h
  · rw [ceil_some2 (by omega) h]
    have := div_anti hx hc
    have h2 : (x + (c + 1 - 1)) / (c + 1) ≤ x / (c + 1) + 1 := by
      rcases Int.lt_or_eq_of_le (Int.emod_nonneg x (show c + 1 ≠ 0 by omega)) with k | k
      · rw [ceil_some2 (by omega) k]; omega
      · rw [ceil_none2 (by omega) k.symm]; omega
    omega
  · rw [ceil_none2 (by omega) h.symm]
    -- x = c * q: (c q + c) / (c + 1) ≤ q
    have e := Int.mul_ediv_add_emod x c
    have q := Int.ediv_nonneg hx (show 0 ≤ c by omega)
    obtain ⟨Q, eQ⟩ : ∃ Q, x / c = Q := ⟨_, rfl⟩
    rw [eQ] at e q ⊢
    have : (x + (c + 1 - 1)) / (c + 1) < Q + 1 := by
      apply Int.ediv_lt_of_lt_mul (by omega)
      have e1 : (Q + 1) * (c + 1) = c * Q + Q + c + 1 := by rw [Int.add_mul, Int.mul_add, Int.mul_comm Q c]; omega
      omega
    omega
theorem qU_anti {x b c : Int} (hx : Word x) (hb : Word b) (hc : 0 < c) : qU x b (c + 1) ≤ qU x b c := by
  unfold qU; rw [if_neg (by omega), if_neg (by omega)]
  exact stp_mono (ceil_anti (word_mul hx hb).1 hc)
/-- The least number of which c times it is p at least. -/
theorem ceil_spec {p c : Int} (hp : 0 ≤ p) (hc : 0 < c) : 0 ≤ (p + (c - 1)) / c ∧ p ≤ (p + (c - 1)) / c * c ∧ (p + (c - 1)) / c * c < p + c := by
  have e := Int.mul_ediv_add_emod (p + (c - 1)) c
  have m0 := Int.emod_nonneg (p + (c - 1)) (show c ≠ 0 by omega)
  have m1 := Int.emod_lt_of_pos (p + (c - 1)) hc
  refine ⟨Int.ediv_nonneg (by omega) (by omega), ?_, ?_⟩ <;> rw [Int.mul_comm] <;> omega
theorem least_spec {a b c : Int} (ha : Word a) (hb : Word b) (hc : Word c) (b0 : 0 < b) (c0 : 0 < c) (aC : a < 4611686018427387904) :
    (qU a b c = 4611686018427387904 ∧ 4611686018427387903 * c < a * b) ∨
    (qU a b c = 0 ∧ a = 0) ∨
    (0 < qU a b c ∧ qU a b c < 4611686018427387904 ∧ a ≤ qD (qU a b c) c b ∧ qD (qU a b c - 1) c b < a) := by
  have hp := (word_mul ha hb).1
  obtain ⟨u0, u1, u2⟩ := ceil_spec hp c0
  have eU : qU a b c = stp ((a * b + (c - 1)) / c) := by unfold qU; rw [if_neg (by omega)]
  rw [eU]
  obtain ⟨u, hu⟩ : ∃ u, (a * b + (c - 1)) / c = u := ⟨_, rfl⟩
  rw [hu] at u0 u1 u2 ⊢
  rcases Int.lt_or_le u 4611686018427387904 with h | h
  · right
    rw [stp_lo (show u ≤ 4611686018427387904 by omega)]
    rcases Int.lt_or_eq_of_le u0 with k | k
    · right
      refine ⟨k, h, ?_, ?_⟩
      · unfold qD; rw [if_neg (by omega)]
        have h1 : a ≤ u * c / b := Int.le_ediv_of_mul_le b0 u1
        rcases stp_or (u * c / b) with ⟨h2, e⟩ | ⟨h2, e⟩ <;> omega
      · unfold qD; rw [if_neg (by omega)]
        have h1 : (u - 1) * c / b < a := by
          apply Int.ediv_lt_of_lt_mul b0
          rw [Int.sub_mul, Int.one_mul]; omega
        rw [stp_lo (by omega)]
        exact h1
    · left
      refine ⟨k.symm, ?_⟩
      rw [← k, Int.zero_mul] at u1
      have h3 : a * b = 0 := by omega
      rcases Int.mul_eq_zero.1 h3 with h4 | h4
      · exact h4
      · omega
  · left
    refine ⟨?_, ?_⟩
    · rcases stp_or u with ⟨h2, e⟩ | ⟨h2, e⟩ <;> omega
    · have h1 : (4611686018427387904 : Int) * c ≤ u * c := Int.mul_le_mul_of_nonneg_right h (by omega)
      omega
end W

set_option maxRecDepth 100000 in
set_option maxHeartbeats 1000000 in
theorem grows_up_zero (a b d p q r s o t u : Int) (w : World) (hlt : a < d)
    (D1 : ∀ w, Calls Try.prog 24 #[.int .u64 a, .int .u64 b, .int .u64 0] w fun e w' => e = .returned (.tuple #[.int .u64 p, .int .i64 2]) ∧ Below w.heap.size w w')
    (D2 : ∀ w, Calls Try.prog 24 #[.int .u64 d, .int .u64 b, .int .u64 0] w fun e w' => e = .returned (.tuple #[.int .u64 q, .int .i64 2]) ∧ Below w.heap.size w w')
    (U1 : ∀ w, Calls Try.prog 26 #[.int .u64 a, .int .u64 b, .int .u64 0] w fun e w' => e = .returned (.tuple #[.int .u64 r, .int .i64 2]) ∧ Below w.heap.size w w')
    (U2 : ∀ w, Calls Try.prog 26 #[.int .u64 d, .int .u64 b, .int .u64 0] w fun e w' => e = .returned (.tuple #[.int .u64 s, .int .i64 2]) ∧ Below w.heap.size w w')
    (D3 : ∀ w, Calls Try.prog 24 #[.int .u64 a, .int .u64 b, .int .u64 1] w fun e w' => e = .returned (.tuple #[.int .u64 o, .int .i64 0]) ∧ Below w.heap.size w w')
    (T1 : ∀ w, Calls Try.prog 20 #[.int .u64 a, .int .u64 b] w fun e w' => e = .returned (.int .u64 o) ∧ Below w.heap.size w w')
    (d0 : decide (q < p) = false) (d1 : decide (s < r) = false) :
    Calls Try.prog 9 #[.int .u64 a, .int .u64 b, .int .u64 0, .int .u64 d] w fun e w' => e = .returned (.bool true) ∧ Below w.heap.size w w' := by
  have hA := awakeB_any
  have T := Below.refl w.heap.size w
  have m1 : min a d = a := by omega
  have m2 : max a d = d := by omega
  go_enter Try.func9, Try.ntmps9
  go_wp2_with (first
    | (go_at_call 28; (with_reducible refine (hA _).mono ?_); rintro e w1 ⟨rfl, hb⟩; replace T := up T hb T.size; clear hb)
    | (go_at_call 24; (with_reducible refine (D1 _).mono ?_); rintro e w2 ⟨rfl, hb⟩; replace T := up T hb T.size; clear hb)
    | (go_at_call 24; (with_reducible refine (D2 _).mono ?_); rintro e w3 ⟨rfl, hb⟩; replace T := up T hb T.size; clear hb)
    | (go_at_call 26; (with_reducible refine (U1 _).mono ?_); rintro e w4 ⟨rfl, hb⟩; replace T := up T hb T.size; clear hb)
    | (go_at_call 26; (with_reducible refine (U2 _).mono ?_); rintro e w5 ⟨rfl, hb⟩; replace T := up T hb T.size; clear hb)
    | (go_at_call 24; (with_reducible refine (D3 _).mono ?_); rintro e w6 ⟨rfl, hb⟩; replace T := up T hb T.size; clear hb)
    | (go_at_call 20; (with_reducible refine (T1 _).mono ?_); rintro e w7 ⟨rfl, hb⟩; replace T := up T hb T.size; clear hb))
  go_ret
  exact ⟨rfl, T⟩

set_option maxRecDepth 100000 in
set_option maxHeartbeats 1000000 in
theorem grows_down_zero (a b d p q r s o t u : Int) (w : World) (hlt : d < a)
    (D1 : ∀ w, Calls Try.prog 24 #[.int .u64 d, .int .u64 b, .int .u64 0] w fun e w' => e = .returned (.tuple #[.int .u64 p, .int .i64 2]) ∧ Below w.heap.size w w')
    (D2 : ∀ w, Calls Try.prog 24 #[.int .u64 a, .int .u64 b, .int .u64 0] w fun e w' => e = .returned (.tuple #[.int .u64 q, .int .i64 2]) ∧ Below w.heap.size w w')
    (U1 : ∀ w, Calls Try.prog 26 #[.int .u64 d, .int .u64 b, .int .u64 0] w fun e w' => e = .returned (.tuple #[.int .u64 r, .int .i64 2]) ∧ Below w.heap.size w w')
    (U2 : ∀ w, Calls Try.prog 26 #[.int .u64 a, .int .u64 b, .int .u64 0] w fun e w' => e = .returned (.tuple #[.int .u64 s, .int .i64 2]) ∧ Below w.heap.size w w')
    (D3 : ∀ w, Calls Try.prog 24 #[.int .u64 a, .int .u64 b, .int .u64 1] w fun e w' => e = .returned (.tuple #[.int .u64 o, .int .i64 0]) ∧ Below w.heap.size w w')
    (T1 : ∀ w, Calls Try.prog 20 #[.int .u64 a, .int .u64 b] w fun e w' => e = .returned (.int .u64 o) ∧ Below w.heap.size w w')
    (d0 : decide (q < p) = false) (d1 : decide (s < r) = false) :
    Calls Try.prog 9 #[.int .u64 a, .int .u64 b, .int .u64 0, .int .u64 d] w fun e w' => e = .returned (.bool true) ∧ Below w.heap.size w w' := by
  have hA := awakeB_any
  have T := Below.refl w.heap.size w
  have m1 : min a d = d := by omega
  have m2 : max a d = a := by omega
  go_enter Try.func9, Try.ntmps9
  go_wp2_with (first
    | (go_at_call 28; (with_reducible refine (hA _).mono ?_); rintro e w1 ⟨rfl, hb⟩; replace T := up T hb T.size; clear hb)
    | (go_at_call 24; (with_reducible refine (D1 _).mono ?_); rintro e w2 ⟨rfl, hb⟩; replace T := up T hb T.size; clear hb)
    | (go_at_call 24; (with_reducible refine (D2 _).mono ?_); rintro e w3 ⟨rfl, hb⟩; replace T := up T hb T.size; clear hb)
    | (go_at_call 26; (with_reducible refine (U1 _).mono ?_); rintro e w4 ⟨rfl, hb⟩; replace T := up T hb T.size; clear hb)
    | (go_at_call 26; (with_reducible refine (U2 _).mono ?_); rintro e w5 ⟨rfl, hb⟩; replace T := up T hb T.size; clear hb)
    | (go_at_call 24; (with_reducible refine (D3 _).mono ?_); rintro e w6 ⟨rfl, hb⟩; replace T := up T hb T.size; clear hb)
    | (go_at_call 20; (with_reducible refine (T1 _).mono ?_); rintro e w7 ⟨rfl, hb⟩; replace T := up T hb T.size; clear hb))
  go_ret
  exact ⟨rfl, T⟩

set_option maxRecDepth 100000 in
set_option maxHeartbeats 1000000 in
theorem grows_same_zero (a b p q r s o t u : Int) (w : World)
    (D1 : ∀ w, Calls Try.prog 24 #[.int .u64 a, .int .u64 b, .int .u64 0] w fun e w' => e = .returned (.tuple #[.int .u64 p, .int .i64 2]) ∧ Below w.heap.size w w')
    (U1 : ∀ w, Calls Try.prog 26 #[.int .u64 a, .int .u64 b, .int .u64 0] w fun e w' => e = .returned (.tuple #[.int .u64 r, .int .i64 2]) ∧ Below w.heap.size w w')
    (D3 : ∀ w, Calls Try.prog 24 #[.int .u64 a, .int .u64 b, .int .u64 1] w fun e w' => e = .returned (.tuple #[.int .u64 o, .int .i64 0]) ∧ Below w.heap.size w w')
    (T1 : ∀ w, Calls Try.prog 20 #[.int .u64 a, .int .u64 b] w fun e w' => e = .returned (.int .u64 o) ∧ Below w.heap.size w w')
     :
    Calls Try.prog 9 #[.int .u64 a, .int .u64 b, .int .u64 0, .int .u64 a] w fun e w' => e = .returned (.bool true) ∧ Below w.heap.size w w' := by
  have hA := awakeB_any
  have T := Below.refl w.heap.size w
  go_enter Try.func9, Try.ntmps9
  go_wp2_with (first
    | (go_at_call 28; (with_reducible refine (hA _).mono ?_); rintro e w1 ⟨rfl, hb⟩; replace T := up T hb T.size; clear hb)
    | (go_at_call 24; (with_reducible refine (D1 _).mono ?_); rintro e w2 ⟨rfl, hb⟩; replace T := up T hb T.size; clear hb)
    | (go_at_call 26; (with_reducible refine (U1 _).mono ?_); rintro e w3 ⟨rfl, hb⟩; replace T := up T hb T.size; clear hb)
    | (go_at_call 24; (with_reducible refine (D3 _).mono ?_); rintro e w4 ⟨rfl, hb⟩; replace T := up T hb T.size; clear hb)
    | (go_at_call 20; (with_reducible refine (T1 _).mono ?_); rintro e w5 ⟨rfl, hb⟩; replace T := up T hb T.size; clear hb))
  go_ret
  exact ⟨rfl, T⟩

set_option maxRecDepth 100000 in
set_option maxHeartbeats 1000000 in
theorem grows_up_top (a b d p q r s o t u : Int) (w : World) (hlt : a < d)
    (D1 : ∀ w, Calls Try.prog 24 #[.int .u64 a, .int .u64 b, .int .u64 18446744073709551615] w fun e w' => e = .returned (.tuple #[.int .u64 p, .int .i64 0]) ∧ Below w.heap.size w w')
    (D2 : ∀ w, Calls Try.prog 24 #[.int .u64 d, .int .u64 b, .int .u64 18446744073709551615] w fun e w' => e = .returned (.tuple #[.int .u64 q, .int .i64 0]) ∧ Below w.heap.size w w')
    (U1 : ∀ w, Calls Try.prog 26 #[.int .u64 a, .int .u64 b, .int .u64 18446744073709551615] w fun e w' => e = .returned (.tuple #[.int .u64 r, .int .i64 0]) ∧ Below w.heap.size w w')
    (U2 : ∀ w, Calls Try.prog 26 #[.int .u64 d, .int .u64 b, .int .u64 18446744073709551615] w fun e w' => e = .returned (.tuple #[.int .u64 s, .int .i64 0]) ∧ Below w.heap.size w w')
    (D3 : ∀ w, Calls Try.prog 24 #[.int .u64 a, .int .u64 b, .int .u64 1] w fun e w' => e = .returned (.tuple #[.int .u64 o, .int .i64 0]) ∧ Below w.heap.size w w')
    (T1 : ∀ w, Calls Try.prog 20 #[.int .u64 a, .int .u64 b] w fun e w' => e = .returned (.int .u64 o) ∧ Below w.heap.size w w')
    (d0 : decide (q < p) = false) (d1 : decide (s < r) = false) :
    Calls Try.prog 9 #[.int .u64 a, .int .u64 b, .int .u64 18446744073709551615, .int .u64 d] w fun e w' => e = .returned (.bool true) ∧ Below w.heap.size w w' := by
  have hA := awakeB_any
  have T := Below.refl w.heap.size w
  have m1 : min a d = a := by omega
  have m2 : max a d = d := by omega
  go_enter Try.func9, Try.ntmps9
  go_wp2_with (first
    | (go_at_call 28; (with_reducible refine (hA _).mono ?_); rintro e w1 ⟨rfl, hb⟩; replace T := up T hb T.size; clear hb)
    | (go_at_call 24; (with_reducible refine (D1 _).mono ?_); rintro e w2 ⟨rfl, hb⟩; replace T := up T hb T.size; clear hb)
    | (go_at_call 24; (with_reducible refine (D2 _).mono ?_); rintro e w3 ⟨rfl, hb⟩; replace T := up T hb T.size; clear hb)
    | (go_at_call 26; (with_reducible refine (U1 _).mono ?_); rintro e w4 ⟨rfl, hb⟩; replace T := up T hb T.size; clear hb)
    | (go_at_call 26; (with_reducible refine (U2 _).mono ?_); rintro e w5 ⟨rfl, hb⟩; replace T := up T hb T.size; clear hb)
    | (go_at_call 24; (with_reducible refine (D3 _).mono ?_); rintro e w6 ⟨rfl, hb⟩; replace T := up T hb T.size; clear hb)
    | (go_at_call 20; (with_reducible refine (T1 _).mono ?_); rintro e w7 ⟨rfl, hb⟩; replace T := up T hb T.size; clear hb))
  go_ret
  exact ⟨rfl, T⟩

set_option maxRecDepth 100000 in
set_option maxHeartbeats 1000000 in
theorem grows_down_top (a b d p q r s o t u : Int) (w : World) (hlt : d < a)
    (D1 : ∀ w, Calls Try.prog 24 #[.int .u64 d, .int .u64 b, .int .u64 18446744073709551615] w fun e w' => e = .returned (.tuple #[.int .u64 p, .int .i64 0]) ∧ Below w.heap.size w w')
    (D2 : ∀ w, Calls Try.prog 24 #[.int .u64 a, .int .u64 b, .int .u64 18446744073709551615] w fun e w' => e = .returned (.tuple #[.int .u64 q, .int .i64 0]) ∧ Below w.heap.size w w')
    (U1 : ∀ w, Calls Try.prog 26 #[.int .u64 d, .int .u64 b, .int .u64 18446744073709551615] w fun e w' => e = .returned (.tuple #[.int .u64 r, .int .i64 0]) ∧ Below w.heap.size w w')
    (U2 : ∀ w, Calls Try.prog 26 #[.int .u64 a, .int .u64 b, .int .u64 18446744073709551615] w fun e w' => e = .returned (.tuple #[.int .u64 s, .int .i64 0]) ∧ Below w.heap.size w w')
    (D3 : ∀ w, Calls Try.prog 24 #[.int .u64 a, .int .u64 b, .int .u64 1] w fun e w' => e = .returned (.tuple #[.int .u64 o, .int .i64 0]) ∧ Below w.heap.size w w')
    (T1 : ∀ w, Calls Try.prog 20 #[.int .u64 a, .int .u64 b] w fun e w' => e = .returned (.int .u64 o) ∧ Below w.heap.size w w')
    (d0 : decide (q < p) = false) (d1 : decide (s < r) = false) :
    Calls Try.prog 9 #[.int .u64 a, .int .u64 b, .int .u64 18446744073709551615, .int .u64 d] w fun e w' => e = .returned (.bool true) ∧ Below w.heap.size w w' := by
  have hA := awakeB_any
  have T := Below.refl w.heap.size w
  have m1 : min a d = d := by omega
  have m2 : max a d = a := by omega
  go_enter Try.func9, Try.ntmps9
  go_wp2_with (first
    | (go_at_call 28; (with_reducible refine (hA _).mono ?_); rintro e w1 ⟨rfl, hb⟩; replace T := up T hb T.size; clear hb)
    | (go_at_call 24; (with_reducible refine (D1 _).mono ?_); rintro e w2 ⟨rfl, hb⟩; replace T := up T hb T.size; clear hb)
    | (go_at_call 24; (with_reducible refine (D2 _).mono ?_); rintro e w3 ⟨rfl, hb⟩; replace T := up T hb T.size; clear hb)
    | (go_at_call 26; (with_reducible refine (U1 _).mono ?_); rintro e w4 ⟨rfl, hb⟩; replace T := up T hb T.size; clear hb)
    | (go_at_call 26; (with_reducible refine (U2 _).mono ?_); rintro e w5 ⟨rfl, hb⟩; replace T := up T hb T.size; clear hb)
    | (go_at_call 24; (with_reducible refine (D3 _).mono ?_); rintro e w6 ⟨rfl, hb⟩; replace T := up T hb T.size; clear hb)
    | (go_at_call 20; (with_reducible refine (T1 _).mono ?_); rintro e w7 ⟨rfl, hb⟩; replace T := up T hb T.size; clear hb))
  go_ret
  exact ⟨rfl, T⟩

set_option maxRecDepth 100000 in
set_option maxHeartbeats 1000000 in
theorem grows_same_top (a b p q r s o t u : Int) (w : World)
    (D1 : ∀ w, Calls Try.prog 24 #[.int .u64 a, .int .u64 b, .int .u64 18446744073709551615] w fun e w' => e = .returned (.tuple #[.int .u64 p, .int .i64 0]) ∧ Below w.heap.size w w')
    (U1 : ∀ w, Calls Try.prog 26 #[.int .u64 a, .int .u64 b, .int .u64 18446744073709551615] w fun e w' => e = .returned (.tuple #[.int .u64 r, .int .i64 0]) ∧ Below w.heap.size w w')
    (D3 : ∀ w, Calls Try.prog 24 #[.int .u64 a, .int .u64 b, .int .u64 1] w fun e w' => e = .returned (.tuple #[.int .u64 o, .int .i64 0]) ∧ Below w.heap.size w w')
    (T1 : ∀ w, Calls Try.prog 20 #[.int .u64 a, .int .u64 b] w fun e w' => e = .returned (.int .u64 o) ∧ Below w.heap.size w w')
     :
    Calls Try.prog 9 #[.int .u64 a, .int .u64 b, .int .u64 18446744073709551615, .int .u64 a] w fun e w' => e = .returned (.bool true) ∧ Below w.heap.size w w' := by
  have hA := awakeB_any
  have T := Below.refl w.heap.size w
  go_enter Try.func9, Try.ntmps9
  go_wp2_with (first
    | (go_at_call 28; (with_reducible refine (hA _).mono ?_); rintro e w1 ⟨rfl, hb⟩; replace T := up T hb T.size; clear hb)
    | (go_at_call 24; (with_reducible refine (D1 _).mono ?_); rintro e w2 ⟨rfl, hb⟩; replace T := up T hb T.size; clear hb)
    | (go_at_call 26; (with_reducible refine (U1 _).mono ?_); rintro e w3 ⟨rfl, hb⟩; replace T := up T hb T.size; clear hb)
    | (go_at_call 24; (with_reducible refine (D3 _).mono ?_); rintro e w4 ⟨rfl, hb⟩; replace T := up T hb T.size; clear hb)
    | (go_at_call 20; (with_reducible refine (T1 _).mono ?_); rintro e w5 ⟨rfl, hb⟩; replace T := up T hb T.size; clear hb))
  go_ret
  exact ⟨rfl, T⟩

set_option maxRecDepth 100000 in
set_option maxHeartbeats 1000000 in
theorem grows_up_mid (a b c d p q r s o t u : Int) (w : World) (hlt : a < d) (c0 : 0 < c) (c1 : c < 18446744073709551615)
    (D1 : ∀ w, Calls Try.prog 24 #[.int .u64 a, .int .u64 b, .int .u64 c] w fun e w' => e = .returned (.tuple #[.int .u64 p, .int .i64 0]) ∧ Below w.heap.size w w')
    (D2 : ∀ w, Calls Try.prog 24 #[.int .u64 d, .int .u64 b, .int .u64 c] w fun e w' => e = .returned (.tuple #[.int .u64 q, .int .i64 0]) ∧ Below w.heap.size w w')
    (U1 : ∀ w, Calls Try.prog 26 #[.int .u64 a, .int .u64 b, .int .u64 c] w fun e w' => e = .returned (.tuple #[.int .u64 r, .int .i64 0]) ∧ Below w.heap.size w w')
    (U2 : ∀ w, Calls Try.prog 26 #[.int .u64 d, .int .u64 b, .int .u64 c] w fun e w' => e = .returned (.tuple #[.int .u64 s, .int .i64 0]) ∧ Below w.heap.size w w')
    (D3 : ∀ w, Calls Try.prog 24 #[.int .u64 a, .int .u64 b, .int .u64 1] w fun e w' => e = .returned (.tuple #[.int .u64 o, .int .i64 0]) ∧ Below w.heap.size w w')
    (T1 : ∀ w, Calls Try.prog 20 #[.int .u64 a, .int .u64 b] w fun e w' => e = .returned (.int .u64 o) ∧ Below w.heap.size w w')
    (D4 : ∀ w, Calls Try.prog 24 #[.int .u64 a, .int .u64 b, .int .u64 (c + 1)] w fun e w' => e = .returned (.tuple #[.int .u64 t, .int .i64 0]) ∧ Below w.heap.size w w')
    (U3 : ∀ w, Calls Try.prog 26 #[.int .u64 a, .int .u64 b, .int .u64 (c + 1)] w fun e w' => e = .returned (.tuple #[.int .u64 u, .int .i64 0]) ∧ Below w.heap.size w w')
    (d0 : decide (q < p) = false) (d1 : decide (s < r) = false) (d2 : t ≤ p) (d3 : u ≤ r) :
    Calls Try.prog 9 #[.int .u64 a, .int .u64 b, .int .u64 c, .int .u64 d] w fun e w' => e = .returned (.bool true) ∧ Below w.heap.size w w' := by
  have hA := awakeB_any
  have T := Below.refl w.heap.size w
  have m1 : min a d = a := by omega
  have m2 : max a d = d := by omega
  have hz : (c == 0) = false := by simp; omega
  have hz2 : (c == 18446744073709551615) = false := by simp; omega
  go_enter Try.func9, Try.ntmps9
  go_wp2_with (first
    | (go_at_call 28; (with_reducible refine (hA _).mono ?_); rintro e w1 ⟨rfl, hb⟩; replace T := up T hb T.size; clear hb)
    | (go_at_call 24; (with_reducible refine (D1 _).mono ?_); rintro e w2 ⟨rfl, hb⟩; replace T := up T hb T.size; clear hb)
    | (go_at_call 24; (with_reducible refine (D2 _).mono ?_); rintro e w3 ⟨rfl, hb⟩; replace T := up T hb T.size; clear hb)
    | (go_at_call 26; (with_reducible refine (U1 _).mono ?_); rintro e w4 ⟨rfl, hb⟩; replace T := up T hb T.size; clear hb)
    | (go_at_call 26; (with_reducible refine (U2 _).mono ?_); rintro e w5 ⟨rfl, hb⟩; replace T := up T hb T.size; clear hb)
    | (go_at_call 24; (with_reducible refine (D3 _).mono ?_); rintro e w6 ⟨rfl, hb⟩; replace T := up T hb T.size; clear hb)
    | (go_at_call 20; (with_reducible refine (T1 _).mono ?_); rintro e w7 ⟨rfl, hb⟩; replace T := up T hb T.size; clear hb)
    | (go_at_call 24; (with_reducible refine (D4 _).mono ?_); rintro e w8 ⟨rfl, hb⟩; replace T := up T hb T.size; clear hb)
    | (go_at_call 26; (with_reducible refine (U3 _).mono ?_); rintro e w9 ⟨rfl, hb⟩; replace T := up T hb T.size; clear hb))
  go_ret
  exact ⟨rfl, T⟩

set_option maxRecDepth 100000 in
set_option maxHeartbeats 1000000 in
theorem grows_down_mid (a b c d p q r s o t u : Int) (w : World) (hlt : d < a) (c0 : 0 < c) (c1 : c < 18446744073709551615)
    (D1 : ∀ w, Calls Try.prog 24 #[.int .u64 d, .int .u64 b, .int .u64 c] w fun e w' => e = .returned (.tuple #[.int .u64 p, .int .i64 0]) ∧ Below w.heap.size w w')
    (D2 : ∀ w, Calls Try.prog 24 #[.int .u64 a, .int .u64 b, .int .u64 c] w fun e w' => e = .returned (.tuple #[.int .u64 q, .int .i64 0]) ∧ Below w.heap.size w w')
    (U1 : ∀ w, Calls Try.prog 26 #[.int .u64 d, .int .u64 b, .int .u64 c] w fun e w' => e = .returned (.tuple #[.int .u64 r, .int .i64 0]) ∧ Below w.heap.size w w')
    (U2 : ∀ w, Calls Try.prog 26 #[.int .u64 a, .int .u64 b, .int .u64 c] w fun e w' => e = .returned (.tuple #[.int .u64 s, .int .i64 0]) ∧ Below w.heap.size w w')
    (D3 : ∀ w, Calls Try.prog 24 #[.int .u64 a, .int .u64 b, .int .u64 1] w fun e w' => e = .returned (.tuple #[.int .u64 o, .int .i64 0]) ∧ Below w.heap.size w w')
    (T1 : ∀ w, Calls Try.prog 20 #[.int .u64 a, .int .u64 b] w fun e w' => e = .returned (.int .u64 o) ∧ Below w.heap.size w w')
    (D4 : ∀ w, Calls Try.prog 24 #[.int .u64 d, .int .u64 b, .int .u64 (c + 1)] w fun e w' => e = .returned (.tuple #[.int .u64 t, .int .i64 0]) ∧ Below w.heap.size w w')
    (U3 : ∀ w, Calls Try.prog 26 #[.int .u64 d, .int .u64 b, .int .u64 (c + 1)] w fun e w' => e = .returned (.tuple #[.int .u64 u, .int .i64 0]) ∧ Below w.heap.size w w')
    (d0 : decide (q < p) = false) (d1 : decide (s < r) = false) (d2 : t ≤ p) (d3 : u ≤ r) :
    Calls Try.prog 9 #[.int .u64 a, .int .u64 b, .int .u64 c, .int .u64 d] w fun e w' => e = .returned (.bool true) ∧ Below w.heap.size w w' := by
  have hA := awakeB_any
  have T := Below.refl w.heap.size w
  have m1 : min a d = d := by omega
  have m2 : max a d = a := by omega
  have hz : (c == 0) = false := by simp; omega
  have hz2 : (c == 18446744073709551615) = false := by simp; omega
  go_enter Try.func9, Try.ntmps9
  go_wp2_with (first
    | (go_at_call 28; (with_reducible refine (hA _).mono ?_); rintro e w1 ⟨rfl, hb⟩; replace T := up T hb T.size; clear hb)
    | (go_at_call 24; (with_reducible refine (D1 _).mono ?_); rintro e w2 ⟨rfl, hb⟩; replace T := up T hb T.size; clear hb)
    | (go_at_call 24; (with_reducible refine (D2 _).mono ?_); rintro e w3 ⟨rfl, hb⟩; replace T := up T hb T.size; clear hb)
    | (go_at_call 26; (with_reducible refine (U1 _).mono ?_); rintro e w4 ⟨rfl, hb⟩; replace T := up T hb T.size; clear hb)
    | (go_at_call 26; (with_reducible refine (U2 _).mono ?_); rintro e w5 ⟨rfl, hb⟩; replace T := up T hb T.size; clear hb)
    | (go_at_call 24; (with_reducible refine (D3 _).mono ?_); rintro e w6 ⟨rfl, hb⟩; replace T := up T hb T.size; clear hb)
    | (go_at_call 20; (with_reducible refine (T1 _).mono ?_); rintro e w7 ⟨rfl, hb⟩; replace T := up T hb T.size; clear hb)
    | (go_at_call 24; (with_reducible refine (D4 _).mono ?_); rintro e w8 ⟨rfl, hb⟩; replace T := up T hb T.size; clear hb)
    | (go_at_call 26; (with_reducible refine (U3 _).mono ?_); rintro e w9 ⟨rfl, hb⟩; replace T := up T hb T.size; clear hb))
  go_ret
  exact ⟨rfl, T⟩

set_option maxRecDepth 100000 in
set_option maxHeartbeats 1000000 in
theorem grows_same_mid (a b c p q r s o t u : Int) (w : World) (c0 : 0 < c) (c1 : c < 18446744073709551615)
    (D1 : ∀ w, Calls Try.prog 24 #[.int .u64 a, .int .u64 b, .int .u64 c] w fun e w' => e = .returned (.tuple #[.int .u64 p, .int .i64 0]) ∧ Below w.heap.size w w')
    (U1 : ∀ w, Calls Try.prog 26 #[.int .u64 a, .int .u64 b, .int .u64 c] w fun e w' => e = .returned (.tuple #[.int .u64 r, .int .i64 0]) ∧ Below w.heap.size w w')
    (D3 : ∀ w, Calls Try.prog 24 #[.int .u64 a, .int .u64 b, .int .u64 1] w fun e w' => e = .returned (.tuple #[.int .u64 o, .int .i64 0]) ∧ Below w.heap.size w w')
    (T1 : ∀ w, Calls Try.prog 20 #[.int .u64 a, .int .u64 b] w fun e w' => e = .returned (.int .u64 o) ∧ Below w.heap.size w w')
    (D4 : ∀ w, Calls Try.prog 24 #[.int .u64 a, .int .u64 b, .int .u64 (c + 1)] w fun e w' => e = .returned (.tuple #[.int .u64 t, .int .i64 0]) ∧ Below w.heap.size w w')
    (U3 : ∀ w, Calls Try.prog 26 #[.int .u64 a, .int .u64 b, .int .u64 (c + 1)] w fun e w' => e = .returned (.tuple #[.int .u64 u, .int .i64 0]) ∧ Below w.heap.size w w')
    (d0 : t ≤ p) (d1 : u ≤ r) :
    Calls Try.prog 9 #[.int .u64 a, .int .u64 b, .int .u64 c, .int .u64 a] w fun e w' => e = .returned (.bool true) ∧ Below w.heap.size w w' := by
  have hA := awakeB_any
  have T := Below.refl w.heap.size w
  have hz : (c == 0) = false := by simp; omega
  have hz2 : (c == 18446744073709551615) = false := by simp; omega
  go_enter Try.func9, Try.ntmps9
  go_wp2_with (first
    | (go_at_call 28; (with_reducible refine (hA _).mono ?_); rintro e w1 ⟨rfl, hb⟩; replace T := up T hb T.size; clear hb)
    | (go_at_call 24; (with_reducible refine (D1 _).mono ?_); rintro e w2 ⟨rfl, hb⟩; replace T := up T hb T.size; clear hb)
    | (go_at_call 26; (with_reducible refine (U1 _).mono ?_); rintro e w3 ⟨rfl, hb⟩; replace T := up T hb T.size; clear hb)
    | (go_at_call 24; (with_reducible refine (D3 _).mono ?_); rintro e w4 ⟨rfl, hb⟩; replace T := up T hb T.size; clear hb)
    | (go_at_call 20; (with_reducible refine (T1 _).mono ?_); rintro e w5 ⟨rfl, hb⟩; replace T := up T hb T.size; clear hb)
    | (go_at_call 24; (with_reducible refine (D4 _).mono ?_); rintro e w6 ⟨rfl, hb⟩; replace T := up T hb T.size; clear hb)
    | (go_at_call 26; (with_reducible refine (U3 _).mono ?_); rintro e w7 ⟨rfl, hb⟩; replace T := up T hb T.size; clear hb))
  go_ret
  exact ⟨rfl, T⟩

theorem RatioGrows_walk (a b c d : Int) (ha : Word a) (hb : Word b) (hc : Word c) (hd : Word d) (w : World) :
    Calls Try.prog 9 #[.int .u64 a, .int .u64 b, .int .u64 c, .int .u64 d] w fun e w' => e = .returned (.bool true) ∧ Below w.heap.size w w' := by
  have D3 := fun w => Down_any a b 1 w ha hb ⟨by omega, by omega⟩
  have e1 : qD a b 1 = rT a b := by unfold qD rT; rw [if_neg (by omega), Int.ediv_one]
  have e2 : qE 1 = 0 := rfl
  rw [e1, e2] at D3
  have T1 := fun w => rTimes'_any a b w ha hb
  have Da := fun w => Down_any a b c w ha hb hc
  have Dd := fun w => Down_any d b c w hd hb hc
  have Ua := fun w => Up_any a b c w ha hb hc
  have Ud := fun w => Up_any d b c w hd hb hc
  by_cases z : c = 0
  · have e3 : qE c = 2 := by rw [z]; rfl
    rw [e3] at Da Dd Ua Ud
    subst z
    rcases Int.lt_trichotomy a d with h | rfl | h
    · exact grows_up_zero a b d _ _ _ _ _ 0 0 w h Da Dd Ua Ud D3 T1 rfl rfl
    · exact grows_same_zero a b _ 0 _ 0 _ 0 0 w Da Ua D3 T1
    · exact grows_down_zero a b d _ _ _ _ _ 0 0 w h Dd Da Ud Ua D3 T1 rfl rfl
  · have e3 : qE c = 0 := by unfold qE; rw [if_neg z]
    rw [e3] at Da Dd Ua Ud
    have c0 : 0 < c := by have := hc.1; omega
    have mD : ∀ {x y : Int}, x < y → decide (qD y b c < qD x b c) = false := fun h => by have := qD_mono (b := b) (c := c) (Int.le_of_lt h) hb.1 hc.1; simp; omega
    have mU : ∀ {x y : Int}, x < y → decide (qU y b c < qU x b c) = false := fun h => by have := qU_mono (b := b) (c := c) (Int.le_of_lt h) hb.1 hc.1; simp; omega
    by_cases z2 : c = 18446744073709551615
    · subst z2
      rcases Int.lt_trichotomy a d with h | rfl | h
      · exact grows_up_top a b d _ _ _ _ _ 0 0 w h Da Dd Ua Ud D3 T1 (mD h) (mU h)
      · exact grows_same_top a b _ 0 _ 0 _ 0 0 w Da Ua D3 T1
      · exact grows_down_top a b d _ _ _ _ _ 0 0 w h Dd Da Ud Ua D3 T1 (mD h) (mU h)
    · have c1 : c < 18446744073709551615 := by have := hc.2; omega
      have hc' : Word (c + 1) := ⟨by omega, by omega⟩
      have e4 : qE (c + 1) = 0 := by unfold qE; rw [if_neg (by omega)]
      have Da' := fun w => Down_any a b (c + 1) w ha hb hc'
      have Dd' := fun w => Down_any d b (c + 1) w hd hb hc'
      have Ua' := fun w => Up_any a b (c + 1) w ha hb hc'
      have Ud' := fun w => Up_any d b (c + 1) w hd hb hc'
      rw [e4] at Da' Dd' Ua' Ud'
      rcases Int.lt_trichotomy a d with h | rfl | h
      · exact grows_up_mid a b c d _ _ _ _ _ _ _ w h c0 c1 Da Dd Ua Ud D3 T1 Da' Ua' (mD h) (mU h) (qD_anti ha hb c0) (qU_anti ha hb c0)
      · exact grows_same_mid a b c _ 0 _ 0 _ _ _ w c0 c1 Da Ua D3 T1 Da' Ua' (qD_anti ha hb c0) (qU_anti ha hb c0)
      · exact grows_down_mid a b c d _ _ _ _ _ _ _ w h c0 c1 Dd Da Ud Ua D3 T1 Dd' Ud' (mD h) (mU h) (qD_anti hd hb c0) (qU_anti hd hb c0)
end Go.Proofs.Ytiieehnfbemleaa
