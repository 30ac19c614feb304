/- What the program's calls Down, Up, Over answer. No condition but that words are words. -/
import Derived.Test.YtbgccdjkofpiaaaQuot
namespace Go.Proofs.Ytbgccdjkofpiaaa
open Go.RowKit W
set_option linter.unusedVariables false
namespace W
theorem much_le {h l c : Int} (hl : Word l) (c0 : 1 ≤ c) (h1 : c ≤ h) : 18446744073709551616 ≤ V h l / c := by
  unfold Word at hl
  apply Int.le_ediv_of_mul_le (by omega)
  have := Int.mul_le_mul_of_nonneg_left h1 (show (0 : Int) ≤ 18446744073709551616 by omega)
  unfold V; omega
theorem quo_word {h l c : Int} (hh : Word h) (hl : Word l) (c0 : 1 ≤ c) (h1 : h < c) : Word (V h l / c) := by
  unfold Word at *
  have hV : 0 ≤ V h l := by unfold V; omega
  refine ⟨Int.ediv_nonneg hV (by omega), ?_⟩
  apply Int.ediv_lt_of_lt_mul (by omega)
  have := Int.mul_le_mul_of_nonneg_left (show h + 1 ≤ c by omega) (show (0 : Int) ≤ 18446744073709551616 by omega)
  unfold V; omega
end W
theorem zero_any (a b : Int) (f : Value) (w : World) :
    Calls Try.prog 42 #[.int .u64 a, .int .u64 b, .int .u64 0, .agg #[f]] w fun e w' => e = .returned (.tuple #[.int .u64 0, .int .i64 2]) ∧ Below w.heap.size w w' := by
  go_enter Try.func42, Try.ntmps42
  go_wp2
  go_ret2
  exact ⟨rfl, up1 _ _⟩
theorem quotD_any (a b c : Int) (w : World) (ha : Word a) (hb : Word b) (hc : Word c) :
    Calls Try.prog 42 #[.int .u64 a, .int .u64 b, .int .u64 c, .agg #[.func (.func 43) #[] #[]]] w fun e w' => e = .returned (.tuple #[.int .u64 (qD a b c), .int .i64 (qE c)]) ∧ Below w.heap.size w w' := by
  by_cases z : c = 0
  · subst z
    have e1 : qD a b 0 = 0 := rfl
    have e2 : qE 0 = 2 := rfl
    rw [e1, e2]
    exact zero_any a b _ w
  · have c0 : 1 ≤ c := by unfold Word at hc; omega
    have e1 : qD a b c = stp (a * b / c) := by unfold qD; rw [if_neg z]
    have e2 : qE c = 0 := by unfold qE; rw [if_neg z]
    rw [e1, e2]
    have hP := fun w => Plus_any (xH a b) (xL a b) 0 0 w (xH_word ha hb) (xL_word a b) ⟨by omega, by omega⟩ ⟨by omega, by omega⟩
    obtain ⟨p1, p2, p3⟩ := @pOk (xH a b) (xL a b) 0 0 (xH a b) (xL a b) (by unfold V; omega) (xL_word a b) (xH_word ha hb)
    rw [p1, p2, p3] at hP
    have hD := fun w => Div_any (xH a b) (xL a b) c w (xH_word ha hb) (xL_word a b) hc
    by_cases s : c ≤ xH a b
    · obtain ⟨d1, d2, d3⟩ := d_much (l := xL a b) z s
      rw [d1, d2, d3] at hD
      have := much_le (xL_word a b) c0 s
      rw [V_x] at this
      rw [stp_hi (by omega)]
      exact quotD_of a b c 0 (xH a b) (xL a b) 0 0 10 _ w ha hb c0 (fun w => Mul_any a b w ha hb) (fun w => down1_any c w) hP hD (Lib.hid (.inl ⟨rfl, rfl⟩))
    · obtain ⟨d1, d2, d3⟩ := d_ok (l := xL a b) z (show xH a b < c by omega)
      rw [d1, d2, d3] at hD
      have := quo_word (xH_word ha hb) (xL_word a b) c0 (show xH a b < c by omega)
      rw [V_x] at this hD
      exact quotD_of a b c 0 (xH a b) (xL a b) _ _ 0 _ w ha hb c0 (fun w => Mul_any a b w ha hb) (fun w => down1_any c w) hP hD (Lib.hid (.inr ⟨rfl, fun w => stop_any _ w this⟩))
theorem quotU_any (a b c : Int) (w : World) (ha : Word a) (hb : Word b) (hc : Word c) :
    Calls Try.prog 42 #[.int .u64 a, .int .u64 b, .int .u64 c, .agg #[.func (.func 52) #[] #[]]] w fun e w' => e = .returned (.tuple #[.int .u64 (qU a b c), .int .i64 (qE c)]) ∧ Below w.heap.size w w' := by
  by_cases z : c = 0
  · subst z
    have e1 : qU a b 0 = 0 := rfl
    have e2 : qE 0 = 2 := rfl
    rw [e1, e2]
    exact zero_any a b _ w
  · have c0 : 1 ≤ c := by unfold Word at hc; omega
    have e1 : qU a b c = stp ((a * b + (c - 1)) / c) := by unfold qU; rw [if_neg z]
    have e2 : qE c = 0 := by unfold qE; rw [if_neg z]
    rw [e1, e2]
    have hw := word_mul ha hb
    have hd : Word (c - 1) := by unfold Word at *; omega
    have hP := fun w => Plus_any (xH a b) (xL a b) 0 (c - 1) w (xH_word ha hb) (xL_word a b) ⟨by omega, by omega⟩ hd
    have hT : a * b + (c - 1) < 340282366920938463463374607431768211456 := by unfold Word at hc; omega
    obtain ⟨N, eN⟩ : ∃ N, a * b + (c - 1) = N := ⟨_, rfl⟩
    have hN0 : 0 ≤ N := by omega
    rw [eN] at hT ⊢
    have hH : Word (N / 18446744073709551616) := by unfold Word; omega
    have hL : Word (N % 18446744073709551616) := by unfold Word; omega
    have hV : V (N / 18446744073709551616) (N % 18446744073709551616) = N := by unfold V; omega
    obtain ⟨p1, p2, p3⟩ := @pOk (xH a b) (xL a b) 0 (c - 1) (N / 18446744073709551616) (N % 18446744073709551616) (by rw [V_x, hV, ← eN]; unfold V; omega) hL hH
    rw [p1, p2, p3] at hP
    have hD := fun w => Div_any (N / 18446744073709551616) (N % 18446744073709551616) c w hH hL hc
    by_cases s : c ≤ N / 18446744073709551616
    · obtain ⟨d1, d2, d3⟩ := d_much (l := N % 18446744073709551616) z s
      rw [d1, d2, d3] at hD
      have := much_le hL c0 s
      rw [hV] at this
      rw [stp_hi (by omega)]
      exact quotU_of a b c (c - 1) (N / 18446744073709551616) (N % 18446744073709551616) 0 0 10 _ w ha hb c0 (fun w => Mul_any a b w ha hb) (fun w => up1_any c w c0 hc.2) hP hD (Lib.hid (.inl ⟨rfl, rfl⟩))
    · obtain ⟨d1, d2, d3⟩ := d_ok (l := N % 18446744073709551616) z (show N / 18446744073709551616 < c by omega)
      rw [d1, d2, d3] at hD
      have := quo_word hH hL c0 (show N / 18446744073709551616 < c by omega)
      rw [hV] at this hD
      exact quotU_of a b c (c - 1) (N / 18446744073709551616) (N % 18446744073709551616) _ _ 0 _ w ha hb c0 (fun w => Mul_any a b w ha hb) (fun w => up1_any c w c0 hc.2) hP hD (Lib.hid (.inr ⟨rfl, fun w => stop_any _ w this⟩))
theorem Down_any (a b c : Int) (w : World) (ha : Word a) (hb : Word b) (hc : Word c) :
    Calls Try.prog 29 #[.int .u64 a, .int .u64 b, .int .u64 c] w fun e w' => e = .returned (.tuple #[.int .u64 (qD a b c), .int .i64 (qE c)]) ∧ Below w.heap.size w w' := by
  have hQ := fun w => quotD_any a b c w ha hb hc
  go_enter Try.func29, Try.ntmps29
  go_wp2_with (go_at_call 42; (with_reducible refine (hQ _).mono ?_); rintro e w1 ⟨rfl, hb1⟩)
  go_ret2
  exact ⟨rfl, hb1⟩
theorem Up_any (a b c : Int) (w : World) (ha : Word a) (hb : Word b) (hc : Word c) :
    Calls Try.prog 39 #[.int .u64 a, .int .u64 b, .int .u64 c] w fun e w' => e = .returned (.tuple #[.int .u64 (qU a b c), .int .i64 (qE c)]) ∧ Below w.heap.size w w' := by
  have hQ := fun w => quotU_any a b c w ha hb hc
  go_enter Try.func39, Try.ntmps39
  go_wp2_with (go_at_call 42; (with_reducible refine (hQ _).mono ?_); rintro e w1 ⟨rfl, hb1⟩)
  go_ret2
  exact ⟨rfl, hb1⟩
end Go.Proofs.Ytbgccdjkofpiaaa
