/- What the document's own Plus, Minus, Times, Half, Over of layer 2 answer. No condition but that words are words. -/
import Derived.Test.YtiieehnfbemleaaRatM
import Derived.Test.YtiieehnfbemleaaRefMul
import Derived.Test.YtiieehnfbemleaaRefDiv
import Derived.Test.YtiieehnfbemleaaHas
namespace Go.Proofs.Ytiieehnfbemleaa
open Go.RowKit W
set_option linter.unusedVariables false
theorem rStop_any (h l : Int) (w : World) (hh : Word h) (hl : Word l) :
    Calls Try.prog 39 #[.agg #[.int .u64 h, .int .u64 l]] w fun e w' => e = .returned (.int .u64 (stp (V h l))) ∧ Below w.heap.size w w' := by
  unfold Word at hh hl
  by_cases g : 0 < h
  · rw [stp_hi (by unfold V; omega)]
    go_enter Try.func39, Try.ntmps39
    go_wp2
    go_ret
    exact ⟨rfl, up1 _ _⟩
  · obtain rfl : h = 0 := by omega
    have e : V 0 l = l := by unfold V; omega
    rw [e]
    by_cases g : 4611686018427387904 < l
    · rw [stp_hi g]
      go_enter Try.func39, Try.ntmps39
      go_wp2
      go_ret
      exact ⟨rfl, up1 _ _⟩
    · rw [stp_lo (by omega)]
      have g' : decide (4611686018427387904 < l) = false := by simp; omega
      go_enter Try.func39, Try.ntmps39
      go_wp2
      go_ret
      exact ⟨rfl, up1 _ _⟩
theorem kPlus_any (a b : Int) (w : World) (ha : Word a) (hb : Word b) :
    Calls Try.prog 17 #[.int .u64 a, .int .u64 b] w fun e w' => e = .returned (.int .u64 (rP a b)) ∧ Below w.heap.size w w' := by
  have hP := fun w => rPlus_any 0 a 0 b w ⟨by omega, by omega⟩ ha ⟨by omega, by omega⟩ hb
  unfold Word at ha hb
  obtain ⟨e1, e2, e3⟩ := @pOk 0 a 0 b ((a + b) / 18446744073709551616) ((a + b) % 18446744073709551616) (by unfold V; omega) (by unfold Word; omega) (by unfold Word; omega)
  rw [e1, e2, e3] at hP
  clear e1 e2 e3
  have hS := fun w => rStop_any ((a + b) / 18446744073709551616) ((a + b) % 18446744073709551616) w (by unfold Word; omega) (by unfold Word; omega)
  have e : V ((a + b) / 18446744073709551616) ((a + b) % 18446744073709551616) = a + b := by unfold V; omega
  rw [e] at hS
  have e' : stp (a + b) = rP a b := rfl
  rw [e'] at hS
  clear e e'
  obtain ⟨x, ex⟩ : ∃ x, (a + b) / 18446744073709551616 = x := ⟨_, rfl⟩
  obtain ⟨y, ey⟩ : ∃ y, (a + b) % 18446744073709551616 = y := ⟨_, rfl⟩
  rw [ex, ey] at hP hS
  clear ex ey
  go_enter Try.func17, Try.ntmps17
  go_wp2_with (first
    | (go_at_call 38; (with_reducible refine (hP _).mono ?_); rintro e w3 ⟨rfl, hb3⟩)
    | (go_at_call 39; (with_reducible refine (hS _).mono ?_); rintro e w4 ⟨rfl, hb4⟩))
  have t3 := hb3.alloc hb3.size (.cells #[.int .u64 x, .int .u64 y] 26)
  go_ret
  exact ⟨rfl, up t3 hb4 t3.size⟩
theorem kMinus_any (a b : Int) (w : World) (ha : Word a) (hb : Word b) :
    Calls Try.prog 19 #[.int .u64 a, .int .u64 b] w fun e w' => e = .returned (.int .u64 (rM a b)) ∧ Below w.heap.size w w' := by
  unfold Word at ha hb
  obtain ⟨a0, a1⟩ := ha
  obtain ⟨b0, b1⟩ := hb
  by_cases h : a ≤ b
  · have e : rM a b = 0 := by
      unfold rM; split
      · rfl
      · rw [stp_lo (by omega)]; omega
    rw [e]
    clear e
    go_enter Try.func19, Try.ntmps19
    go_wp2
    go_ret
    exact ⟨rfl, Below.refl _ _⟩
  · have hS := fun w => rStop_any 0 (a - b) w (by unfold Word; omega) (by unfold Word; omega)
    have e : stp (V 0 (a - b)) = rM a b := by
      unfold rM; rw [if_neg (by omega)]; congr 1; unfold V; omega
    rw [e] at hS
    clear e
    have h' : decide (a ≤ b) = false := by simp; omega
    go_enter Try.func19, Try.ntmps19
    go_wp2_with (go_at_call 39; (with_reducible refine (hS _).mono ?_); rintro e w1 ⟨rfl, hb1⟩)
    go_ret
    exact ⟨rfl, hb1⟩
theorem kTimes_any (a b : Int) (w : World) (ha : Word a) (hb : Word b) :
    Calls Try.prog 21 #[.int .u64 a, .int .u64 b] w fun e w' => e = .returned (.int .u64 (rT a b)) ∧ Below w.heap.size w w' := by
  have hM := fun w => rMul_any a b w ha hb
  have hS := fun w => rStop_any (xH a b) (xL a b) w (xH_word ha hb) (xL_word a b)
  rw [V_x] at hS
  have e' : stp (a * b) = rT a b := rfl
  rw [e'] at hS
  clear e'
  go_enter Try.func21, Try.ntmps21
  go_wp2_with (first
    | (go_at_call 42; (with_reducible refine (hM _).mono ?_); rintro e w1 ⟨rfl, hb1⟩)
    | (go_at_call 39; (with_reducible refine (hS _).mono ?_); rintro e w2 ⟨rfl, hb2⟩))
  go_ret
  exact ⟨rfl, up hb1 hb2 hb1.size⟩
theorem kHalf_any (a b : Int) (w : World) (ha : Word a) (hb : Word b) :
    Calls Try.prog 23 #[.int .u64 a, .int .u64 b] w fun e w' => e = .returned (.int .u64 (rH a b)) ∧ Below w.heap.size w w' := by
  unfold Word at ha hb
  obtain ⟨a0, a1⟩ := ha
  obtain ⟨b0, b1⟩ := hb
  by_cases h : a ≤ b
  · have e : rH a b = a + (b - a) / 2 := by unfold rH; rw [if_pos h]
    rw [e]
    clear e
    go_enter Try.func23, Try.ntmps23
    go_wp2
    go_ret
    exact ⟨rfl, Below.refl _ _⟩
  · have e : rH a b = b + (a - b) / 2 := by unfold rH; rw [if_neg h]
    rw [e]
    clear e
    go_enter Try.func23, Try.ntmps23
    go_wp2
    go_ret
    exact ⟨rfl, Below.refl _ _⟩
theorem kOver_any (a b : Int) (w : World) (ha : Word a) (hb : Word b) :
    Calls Try.prog 15 #[.int .u64 a, .int .u64 b] w fun e w' => e = .returned (.tuple #[.int .u64 (dQ 0 a b), .int .u64 (dR 0 a b), .int .i64 (dE 0 b)]) ∧ Below w.heap.size w w' := by
  have hD := fun w => rDiv_any 0 a b w ⟨by omega, by omega⟩ ha hb
  go_enter Try.func15, Try.ntmps15
  go_wp2_with (go_at_call 36; (with_reducible refine (hD _).mono ?_); rintro e w2 ⟨rfl, hb2⟩)
  go_ret3
  exact ⟨rfl, hb2⟩
end Go.Proofs.Ytiieehnfbemleaa
