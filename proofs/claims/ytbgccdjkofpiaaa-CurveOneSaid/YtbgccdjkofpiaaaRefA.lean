/- What the document's own Plus, Minus, Times, Half, Over of layer 2 answer. No condition but that words are words. -/
import Derived.Test.YtbgccdjkofpiaaaRatM
import Derived.Test.YtbgccdjkofpiaaaRefMul
import Derived.Test.YtbgccdjkofpiaaaRefDiv
import Derived.Test.YtbgccdjkofpiaaaHas
namespace Go.Proofs.Ytbgccdjkofpiaaa
open Go.RowKit W
set_option linter.unusedVariables false
theorem rStop_any (h l : Int) (w : World) (hh : Word h) (hl : Word l) :
    Calls Try.prog 37 #[.agg #[.int .u64 h, .int .u64 l]] w fun e w' => e = .returned (.int .u64 (stp (V h l))) ∧ Below w.heap.size w w' := by
  unfold Word at hh hl
  by_cases g : 0 < h
  · rw [stp_hi (by unfold V; omega)]
    go_enter Try.func37, Try.ntmps37
    go_wp2
    go_ret
    exact ⟨rfl, up1 _ _⟩
  · obtain rfl : h = 0 := by omega
    have e : V 0 l = l := by unfold V; omega
    rw [e]
    by_cases g : 4611686018427387904 < l
    · rw [stp_hi g]
      go_enter Try.func37, Try.ntmps37
      go_wp2
      go_ret
      exact ⟨rfl, up1 _ _⟩
    · rw [stp_lo (by omega)]
      have g' : decide (4611686018427387904 < l) = false := by simp; omega
      go_enter Try.func37, Try.ntmps37
      go_wp2
      go_ret
      exact ⟨rfl, up1 _ _⟩
theorem kTimes_any (a b : Int) (w : World) (ha : Word a) (hb : Word b) :
    Calls Try.prog 34 #[.int .u64 a, .int .u64 b] w fun e w' => e = .returned (.int .u64 (rT a b)) ∧ Below w.heap.size w w' := by
  have hM := fun w => rMul_any a b w ha hb
  have hS := fun w => rStop_any (xH a b) (xL a b) w (xH_word ha hb) (xL_word a b)
  rw [V_x] at hS
  have e' : stp (a * b) = rT a b := rfl
  rw [e'] at hS
  clear e'
  go_enter Try.func34, Try.ntmps34
  go_wp2_with (first
    | (go_at_call 49; (with_reducible refine (hM _).mono ?_); rintro e w1 ⟨rfl, hb1⟩)
    | (go_at_call 37; (with_reducible refine (hS _).mono ?_); rintro e w2 ⟨rfl, hb2⟩))
  go_ret
  exact ⟨rfl, up hb1 hb2 hb1.size⟩
end Go.Proofs.Ytbgccdjkofpiaaa
