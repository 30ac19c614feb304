/- The chapter's examples, as the statements ask them first: awake answers true. No condition. -/
import Derived.Test.YtiieehnfbemleaaMul
import Derived.Test.YtiieehnfbemleaaDiv
import Derived.Test.YtiieehnfbemleaaHas
namespace Go.Proofs.Ytiieehnfbemleaa
open Go.RowKit W
set_option linter.unusedVariables false
theorem w_lit {x : Int} (h0 : 0 ≤ x) (h1 : x < 18446744073709551616) : Word x := ⟨h0, h1⟩
set_option maxRecDepth 100000 in
set_option maxHeartbeats 1000000 in
theorem awake_any (w : World) :
    Calls Try.prog 11 #[] w fun e w' => e = .returned (.bool true) ∧ Below w.heap.size w w' := by
  have d1 : ∀ w, Calls Try.prog 31 #[.agg #[.int .u64 1, .int .u64 3], .int .u64 10] w fun e w' => e = .returned (.tuple #[.int .u64 1844674407370955161, .int .u64 9, .int .i64 0]) ∧ Below w.heap.size w w' :=
    fun w => Div_any 1 3 10 w (w_lit (by omega) (by omega)) (w_lit (by omega) (by omega)) (w_lit (by omega) (by omega))
  have d2 : ∀ w, Calls Try.prog 31 #[.agg #[.int .u64 1, .int .u64 0], .int .u64 1] w fun e w' => e = .returned (.tuple #[.int .u64 0, .int .u64 0, .int .i64 10]) ∧ Below w.heap.size w w' :=
    fun w => Div_any 1 0 1 w (w_lit (by omega) (by omega)) (w_lit (by omega) (by omega)) (w_lit (by omega) (by omega))
  have d3 : ∀ w, Calls Try.prog 31 #[.agg #[.int .u64 0, .int .u64 0], .int .u64 0] w fun e w' => e = .returned (.tuple #[.int .u64 0, .int .u64 0, .int .i64 2]) ∧ Below w.heap.size w w' :=
    fun w => Div_any 0 0 0 w (w_lit (by omega) (by omega)) (w_lit (by omega) (by omega)) (w_lit (by omega) (by omega))
  have s1 : ∀ w, Calls Try.prog 32 #[.agg #[.int .u64 0, .int .u64 0], .agg #[.int .u64 0, .int .u64 1]] w fun e w' => e = .returned (.tuple #[.agg #[.int .u64 0, .int .u64 0], .int .i64 10]) ∧ Below w.heap.size w w' :=
    fun w => Minus_any 0 0 0 1 w (w_lit (by omega) (by omega)) (w_lit (by omega) (by omega)) (w_lit (by omega) (by omega)) (w_lit (by omega) (by omega))
  have m1 : ∀ w, Calls Try.prog 29 #[.int .u64 4294967296, .int .u64 4294967296] w fun e w' => e = .returned (.agg #[.int .u64 1, .int .u64 0]) ∧ Below w.heap.size w w' :=
    fun w => Mul_any 4294967296 4294967296 w (w_lit (by omega) (by omega)) (w_lit (by omega) (by omega))
  have m2 : ∀ w, Calls Try.prog 29 #[.int .u64 3, .int .u64 5] w fun e w' => e = .returned (.agg #[.int .u64 0, .int .u64 15]) ∧ Below w.heap.size w w' :=
    fun w => Mul_any 3 5 w (w_lit (by omega) (by omega)) (w_lit (by omega) (by omega))
  have f1 : ∀ w, Calls Try.prog 33 #[.int .u64 1, .int .u64 3, .int .u64 2, .int .u64 5] w fun e w' => e = .returned (.int .i64 (-1)) ∧ Below w.heap.size w w' :=
    fun w => Fraction_any 1 3 2 5 w (w_lit (by omega) (by omega)) (w_lit (by omega) (by omega)) (w_lit (by omega) (by omega)) (w_lit (by omega) (by omega))
  have f2 : ∀ w, Calls Try.prog 33 #[.int .u64 2, .int .u64 6, .int .u64 1, .int .u64 3] w fun e w' => e = .returned (.int .i64 0) ∧ Below w.heap.size w w' :=
    fun w => Fraction_any 2 6 1 3 w (w_lit (by omega) (by omega)) (w_lit (by omega) (by omega)) (w_lit (by omega) (by omega)) (w_lit (by omega) (by omega))
  have f3 : ∀ w, Calls Try.prog 33 #[.int .u64 1, .int .u64 0, .int .u64 5, .int .u64 1] w fun e w' => e = .returned (.int .i64 1) ∧ Below w.heap.size w w' :=
    fun w => Fraction_any 1 0 5 1 w (w_lit (by omega) (by omega)) (w_lit (by omega) (by omega)) (w_lit (by omega) (by omega)) (w_lit (by omega) (by omega))
  go_enter Try.func11, Try.ntmps11
  go_wp2_with (first
    | (go_at_call 31; (with_reducible refine (d1 _).mono ?_); rintro e w1 ⟨rfl, hb1⟩)
    | (go_at_call 31; (with_reducible refine (d2 _).mono ?_); rintro e w2 ⟨rfl, hb2⟩)
    | (go_at_call 31; (with_reducible refine (d3 _).mono ?_); rintro e w3 ⟨rfl, hb3⟩)
    | (go_at_call 32; (with_reducible refine (s1 _).mono ?_); rintro e w4 ⟨rfl, hb4⟩)
    | (go_at_call 29; (with_reducible refine (m1 _).mono ?_); rintro e w5 ⟨rfl, hb5⟩)
    | (go_at_call 29; (with_reducible refine (m2 _).mono ?_); rintro e w6 ⟨rfl, hb6⟩)
    | (go_at_call 33; (with_reducible refine (f1 _).mono ?_); rintro e w7 ⟨rfl, hb7⟩)
    | (go_at_call 33; (with_reducible refine (f2 _).mono ?_); rintro e w8 ⟨rfl, hb8⟩)
    | (go_at_call 33; (with_reducible refine (f3 _).mono ?_); rintro e w9 ⟨rfl, hb9⟩))
  have t2 := up hb1 hb2 hb1.size
  have t3 := up t2 hb3 t2.size
  have t4 := (up t3 hb4 t3.size).alloc (up t3 hb4 t3.size).size (.cells #[.int .u64 0, .int .u64 0] 26)
  have t5 := up t4 hb5 t4.size
  have t6 := up t5 hb6 t5.size
  have t7 := up t6 hb7 t6.size
  have t8 := up t7 hb8 t7.size
  go_ret
  exact ⟨rfl, up t8 hb9 t8.size⟩
end Go.Proofs.Ytiieehnfbemleaa
