/- The chapter's examples of layer 2, as the statements ask them first: awake answers true. No condition. -/
import Derived.Test.YtiieehnfbemleaaDownUp
namespace Go.Proofs.Ytiieehnfbemleaa
open Go.RowKit W
set_option linter.unusedVariables false
theorem wlit {x : Int} (h0 : 0 ≤ x) (h1 : x < 18446744073709551616) : Word x := ⟨h0, h1⟩
set_option maxRecDepth 100000 in
set_option maxHeartbeats 1000000 in
theorem awakeB_any (w : World) :
    Calls Try.prog 28 #[] w fun e w' => e = .returned (.bool true) ∧ Below w.heap.size w w' := by
  have d1 : ∀ w, Calls Try.prog 24 #[.int .u64 7, .int .u64 3, .int .u64 4] w fun e w' => e = .returned (.tuple #[.int .u64 5, .int .i64 0]) ∧ Below w.heap.size w w' :=
    fun w => Down_any 7 3 4 w (wlit (by omega) (by omega)) (wlit (by omega) (by omega)) (wlit (by omega) (by omega))
  have u1 : ∀ w, Calls Try.prog 26 #[.int .u64 7, .int .u64 3, .int .u64 4] w fun e w' => e = .returned (.tuple #[.int .u64 6, .int .i64 0]) ∧ Below w.heap.size w w' :=
    fun w => Up_any 7 3 4 w (wlit (by omega) (by omega)) (wlit (by omega) (by omega)) (wlit (by omega) (by omega))
  have u2 : ∀ w, Calls Try.prog 26 #[.int .u64 7, .int .u64 3, .int .u64 0] w fun e w' => e = .returned (.tuple #[.int .u64 0, .int .i64 2]) ∧ Below w.heap.size w w' :=
    fun w => Up_any 7 3 0 w (wlit (by omega) (by omega)) (wlit (by omega) (by omega)) (wlit (by omega) (by omega))
  have d2 : ∀ w, Calls Try.prog 24 #[.int .u64 9223372036854775808, .int .u64 9223372036854775808, .int .u64 2] w fun e w' => e = .returned (.tuple #[.int .u64 4611686018427387904, .int .i64 0]) ∧ Below w.heap.size w w' :=
    fun w => Down_any 9223372036854775808 9223372036854775808 2 w (wlit (by omega) (by omega)) (wlit (by omega) (by omega)) (wlit (by omega) (by omega))
  have p1 : ∀ w, Calls Try.prog 16 #[.int .u64 4611686018427387904, .int .u64 1] w fun e w' => e = .returned (.int .u64 4611686018427387904) ∧ Below w.heap.size w w' :=
    fun w => rPlus'_any 4611686018427387904 1 w (wlit (by omega) (by omega)) (wlit (by omega) (by omega))
  have p2 : ∀ w, Calls Try.prog 16 #[.int .u64 2, .int .u64 3] w fun e w' => e = .returned (.int .u64 5) ∧ Below w.heap.size w w' :=
    fun w => rPlus'_any 2 3 w (wlit (by omega) (by omega)) (wlit (by omega) (by omega))
  have m1 : ∀ w, Calls Try.prog 18 #[.int .u64 5, .int .u64 7] w fun e w' => e = .returned (.int .u64 0) ∧ Below w.heap.size w w' :=
    fun w => rMinus'_any 5 7 w (wlit (by omega) (by omega)) (wlit (by omega) (by omega))
  have m2 : ∀ w, Calls Try.prog 18 #[.int .u64 7, .int .u64 5] w fun e w' => e = .returned (.int .u64 2) ∧ Below w.heap.size w w' :=
    fun w => rMinus'_any 7 5 w (wlit (by omega) (by omega)) (wlit (by omega) (by omega))
  have t1 : ∀ w, Calls Try.prog 20 #[.int .u64 1099511627776, .int .u64 1099511627776] w fun e w' => e = .returned (.int .u64 4611686018427387904) ∧ Below w.heap.size w w' :=
    fun w => rTimes'_any 1099511627776 1099511627776 w (wlit (by omega) (by omega)) (wlit (by omega) (by omega))
  have h1 : ∀ w, Calls Try.prog 22 #[.int .u64 18446744073709551615, .int .u64 18446744073709551613] w fun e w' => e = .returned (.int .u64 18446744073709551614) ∧ Below w.heap.size w w' :=
    fun w => rHalf'_any 18446744073709551615 18446744073709551613 w (wlit (by omega) (by omega)) (wlit (by omega) (by omega))
  have T := Below.refl w.heap.size w
  go_enter Try.func28, Try.ntmps28
  go_wp2_with (first
    | (go_at_call 24; (with_reducible refine (d1 _).mono ?_); rintro e w1 ⟨rfl, hb⟩; replace T := up T hb T.size; clear hb)
    | (go_at_call 26; (with_reducible refine (u1 _).mono ?_); rintro e w2 ⟨rfl, hb⟩; replace T := up T hb T.size; clear hb)
    | (go_at_call 26; (with_reducible refine (u2 _).mono ?_); rintro e w3 ⟨rfl, hb⟩; replace T := up T hb T.size; clear hb)
    | (go_at_call 24; (with_reducible refine (d2 _).mono ?_); rintro e w4 ⟨rfl, hb⟩; replace T := up T hb T.size; clear hb)
    | (go_at_call 16; (with_reducible refine (p1 _).mono ?_); rintro e w5 ⟨rfl, hb⟩; replace T := up T hb T.size; clear hb)
    | (go_at_call 16; (with_reducible refine (p2 _).mono ?_); rintro e w6 ⟨rfl, hb⟩; replace T := up T hb T.size; clear hb)
    | (go_at_call 18; (with_reducible refine (m1 _).mono ?_); rintro e w7 ⟨rfl, hb⟩; replace T := up T hb T.size; clear hb)
    | (go_at_call 18; (with_reducible refine (m2 _).mono ?_); rintro e w8 ⟨rfl, hb⟩; replace T := up T hb T.size; clear hb)
    | (go_at_call 20; (with_reducible refine (t1 _).mono ?_); rintro e w9 ⟨rfl, hb⟩; replace T := up T hb T.size; clear hb)
    | (go_at_call 22; (with_reducible refine (h1 _).mono ?_); rintro e w10 ⟨rfl, hb⟩; replace T := up T hb T.size; clear hb))
  go_ret
  exact ⟨rfl, T⟩
end Go.Proofs.Ytiieehnfbemleaa
