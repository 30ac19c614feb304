/- The walk of CurveBack. No condition but that words are words. -/
import Derived.Test.YtbgccdjkofpiaaaHasW
namespace Go.Proofs.Ytbgccdjkofpiaaa
open Go.RowKit W
set_option linter.unusedVariables false
set_option maxRecDepth 100000 in
set_option maxHeartbeats 2000000 in
theorem back_no (f l r t y : Int) (w : World)
    (hA : ∀ w, Calls Try.prog 27 #[] w fun e w' => e = .returned (.bool true) ∧ Below w.heap.size w w')
    (hM : ∀ w, Calls Try.prog 14 #[.agg #[.int .u64 f, .int .u64 l, .int .u64 r]] w fun e w' => e = .returned (.bool false) ∧ Below w.heap.size w w') :
    Calls Try.prog 5 #[.agg #[.int .u64 f, .int .u64 l, .int .u64 r], .int .u64 t, .int .u64 y] w fun e w' => e = .returned (.bool true) ∧ Below w.heap.size w w' := by
  have BC := Box.new w 24 #[.int .u64 f, .int .u64 l, .int .u64 r]
  have T := up1 w (.cells #[.int .u64 f, .int .u64 l, .int .u64 r] 24)
  go_enter Try.func5, Try.ntmps5
  go_wp2_with (first
    | (go_at_call 27; (with_reducible refine (hA _).mono ?_); rintro e w1 ⟨rfl, hb⟩; replace BC := BC.below hb; replace T := up T hb T.size; obtain ⟨c0, c1, c2, c3⟩ := BC.tri; clear hb)
    | (go_at_call 14; (with_reducible refine (hM _).mono ?_); rintro e w2 ⟨rfl, hb⟩; replace BC := BC.below hb; replace T := up T hb T.size; obtain ⟨c0, c1, c2, c3⟩ := BC.tri; clear hb))
  go_ret
  exact ⟨by simp [*], T⟩
set_option maxRecDepth 100000 in
set_option maxHeartbeats 2000000 in
theorem back_far (f l r t y : Int) (w : World)
    (hA : ∀ w, Calls Try.prog 27 #[] w fun e w' => e = .returned (.bool true) ∧ Below w.heap.size w w')
    (hM : ∀ w, Calls Try.prog 14 #[.agg #[.int .u64 f, .int .u64 l, .int .u64 r]] w fun e w' => e = .returned (.bool true) ∧ Below w.heap.size w w')
    (ht : decide (4611686018427387904 ≤ t) = true) :
    Calls Try.prog 5 #[.agg #[.int .u64 f, .int .u64 l, .int .u64 r], .int .u64 t, .int .u64 y] w fun e w' => e = .returned (.bool true) ∧ Below w.heap.size w w' := by
  have BC := Box.new w 24 #[.int .u64 f, .int .u64 l, .int .u64 r]
  have T := up1 w (.cells #[.int .u64 f, .int .u64 l, .int .u64 r] 24)
  go_enter Try.func5, Try.ntmps5
  go_wp2_with (first
    | (go_at_call 27; (with_reducible refine (hA _).mono ?_); rintro e w1 ⟨rfl, hb⟩; replace BC := BC.below hb; replace T := up T hb T.size; obtain ⟨c0, c1, c2, c3⟩ := BC.tri; clear hb)
    | (go_at_call 14; (with_reducible refine (hM _).mono ?_); rintro e w2 ⟨rfl, hb⟩; replace BC := BC.below hb; replace T := up T hb T.size; obtain ⟨c0, c1, c2, c3⟩ := BC.tri; clear hb))
  go_ret
  exact ⟨by simp [*], T⟩
set_option maxRecDepth 100000 in
set_option maxHeartbeats 2000000 in
theorem back_never (f l r t y v : Int) (w : World)
    (hA : ∀ w, Calls Try.prog 27 #[] w fun e w' => e = .returned (.bool true) ∧ Below w.heap.size w w')
    (hM : ∀ w, Calls Try.prog 14 #[.agg #[.int .u64 f, .int .u64 l, .int .u64 r]] w fun e w' => e = .returned (.bool true) ∧ Below w.heap.size w w')
    (hR : ∀ w, Calls Try.prog 25 #[.agg #[.int .u64 f, .int .u64 l, .int .u64 r], .int .u64 y] w fun e w' => e = .returned (.int .u64 9223372036854775808) ∧ Below w.heap.size w w')
    (h1 : ∀ w, Calls Try.prog 23 #[.agg #[.int .u64 f, .int .u64 l, .int .u64 r], .int .u64 9223372036854775807] w fun e w' => e = .returned (.int .u64 v) ∧ Below w.heap.size w w')
    (ht : decide (4611686018427387904 ≤ t) = false)
    (hv : decide (v < y) = true) :
    Calls Try.prog 5 #[.agg #[.int .u64 f, .int .u64 l, .int .u64 r], .int .u64 t, .int .u64 y] w fun e w' => e = .returned (.bool true) ∧ Below w.heap.size w w' := by
  have BC := Box.new w 24 #[.int .u64 f, .int .u64 l, .int .u64 r]
  have T := up1 w (.cells #[.int .u64 f, .int .u64 l, .int .u64 r] 24)
  go_enter Try.func5, Try.ntmps5
  go_wp2_with (first
    | (go_at_call 27; (with_reducible refine (hA _).mono ?_); rintro e w1 ⟨rfl, hb⟩; replace BC := BC.below hb; replace T := up T hb T.size; obtain ⟨c0, c1, c2, c3⟩ := BC.tri; clear hb)
    | (go_at_call 14; (with_reducible refine (hM _).mono ?_); rintro e w2 ⟨rfl, hb⟩; replace BC := BC.below hb; replace T := up T hb T.size; obtain ⟨c0, c1, c2, c3⟩ := BC.tri; clear hb)
    | (go_at_call 25; (with_reducible refine (hR _).mono ?_); rintro e w3 ⟨rfl, hb⟩; replace BC := BC.below hb; replace T := up T hb T.size; obtain ⟨c0, c1, c2, c3⟩ := BC.tri; clear hb)
    | (go_at_call 23; (with_reducible refine (h1 _).mono ?_); rintro e w4 ⟨rfl, hb⟩; replace BC := BC.below hb; replace T := up T hb T.size; obtain ⟨c0, c1, c2, c3⟩ := BC.tri; clear hb))
  go_ret
  exact ⟨by simp [*], T⟩
set_option maxRecDepth 100000 in
set_option maxHeartbeats 2000000 in
theorem back_00 (f l r t y n v1 a b : Int) (w : World)
    (hA : ∀ w, Calls Try.prog 27 #[] w fun e w' => e = .returned (.bool true) ∧ Below w.heap.size w w')
    (hM : ∀ w, Calls Try.prog 14 #[.agg #[.int .u64 f, .int .u64 l, .int .u64 r]] w fun e w' => e = .returned (.bool true) ∧ Below w.heap.size w w')
    (hR : ∀ w, Calls Try.prog 25 #[.agg #[.int .u64 f, .int .u64 l, .int .u64 r], .int .u64 y] w fun e w' => e = .returned (.int .u64 n) ∧ Below w.heap.size w w')
    (h1 : ∀ w, Calls Try.prog 23 #[.agg #[.int .u64 f, .int .u64 l, .int .u64 r], .int .u64 n] w fun e w' => e = .returned (.int .u64 v1) ∧ Below w.heap.size w w')
    (h3 : ∀ w, Calls Try.prog 23 #[.agg #[.int .u64 f, .int .u64 l, .int .u64 r], .int .u64 t] w fun e w' => e = .returned (.int .u64 a) ∧ Below w.heap.size w w')
    (h4 : ∀ w, Calls Try.prog 25 #[.agg #[.int .u64 f, .int .u64 l, .int .u64 r], .int .u64 a] w fun e w' => e = .returned (.int .u64 b) ∧ Below w.heap.size w w')
    (h5 : ∀ w, Calls Try.prog 23 #[.agg #[.int .u64 f, .int .u64 l, .int .u64 r], .int .u64 b] w fun e w' => e = .returned (.int .u64 a) ∧ Below w.heap.size w w')
    (ht : decide (4611686018427387904 ≤ t) = false)
    (hn : (n == 9223372036854775808) = false)
    (hn2 : decide (9223372036854775808 < n) = false)
    (hv1 : decide (v1 < y) = false)
    (hn3 : decide (0 < n) = false)
    (hb : decide (t < b) = false)
    (t0 : (t == 0) = true)
    (b0 : (b == 0) = true) :
    Calls Try.prog 5 #[.agg #[.int .u64 f, .int .u64 l, .int .u64 r], .int .u64 t, .int .u64 y] w fun e w' => e = .returned (.bool true) ∧ Below w.heap.size w w' := by
  have BC := Box.new w 24 #[.int .u64 f, .int .u64 l, .int .u64 r]
  have T := up1 w (.cells #[.int .u64 f, .int .u64 l, .int .u64 r] 24)
  go_enter Try.func5, Try.ntmps5
  go_wp2_with (first
    | (go_at_call 27; (with_reducible refine (hA _).mono ?_); rintro e w1 ⟨rfl, hb⟩; replace BC := BC.below hb; replace T := up T hb T.size; obtain ⟨c0, c1, c2, c3⟩ := BC.tri; clear hb)
    | (go_at_call 14; (with_reducible refine (hM _).mono ?_); rintro e w2 ⟨rfl, hb⟩; replace BC := BC.below hb; replace T := up T hb T.size; obtain ⟨c0, c1, c2, c3⟩ := BC.tri; clear hb)
    | (go_at_call 25; (with_reducible refine (hR _).mono ?_); rintro e w3 ⟨rfl, hb⟩; replace BC := BC.below hb; replace T := up T hb T.size; obtain ⟨c0, c1, c2, c3⟩ := BC.tri; clear hb)
    | (go_at_call 23; (with_reducible refine (h1 _).mono ?_); rintro e w4 ⟨rfl, hb⟩; replace BC := BC.below hb; replace T := up T hb T.size; obtain ⟨c0, c1, c2, c3⟩ := BC.tri; clear hb)
    | (go_at_call 23; (with_reducible refine (h3 _).mono ?_); rintro e w5 ⟨rfl, hb⟩; replace BC := BC.below hb; replace T := up T hb T.size; obtain ⟨c0, c1, c2, c3⟩ := BC.tri; clear hb)
    | (go_at_call 25; (with_reducible refine (h4 _).mono ?_); rintro e w6 ⟨rfl, hb⟩; replace BC := BC.below hb; replace T := up T hb T.size; obtain ⟨c0, c1, c2, c3⟩ := BC.tri; clear hb)
    | (go_at_call 23; (with_reducible refine (h5 _).mono ?_); rintro e w7 ⟨rfl, hb⟩; replace BC := BC.below hb; replace T := up T hb T.size; obtain ⟨c0, c1, c2, c3⟩ := BC.tri; clear hb))
  go_ret
  exact ⟨by simp [*], T⟩
set_option maxRecDepth 100000 in
set_option maxHeartbeats 2000000 in
theorem back_01 (f l r t y n v1 a b p : Int) (w : World)
    (hA : ∀ w, Calls Try.prog 27 #[] w fun e w' => e = .returned (.bool true) ∧ Below w.heap.size w w')
    (hM : ∀ w, Calls Try.prog 14 #[.agg #[.int .u64 f, .int .u64 l, .int .u64 r]] w fun e w' => e = .returned (.bool true) ∧ Below w.heap.size w w')
    (hR : ∀ w, Calls Try.prog 25 #[.agg #[.int .u64 f, .int .u64 l, .int .u64 r], .int .u64 y] w fun e w' => e = .returned (.int .u64 n) ∧ Below w.heap.size w w')
    (h1 : ∀ w, Calls Try.prog 23 #[.agg #[.int .u64 f, .int .u64 l, .int .u64 r], .int .u64 n] w fun e w' => e = .returned (.int .u64 v1) ∧ Below w.heap.size w w')
    (h3 : ∀ w, Calls Try.prog 23 #[.agg #[.int .u64 f, .int .u64 l, .int .u64 r], .int .u64 t] w fun e w' => e = .returned (.int .u64 a) ∧ Below w.heap.size w w')
    (h4 : ∀ w, Calls Try.prog 25 #[.agg #[.int .u64 f, .int .u64 l, .int .u64 r], .int .u64 a] w fun e w' => e = .returned (.int .u64 b) ∧ Below w.heap.size w w')
    (h5 : ∀ w, Calls Try.prog 23 #[.agg #[.int .u64 f, .int .u64 l, .int .u64 r], .int .u64 b] w fun e w' => e = .returned (.int .u64 a) ∧ Below w.heap.size w w')
    (h6 : ∀ w, Calls Try.prog 23 #[.agg #[.int .u64 f, .int .u64 l, .int .u64 r], .int .u64 (t - 1)] w fun e w' => e = .returned (.int .u64 p) ∧ Below w.heap.size w w')
    (ht : decide (4611686018427387904 ≤ t) = false)
    (hn : (n == 9223372036854775808) = false)
    (hn2 : decide (9223372036854775808 < n) = false)
    (hv1 : decide (v1 < y) = false)
    (hn3 : decide (0 < n) = false)
    (hb : decide (t < b) = false)
    (t0 : (t == 0) = false)
    (t1 : decide (0 < t) = true)
    (hw2 : IntKind.u64.wrap (t - 1) = t - 1)
    (hp : (b == t) = decide (p < a)) :
    Calls Try.prog 5 #[.agg #[.int .u64 f, .int .u64 l, .int .u64 r], .int .u64 t, .int .u64 y] w fun e w' => e = .returned (.bool true) ∧ Below w.heap.size w w' := by
  have BC := Box.new w 24 #[.int .u64 f, .int .u64 l, .int .u64 r]
  have T := up1 w (.cells #[.int .u64 f, .int .u64 l, .int .u64 r] 24)
  go_enter Try.func5, Try.ntmps5
  go_wp2_with (first
    | (go_at_call 27; (with_reducible refine (hA _).mono ?_); rintro e w1 ⟨rfl, hb⟩; replace BC := BC.below hb; replace T := up T hb T.size; obtain ⟨c0, c1, c2, c3⟩ := BC.tri; clear hb)
    | (go_at_call 14; (with_reducible refine (hM _).mono ?_); rintro e w2 ⟨rfl, hb⟩; replace BC := BC.below hb; replace T := up T hb T.size; obtain ⟨c0, c1, c2, c3⟩ := BC.tri; clear hb)
    | (go_at_call 25; (with_reducible refine (hR _).mono ?_); rintro e w3 ⟨rfl, hb⟩; replace BC := BC.below hb; replace T := up T hb T.size; obtain ⟨c0, c1, c2, c3⟩ := BC.tri; clear hb)
    | (go_at_call 23; (with_reducible refine (h1 _).mono ?_); rintro e w4 ⟨rfl, hb⟩; replace BC := BC.below hb; replace T := up T hb T.size; obtain ⟨c0, c1, c2, c3⟩ := BC.tri; clear hb)
    | (go_at_call 23; (with_reducible refine (h3 _).mono ?_); rintro e w5 ⟨rfl, hb⟩; replace BC := BC.below hb; replace T := up T hb T.size; obtain ⟨c0, c1, c2, c3⟩ := BC.tri; clear hb)
    | (go_at_call 25; (with_reducible refine (h4 _).mono ?_); rintro e w6 ⟨rfl, hb⟩; replace BC := BC.below hb; replace T := up T hb T.size; obtain ⟨c0, c1, c2, c3⟩ := BC.tri; clear hb)
    | (go_at_call 23; (with_reducible refine (h5 _).mono ?_); rintro e w7 ⟨rfl, hb⟩; replace BC := BC.below hb; replace T := up T hb T.size; obtain ⟨c0, c1, c2, c3⟩ := BC.tri; clear hb)
    | (go_at_call 23; (with_reducible refine (h6 _).mono ?_); rintro e w8 ⟨rfl, hb⟩; replace BC := BC.below hb; replace T := up T hb T.size; obtain ⟨c0, c1, c2, c3⟩ := BC.tri; clear hb))
  go_ret
  exact ⟨by simp [*], T⟩
set_option maxRecDepth 100000 in
set_option maxHeartbeats 2000000 in
theorem back_10 (f l r t y n v1 v2 a b : Int) (w : World)
    (hA : ∀ w, Calls Try.prog 27 #[] w fun e w' => e = .returned (.bool true) ∧ Below w.heap.size w w')
    (hM : ∀ w, Calls Try.prog 14 #[.agg #[.int .u64 f, .int .u64 l, .int .u64 r]] w fun e w' => e = .returned (.bool true) ∧ Below w.heap.size w w')
    (hR : ∀ w, Calls Try.prog 25 #[.agg #[.int .u64 f, .int .u64 l, .int .u64 r], .int .u64 y] w fun e w' => e = .returned (.int .u64 n) ∧ Below w.heap.size w w')
    (h1 : ∀ w, Calls Try.prog 23 #[.agg #[.int .u64 f, .int .u64 l, .int .u64 r], .int .u64 n] w fun e w' => e = .returned (.int .u64 v1) ∧ Below w.heap.size w w')
    (h2 : ∀ w, Calls Try.prog 23 #[.agg #[.int .u64 f, .int .u64 l, .int .u64 r], .int .u64 (n - 1)] w fun e w' => e = .returned (.int .u64 v2) ∧ Below w.heap.size w w')
    (h3 : ∀ w, Calls Try.prog 23 #[.agg #[.int .u64 f, .int .u64 l, .int .u64 r], .int .u64 t] w fun e w' => e = .returned (.int .u64 a) ∧ Below w.heap.size w w')
    (h4 : ∀ w, Calls Try.prog 25 #[.agg #[.int .u64 f, .int .u64 l, .int .u64 r], .int .u64 a] w fun e w' => e = .returned (.int .u64 b) ∧ Below w.heap.size w w')
    (h5 : ∀ w, Calls Try.prog 23 #[.agg #[.int .u64 f, .int .u64 l, .int .u64 r], .int .u64 b] w fun e w' => e = .returned (.int .u64 a) ∧ Below w.heap.size w w')
    (ht : decide (4611686018427387904 ≤ t) = false)
    (hn : (n == 9223372036854775808) = false)
    (hn2 : decide (9223372036854775808 < n) = false)
    (hv1 : decide (v1 < y) = false)
    (hn3 : decide (0 < n) = true)
    (hw : IntKind.u64.wrap (n - 1) = n - 1)
    (hv2 : decide (y ≤ v2) = false)
    (hb : decide (t < b) = false)
    (t0 : (t == 0) = true)
    (b0 : (b == 0) = true) :
    Calls Try.prog 5 #[.agg #[.int .u64 f, .int .u64 l, .int .u64 r], .int .u64 t, .int .u64 y] w fun e w' => e = .returned (.bool true) ∧ Below w.heap.size w w' := by
  have BC := Box.new w 24 #[.int .u64 f, .int .u64 l, .int .u64 r]
  have T := up1 w (.cells #[.int .u64 f, .int .u64 l, .int .u64 r] 24)
  go_enter Try.func5, Try.ntmps5
  go_wp2_with (first
    | (go_at_call 27; (with_reducible refine (hA _).mono ?_); rintro e w1 ⟨rfl, hb⟩; replace BC := BC.below hb; replace T := up T hb T.size; obtain ⟨c0, c1, c2, c3⟩ := BC.tri; clear hb)
    | (go_at_call 14; (with_reducible refine (hM _).mono ?_); rintro e w2 ⟨rfl, hb⟩; replace BC := BC.below hb; replace T := up T hb T.size; obtain ⟨c0, c1, c2, c3⟩ := BC.tri; clear hb)
    | (go_at_call 25; (with_reducible refine (hR _).mono ?_); rintro e w3 ⟨rfl, hb⟩; replace BC := BC.below hb; replace T := up T hb T.size; obtain ⟨c0, c1, c2, c3⟩ := BC.tri; clear hb)
    | (go_at_call 23; (with_reducible refine (h1 _).mono ?_); rintro e w4 ⟨rfl, hb⟩; replace BC := BC.below hb; replace T := up T hb T.size; obtain ⟨c0, c1, c2, c3⟩ := BC.tri; clear hb)
    | (go_at_call 23; (with_reducible refine (h2 _).mono ?_); rintro e w5 ⟨rfl, hb⟩; replace BC := BC.below hb; replace T := up T hb T.size; obtain ⟨c0, c1, c2, c3⟩ := BC.tri; clear hb)
    | (go_at_call 23; (with_reducible refine (h3 _).mono ?_); rintro e w6 ⟨rfl, hb⟩; replace BC := BC.below hb; replace T := up T hb T.size; obtain ⟨c0, c1, c2, c3⟩ := BC.tri; clear hb)
    | (go_at_call 25; (with_reducible refine (h4 _).mono ?_); rintro e w7 ⟨rfl, hb⟩; replace BC := BC.below hb; replace T := up T hb T.size; obtain ⟨c0, c1, c2, c3⟩ := BC.tri; clear hb)
    | (go_at_call 23; (with_reducible refine (h5 _).mono ?_); rintro e w8 ⟨rfl, hb⟩; replace BC := BC.below hb; replace T := up T hb T.size; obtain ⟨c0, c1, c2, c3⟩ := BC.tri; clear hb))
  go_ret
  exact ⟨by simp [*], T⟩
set_option maxRecDepth 100000 in
set_option maxHeartbeats 2000000 in
theorem back_11 (f l r t y n v1 v2 a b p : Int) (w : World)
    (hA : ∀ w, Calls Try.prog 27 #[] w fun e w' => e = .returned (.bool true) ∧ Below w.heap.size w w')
    (hM : ∀ w, Calls Try.prog 14 #[.agg #[.int .u64 f, .int .u64 l, .int .u64 r]] w fun e w' => e = .returned (.bool true) ∧ Below w.heap.size w w')
    (hR : ∀ w, Calls Try.prog 25 #[.agg #[.int .u64 f, .int .u64 l, .int .u64 r], .int .u64 y] w fun e w' => e = .returned (.int .u64 n) ∧ Below w.heap.size w w')
    (h1 : ∀ w, Calls Try.prog 23 #[.agg #[.int .u64 f, .int .u64 l, .int .u64 r], .int .u64 n] w fun e w' => e = .returned (.int .u64 v1) ∧ Below w.heap.size w w')
    (h2 : ∀ w, Calls Try.prog 23 #[.agg #[.int .u64 f, .int .u64 l, .int .u64 r], .int .u64 (n - 1)] w fun e w' => e = .returned (.int .u64 v2) ∧ Below w.heap.size w w')
    (h3 : ∀ w, Calls Try.prog 23 #[.agg #[.int .u64 f, .int .u64 l, .int .u64 r], .int .u64 t] w fun e w' => e = .returned (.int .u64 a) ∧ Below w.heap.size w w')
    (h4 : ∀ w, Calls Try.prog 25 #[.agg #[.int .u64 f, .int .u64 l, .int .u64 r], .int .u64 a] w fun e w' => e = .returned (.int .u64 b) ∧ Below w.heap.size w w')
    (h5 : ∀ w, Calls Try.prog 23 #[.agg #[.int .u64 f, .int .u64 l, .int .u64 r], .int .u64 b] w fun e w' => e = .returned (.int .u64 a) ∧ Below w.heap.size w w')
    (h6 : ∀ w, Calls Try.prog 23 #[.agg #[.int .u64 f, .int .u64 l, .int .u64 r], .int .u64 (t - 1)] w fun e w' => e = .returned (.int .u64 p) ∧ Below w.heap.size w w')
    (ht : decide (4611686018427387904 ≤ t) = false)
    (hn : (n == 9223372036854775808) = false)
    (hn2 : decide (9223372036854775808 < n) = false)
    (hv1 : decide (v1 < y) = false)
    (hn3 : decide (0 < n) = true)
    (hw : IntKind.u64.wrap (n - 1) = n - 1)
    (hv2 : decide (y ≤ v2) = false)
    (hb : decide (t < b) = false)
    (t0 : (t == 0) = false)
    (t1 : decide (0 < t) = true)
    (hw2 : IntKind.u64.wrap (t - 1) = t - 1)
    (hp : (b == t) = decide (p < a)) :
    Calls Try.prog 5 #[.agg #[.int .u64 f, .int .u64 l, .int .u64 r], .int .u64 t, .int .u64 y] w fun e w' => e = .returned (.bool true) ∧ Below w.heap.size w w' := by
  have BC := Box.new w 24 #[.int .u64 f, .int .u64 l, .int .u64 r]
  have T := up1 w (.cells #[.int .u64 f, .int .u64 l, .int .u64 r] 24)
  go_enter Try.func5, Try.ntmps5
  go_wp2_with (first
    | (go_at_call 27; (with_reducible refine (hA _).mono ?_); rintro e w1 ⟨rfl, hb⟩; replace BC := BC.below hb; replace T := up T hb T.size; obtain ⟨c0, c1, c2, c3⟩ := BC.tri; clear hb)
    | (go_at_call 14; (with_reducible refine (hM _).mono ?_); rintro e w2 ⟨rfl, hb⟩; replace BC := BC.below hb; replace T := up T hb T.size; obtain ⟨c0, c1, c2, c3⟩ := BC.tri; clear hb)
    | (go_at_call 25; (with_reducible refine (hR _).mono ?_); rintro e w3 ⟨rfl, hb⟩; replace BC := BC.below hb; replace T := up T hb T.size; obtain ⟨c0, c1, c2, c3⟩ := BC.tri; clear hb)
    | (go_at_call 23; (with_reducible refine (h1 _).mono ?_); rintro e w4 ⟨rfl, hb⟩; replace BC := BC.below hb; replace T := up T hb T.size; obtain ⟨c0, c1, c2, c3⟩ := BC.tri; clear hb)
    | (go_at_call 23; (with_reducible refine (h2 _).mono ?_); rintro e w5 ⟨rfl, hb⟩; replace BC := BC.below hb; replace T := up T hb T.size; obtain ⟨c0, c1, c2, c3⟩ := BC.tri; clear hb)
    | (go_at_call 23; (with_reducible refine (h3 _).mono ?_); rintro e w6 ⟨rfl, hb⟩; replace BC := BC.below hb; replace T := up T hb T.size; obtain ⟨c0, c1, c2, c3⟩ := BC.tri; clear hb)
    | (go_at_call 25; (with_reducible refine (h4 _).mono ?_); rintro e w7 ⟨rfl, hb⟩; replace BC := BC.below hb; replace T := up T hb T.size; obtain ⟨c0, c1, c2, c3⟩ := BC.tri; clear hb)
    | (go_at_call 23; (with_reducible refine (h5 _).mono ?_); rintro e w8 ⟨rfl, hb⟩; replace BC := BC.below hb; replace T := up T hb T.size; obtain ⟨c0, c1, c2, c3⟩ := BC.tri; clear hb)
    | (go_at_call 23; (with_reducible refine (h6 _).mono ?_); rintro e w9 ⟨rfl, hb⟩; replace BC := BC.below hb; replace T := up T hb T.size; obtain ⟨c0, c1, c2, c3⟩ := BC.tri; clear hb))
  go_ret
  exact ⟨by simp [*], T⟩
end Go.Proofs.Ytbgccdjkofpiaaa
