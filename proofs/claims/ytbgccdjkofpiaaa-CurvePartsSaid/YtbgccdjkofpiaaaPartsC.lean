/- The walk of CurveParts. No condition but that words are words. -/
import Derived.Test.YtbgccdjkofpiaaaHasW
namespace Go.Proofs.Ytbgccdjkofpiaaa
open Go.RowKit W
set_option linter.unusedVariables false
set_option maxRecDepth 100000 in
set_option maxHeartbeats 2000000 in
theorem parts_no (f l r a b t : Int) (w : World)
    (hA : ∀ w, Calls Try.prog 27 #[] w fun e w' => e = .returned (.bool true) ∧ Below w.heap.size w w')
    (hM : ∀ w, Calls Try.prog 14 #[.agg #[.int .u64 f, .int .u64 l, .int .u64 r]] w fun e w' => e = .returned (.bool false) ∧ Below w.heap.size w w') :
    Calls Try.prog 9 #[.agg #[.int .u64 f, .int .u64 l, .int .u64 r], .int .u64 a, .int .u64 b, .int .u64 t] w fun e w' => e = .returned (.bool true) ∧ Below w.heap.size w w' := by
  have BC := Box.new w 24 #[.int .u64 f, .int .u64 l, .int .u64 r]
  have T := up1 w (.cells #[.int .u64 f, .int .u64 l, .int .u64 r] 24)
  go_enter Try.func9, Try.ntmps9
  go_wp2_with (first
    | (go_at_call 27; (with_reducible refine (hA _).mono ?_); rintro e w1 ⟨rfl, hb⟩; replace BC := BC.below hb; replace T := up T hb T.size; obtain ⟨c0, c1, c2, c3⟩ := BC.tri; clear hb)
    | (go_at_call 14; (with_reducible refine (hM _).mono ?_); rintro e w2 ⟨rfl, hb⟩; replace BC := BC.below hb; replace T := up T hb T.size; obtain ⟨c0, c1, c2, c3⟩ := BC.tri; clear hb))
  go_ret
  exact ⟨by simp [*], T⟩
set_option maxRecDepth 100000 in
set_option maxHeartbeats 2000000 in
theorem parts_a (f l r a b t : Int) (w : World)
    (hA : ∀ w, Calls Try.prog 27 #[] w fun e w' => e = .returned (.bool true) ∧ Below w.heap.size w w')
    (hM : ∀ w, Calls Try.prog 14 #[.agg #[.int .u64 f, .int .u64 l, .int .u64 r]] w fun e w' => e = .returned (.bool true) ∧ Below w.heap.size w w')
    (ha : decide (1048576 ≤ a) = true) :
    Calls Try.prog 9 #[.agg #[.int .u64 f, .int .u64 l, .int .u64 r], .int .u64 a, .int .u64 b, .int .u64 t] w fun e w' => e = .returned (.bool true) ∧ Below w.heap.size w w' := by
  have BC := Box.new w 24 #[.int .u64 f, .int .u64 l, .int .u64 r]
  have T := up1 w (.cells #[.int .u64 f, .int .u64 l, .int .u64 r] 24)
  go_enter Try.func9, Try.ntmps9
  go_wp2_with (first
    | (go_at_call 27; (with_reducible refine (hA _).mono ?_); rintro e w1 ⟨rfl, hb⟩; replace BC := BC.below hb; replace T := up T hb T.size; obtain ⟨c0, c1, c2, c3⟩ := BC.tri; clear hb)
    | (go_at_call 14; (with_reducible refine (hM _).mono ?_); rintro e w2 ⟨rfl, hb⟩; replace BC := BC.below hb; replace T := up T hb T.size; obtain ⟨c0, c1, c2, c3⟩ := BC.tri; clear hb))
  go_ret
  exact ⟨by simp [*], T⟩
set_option maxRecDepth 100000 in
set_option maxHeartbeats 2000000 in
theorem parts_b (f l r a b t : Int) (w : World)
    (hA : ∀ w, Calls Try.prog 27 #[] w fun e w' => e = .returned (.bool true) ∧ Below w.heap.size w w')
    (hM : ∀ w, Calls Try.prog 14 #[.agg #[.int .u64 f, .int .u64 l, .int .u64 r]] w fun e w' => e = .returned (.bool true) ∧ Below w.heap.size w w')
    (ha : decide (1048576 ≤ a) = false)
    (hb0 : decide (1048576 ≤ b) = true) :
    Calls Try.prog 9 #[.agg #[.int .u64 f, .int .u64 l, .int .u64 r], .int .u64 a, .int .u64 b, .int .u64 t] w fun e w' => e = .returned (.bool true) ∧ Below w.heap.size w w' := by
  have BC := Box.new w 24 #[.int .u64 f, .int .u64 l, .int .u64 r]
  have T := up1 w (.cells #[.int .u64 f, .int .u64 l, .int .u64 r] 24)
  go_enter Try.func9, Try.ntmps9
  go_wp2_with (first
    | (go_at_call 27; (with_reducible refine (hA _).mono ?_); rintro e w1 ⟨rfl, hb⟩; replace BC := BC.below hb; replace T := up T hb T.size; obtain ⟨c0, c1, c2, c3⟩ := BC.tri; clear hb)
    | (go_at_call 14; (with_reducible refine (hM _).mono ?_); rintro e w2 ⟨rfl, hb⟩; replace BC := BC.below hb; replace T := up T hb T.size; obtain ⟨c0, c1, c2, c3⟩ := BC.tri; clear hb))
  go_ret
  exact ⟨by simp [*], T⟩
set_option maxRecDepth 100000 in
set_option maxHeartbeats 2000000 in
theorem parts_t (f l r a b t : Int) (w : World)
    (hA : ∀ w, Calls Try.prog 27 #[] w fun e w' => e = .returned (.bool true) ∧ Below w.heap.size w w')
    (hM : ∀ w, Calls Try.prog 14 #[.agg #[.int .u64 f, .int .u64 l, .int .u64 r]] w fun e w' => e = .returned (.bool true) ∧ Below w.heap.size w w')
    (ha : decide (1048576 ≤ a) = false)
    (hb0 : decide (1048576 ≤ b) = false)
    (ht : decide (1099511627776 ≤ t) = true) :
    Calls Try.prog 9 #[.agg #[.int .u64 f, .int .u64 l, .int .u64 r], .int .u64 a, .int .u64 b, .int .u64 t] w fun e w' => e = .returned (.bool true) ∧ Below w.heap.size w w' := by
  have BC := Box.new w 24 #[.int .u64 f, .int .u64 l, .int .u64 r]
  have T := up1 w (.cells #[.int .u64 f, .int .u64 l, .int .u64 r] 24)
  go_enter Try.func9, Try.ntmps9
  go_wp2_with (first
    | (go_at_call 27; (with_reducible refine (hA _).mono ?_); rintro e w1 ⟨rfl, hb⟩; replace BC := BC.below hb; replace T := up T hb T.size; obtain ⟨c0, c1, c2, c3⟩ := BC.tri; clear hb)
    | (go_at_call 14; (with_reducible refine (hM _).mono ?_); rintro e w2 ⟨rfl, hb⟩; replace BC := BC.below hb; replace T := up T hb T.size; obtain ⟨c0, c1, c2, c3⟩ := BC.tri; clear hb))
  go_ret
  exact ⟨by simp [*], T⟩
set_option maxRecDepth 100000 in
set_option maxHeartbeats 2000000 in
theorem parts_zero (f l r a b t : Int) (w : World)
    (hA : ∀ w, Calls Try.prog 27 #[] w fun e w' => e = .returned (.bool true) ∧ Below w.heap.size w w')
    (hM : ∀ w, Calls Try.prog 14 #[.agg #[.int .u64 f, .int .u64 l, .int .u64 r]] w fun e w' => e = .returned (.bool true) ∧ Below w.heap.size w w')
    (hS : ∀ w, Calls Try.prog 10 #[.agg #[.int .u64 f, .int .u64 l, .int .u64 r], .int .u64 a, .int .u64 b] w fun e w' => e = .returned (.tuple #[.agg #[.int .u64 0, .int .u64 0, .int .u64 0], .int .i64 2]) ∧ Below w.heap.size w w')
    (hN : ∀ w, Calls Try.prog 16 #[.agg #[.int .u64 0, .int .u64 0, .int .u64 0]] w fun e w' => e = .returned (.bool true) ∧ Below w.heap.size w w')
    (ha : decide (1048576 ≤ a) = false)
    (hb0 : decide (1048576 ≤ b) = false)
    (ht : decide (1099511627776 ≤ t) = false)
    (b0 : (b == 0) = true) :
    Calls Try.prog 9 #[.agg #[.int .u64 f, .int .u64 l, .int .u64 r], .int .u64 a, .int .u64 b, .int .u64 t] w fun e w' => e = .returned (.bool true) ∧ Below w.heap.size w w' := by
  have BC := Box.new w 24 #[.int .u64 f, .int .u64 l, .int .u64 r]
  have T := up1 w (.cells #[.int .u64 f, .int .u64 l, .int .u64 r] 24)
  go_enter Try.func9, Try.ntmps9
  go_wp2_with (first
    | (go_at_call 27; (with_reducible refine (hA _).mono ?_); rintro e w1 ⟨rfl, hb⟩; replace BC := BC.below hb; replace T := up T hb T.size; obtain ⟨c0, c1, c2, c3⟩ := BC.tri; clear hb)
    | (go_at_call 14; (with_reducible refine (hM _).mono ?_); rintro e w2 ⟨rfl, hb⟩; replace BC := BC.below hb; replace T := up T hb T.size; obtain ⟨c0, c1, c2, c3⟩ := BC.tri; clear hb)
    | (go_at_call 10; (with_reducible refine (hS _).mono ?_); rintro e w3 ⟨rfl, hb⟩; replace BC := BC.below hb; replace T := up T hb T.size; obtain ⟨c0, c1, c2, c3⟩ := BC.tri; clear hb)
    | (go_at_call 16; (with_reducible refine (hN _).mono ?_); rintro e w4 ⟨rfl, hb⟩; replace BC := BC.alloc (.cells #[.int .u64 0, .int .u64 0, .int .u64 0] 24); replace T := T.alloc T.size (.cells #[.int .u64 0, .int .u64 0, .int .u64 0] 24); have BD := (Box.new w3 24 #[.int .u64 0, .int .u64 0, .int .u64 0]).below hb; obtain ⟨bd0, bd1, bd2, bd3⟩ := BD.tri; replace BC := BC.below hb; replace T := up T hb T.size; obtain ⟨c0, c1, c2, c3⟩ := BC.tri; clear hb))
  go_ret
  exact ⟨by simp [*], T⟩
set_option maxRecDepth 100000 in
set_option maxHeartbeats 2000000 in
theorem parts_bad_f (f l r a b t s : Int) (w : World)
    (hA : ∀ w, Calls Try.prog 27 #[] w fun e w' => e = .returned (.bool true) ∧ Below w.heap.size w w')
    (hM : ∀ w, Calls Try.prog 14 #[.agg #[.int .u64 f, .int .u64 l, .int .u64 r]] w fun e w' => e = .returned (.bool true) ∧ Below w.heap.size w w')
    (hS : ∀ w, Calls Try.prog 10 #[.agg #[.int .u64 f, .int .u64 l, .int .u64 r], .int .u64 a, .int .u64 b] w fun e w' => e = .returned (.tuple #[.agg #[.int .u64 0, .int .u64 0, .int .u64 0], .int .i64 30]) ∧ Below w.heap.size w w')
    (hS2 : ∀ w, Calls Try.prog 10 #[.agg #[.int .u64 f, .int .u64 l, .int .u64 r], .int .u64 b, .int .u64 b] w fun e w' => e = .returned (.tuple #[.agg #[.int .u64 f, .int .u64 l, .int .u64 r], .int .i64 0]) ∧ Below w.heap.size w w')
    (hD : ∀ w, Calls Try.prog 29 #[.int .u64 f, .int .u64 a, .int .u64 b] w fun e w' => e = .returned (.tuple #[.int .u64 s, .int .i64 0]) ∧ Below w.heap.size w w')
    (hN : ∀ w, Calls Try.prog 16 #[.agg #[.int .u64 0, .int .u64 0, .int .u64 0]] w fun e w' => e = .returned (.bool true) ∧ Below w.heap.size w w')
    (ha : decide (1048576 ≤ a) = false)
    (hb0 : decide (1048576 ≤ b) = false)
    (ht : decide (1099511627776 ≤ t) = false)
    (b0 : (b == 0) = false)
    (q1 : decide (1048576 < s) = true)
    (m1 : max f r = f)
    (m2 : min f r = r) :
    Calls Try.prog 9 #[.agg #[.int .u64 f, .int .u64 l, .int .u64 r], .int .u64 a, .int .u64 b, .int .u64 t] w fun e w' => e = .returned (.bool true) ∧ Below w.heap.size w w' := by
  have BC := Box.new w 24 #[.int .u64 f, .int .u64 l, .int .u64 r]
  have T := up1 w (.cells #[.int .u64 f, .int .u64 l, .int .u64 r] 24)
  go_enter Try.func9, Try.ntmps9
  go_wp2_with (first
    | (go_at_call 27; (with_reducible refine (hA _).mono ?_); rintro e w1 ⟨rfl, hb⟩; replace BC := BC.below hb; replace T := up T hb T.size; obtain ⟨c0, c1, c2, c3⟩ := BC.tri; clear hb)
    | (go_at_call 14; (with_reducible refine (hM _).mono ?_); rintro e w2 ⟨rfl, hb⟩; replace BC := BC.below hb; replace T := up T hb T.size; obtain ⟨c0, c1, c2, c3⟩ := BC.tri; clear hb)
    | (go_at_call 10; (with_reducible refine (hS _).mono ?_); rintro e w3 ⟨rfl, hb⟩; replace BC := BC.below hb; replace T := up T hb T.size; obtain ⟨c0, c1, c2, c3⟩ := BC.tri; clear hb)
    | (go_at_call 10; (with_reducible refine (hS2 _).mono ?_); rintro e w4 ⟨rfl, hb⟩; replace BC := BC.alloc (.cells #[.int .u64 0, .int .u64 0, .int .u64 0] 24); replace T := T.alloc T.size (.cells #[.int .u64 0, .int .u64 0, .int .u64 0] 24); have BD := (Box.new w3 24 #[.int .u64 0, .int .u64 0, .int .u64 0]).below hb; obtain ⟨bd0, bd1, bd2, bd3⟩ := BD.tri; replace BC := BC.below hb; replace T := up T hb T.size; obtain ⟨c0, c1, c2, c3⟩ := BC.tri; clear hb)
    | (go_at_call 29; (with_reducible refine (hD _).mono ?_); rintro e w5 ⟨rfl, hb⟩; replace BD := BD.alloc (.cells #[.int .u64 f, .int .u64 l, .int .u64 r] 24); replace BC := BC.alloc (.cells #[.int .u64 f, .int .u64 l, .int .u64 r] 24); replace T := T.alloc T.size (.cells #[.int .u64 f, .int .u64 l, .int .u64 r] 24); have BS := (Box.new w4 24 #[.int .u64 f, .int .u64 l, .int .u64 r]).below hb; obtain ⟨bs0, bs1, bs2, bs3⟩ := BS.tri; replace BD := (BD).below hb; obtain ⟨bd0, bd1, bd2, bd3⟩ := BD.tri; replace BC := BC.below hb; replace T := up T hb T.size; obtain ⟨c0, c1, c2, c3⟩ := BC.tri; clear hb)
    | (go_at_call 16; (with_reducible refine (hN _).mono ?_); rintro e w6 ⟨rfl, hb⟩; replace BD := (BD).below hb; obtain ⟨bd0, bd1, bd2, bd3⟩ := BD.tri; replace BC := BC.below hb; replace T := up T hb T.size; obtain ⟨c0, c1, c2, c3⟩ := BC.tri; clear hb))
  go_ret
  exact ⟨by simp [*], T⟩
set_option maxRecDepth 100000 in
set_option maxHeartbeats 2000000 in
theorem parts_bad_r (f l r a b t s : Int) (w : World)
    (hA : ∀ w, Calls Try.prog 27 #[] w fun e w' => e = .returned (.bool true) ∧ Below w.heap.size w w')
    (hM : ∀ w, Calls Try.prog 14 #[.agg #[.int .u64 f, .int .u64 l, .int .u64 r]] w fun e w' => e = .returned (.bool true) ∧ Below w.heap.size w w')
    (hS : ∀ w, Calls Try.prog 10 #[.agg #[.int .u64 f, .int .u64 l, .int .u64 r], .int .u64 a, .int .u64 b] w fun e w' => e = .returned (.tuple #[.agg #[.int .u64 0, .int .u64 0, .int .u64 0], .int .i64 30]) ∧ Below w.heap.size w w')
    (hS2 : ∀ w, Calls Try.prog 10 #[.agg #[.int .u64 f, .int .u64 l, .int .u64 r], .int .u64 b, .int .u64 b] w fun e w' => e = .returned (.tuple #[.agg #[.int .u64 f, .int .u64 l, .int .u64 r], .int .i64 0]) ∧ Below w.heap.size w w')
    (hD : ∀ w, Calls Try.prog 29 #[.int .u64 r, .int .u64 a, .int .u64 b] w fun e w' => e = .returned (.tuple #[.int .u64 s, .int .i64 0]) ∧ Below w.heap.size w w')
    (hN : ∀ w, Calls Try.prog 16 #[.agg #[.int .u64 0, .int .u64 0, .int .u64 0]] w fun e w' => e = .returned (.bool true) ∧ Below w.heap.size w w')
    (ha : decide (1048576 ≤ a) = false)
    (hb0 : decide (1048576 ≤ b) = false)
    (ht : decide (1099511627776 ≤ t) = false)
    (b0 : (b == 0) = false)
    (q1 : decide (1048576 < s) = true)
    (m1 : max f r = r)
    (m2 : min f r = f) :
    Calls Try.prog 9 #[.agg #[.int .u64 f, .int .u64 l, .int .u64 r], .int .u64 a, .int .u64 b, .int .u64 t] w fun e w' => e = .returned (.bool true) ∧ Below w.heap.size w w' := by
  have BC := Box.new w 24 #[.int .u64 f, .int .u64 l, .int .u64 r]
  have T := up1 w (.cells #[.int .u64 f, .int .u64 l, .int .u64 r] 24)
  go_enter Try.func9, Try.ntmps9
  go_wp2_with (first
    | (go_at_call 27; (with_reducible refine (hA _).mono ?_); rintro e w1 ⟨rfl, hb⟩; replace BC := BC.below hb; replace T := up T hb T.size; obtain ⟨c0, c1, c2, c3⟩ := BC.tri; clear hb)
    | (go_at_call 14; (with_reducible refine (hM _).mono ?_); rintro e w2 ⟨rfl, hb⟩; replace BC := BC.below hb; replace T := up T hb T.size; obtain ⟨c0, c1, c2, c3⟩ := BC.tri; clear hb)
    | (go_at_call 10; (with_reducible refine (hS _).mono ?_); rintro e w3 ⟨rfl, hb⟩; replace BC := BC.below hb; replace T := up T hb T.size; obtain ⟨c0, c1, c2, c3⟩ := BC.tri; clear hb)
    | (go_at_call 10; (with_reducible refine (hS2 _).mono ?_); rintro e w4 ⟨rfl, hb⟩; replace BC := BC.alloc (.cells #[.int .u64 0, .int .u64 0, .int .u64 0] 24); replace T := T.alloc T.size (.cells #[.int .u64 0, .int .u64 0, .int .u64 0] 24); have BD := (Box.new w3 24 #[.int .u64 0, .int .u64 0, .int .u64 0]).below hb; obtain ⟨bd0, bd1, bd2, bd3⟩ := BD.tri; replace BC := BC.below hb; replace T := up T hb T.size; obtain ⟨c0, c1, c2, c3⟩ := BC.tri; clear hb)
    | (go_at_call 29; (with_reducible refine (hD _).mono ?_); rintro e w5 ⟨rfl, hb⟩; replace BD := BD.alloc (.cells #[.int .u64 f, .int .u64 l, .int .u64 r] 24); replace BC := BC.alloc (.cells #[.int .u64 f, .int .u64 l, .int .u64 r] 24); replace T := T.alloc T.size (.cells #[.int .u64 f, .int .u64 l, .int .u64 r] 24); have BS := (Box.new w4 24 #[.int .u64 f, .int .u64 l, .int .u64 r]).below hb; obtain ⟨bs0, bs1, bs2, bs3⟩ := BS.tri; replace BD := (BD).below hb; obtain ⟨bd0, bd1, bd2, bd3⟩ := BD.tri; replace BC := BC.below hb; replace T := up T hb T.size; obtain ⟨c0, c1, c2, c3⟩ := BC.tri; clear hb)
    | (go_at_call 16; (with_reducible refine (hN _).mono ?_); rintro e w6 ⟨rfl, hb⟩; replace BD := (BD).below hb; obtain ⟨bd0, bd1, bd2, bd3⟩ := BD.tri; replace BC := BC.below hb; replace T := up T hb T.size; obtain ⟨c0, c1, c2, c3⟩ := BC.tri; clear hb))
  go_ret
  exact ⟨by simp [*], T⟩
set_option maxRecDepth 100000 in
set_option maxHeartbeats 2000000 in
theorem parts_ok (f l r a b t x y z h k m p q : Int) (w : World)
    (hA : ∀ w, Calls Try.prog 27 #[] w fun e w' => e = .returned (.bool true) ∧ Below w.heap.size w w')
    (hM : ∀ w, Calls Try.prog 14 #[.agg #[.int .u64 f, .int .u64 l, .int .u64 r]] w fun e w' => e = .returned (.bool true) ∧ Below w.heap.size w w')
    (hS : ∀ w, Calls Try.prog 10 #[.agg #[.int .u64 f, .int .u64 l, .int .u64 r], .int .u64 a, .int .u64 b] w fun e w' => e = .returned (.tuple #[.agg #[.int .u64 x, .int .u64 y, .int .u64 z], .int .i64 0]) ∧ Below w.heap.size w w')
    (hS2 : ∀ w, Calls Try.prog 10 #[.agg #[.int .u64 f, .int .u64 l, .int .u64 r], .int .u64 b, .int .u64 b] w fun e w' => e = .returned (.tuple #[.agg #[.int .u64 f, .int .u64 l, .int .u64 r], .int .i64 0]) ∧ Below w.heap.size w w')
    (h1 : ∀ w, Calls Try.prog 23 #[.agg #[.int .u64 x, .int .u64 y, .int .u64 z], .int .u64 t] w fun e w' => e = .returned (.int .u64 h) ∧ Below w.heap.size w w')
    (h2 : ∀ w, Calls Try.prog 23 #[.agg #[.int .u64 f, .int .u64 l, .int .u64 r], .int .u64 t] w fun e w' => e = .returned (.int .u64 k) ∧ Below w.heap.size w w')
    (h3 : ∀ w, Calls Try.prog 29 #[.int .u64 k, .int .u64 a, .int .u64 b] w fun e w' => e = .returned (.tuple #[.int .u64 m, .int .i64 0]) ∧ Below w.heap.size w w')
    (h4 : ∀ w, Calls Try.prog 14 #[.agg #[.int .u64 x, .int .u64 y, .int .u64 z]] w fun e w' => e = .returned (.bool true) ∧ Below w.heap.size w w')
    (h5 : ∀ w, Calls Try.prog 30 #[.int .u64 t, .int .u64 1] w fun e w' => e = .returned (.int .u64 p) ∧ Below w.heap.size w w')
    (h6 : ∀ w, Calls Try.prog 30 #[.int .u64 h, .int .u64 p] w fun e w' => e = .returned (.int .u64 q) ∧ Below w.heap.size w w')
    (ha : decide (1048576 ≤ a) = false)
    (hb0 : decide (1048576 ≤ b) = false)
    (ht : decide (1099511627776 ≤ t) = false)
    (b0 : (b == 0) = false)
    (q1 : decide (h ≤ m) = true)
    (q2 : decide (m ≤ q) = true) :
    Calls Try.prog 9 #[.agg #[.int .u64 f, .int .u64 l, .int .u64 r], .int .u64 a, .int .u64 b, .int .u64 t] w fun e w' => e = .returned (.bool true) ∧ Below w.heap.size w w' := by
  have BC := Box.new w 24 #[.int .u64 f, .int .u64 l, .int .u64 r]
  have T := up1 w (.cells #[.int .u64 f, .int .u64 l, .int .u64 r] 24)
  go_enter Try.func9, Try.ntmps9
  go_wp2_with (first
    | (go_at_call 27; (with_reducible refine (hA _).mono ?_); rintro e w1 ⟨rfl, hb⟩; replace BC := BC.below hb; replace T := up T hb T.size; obtain ⟨c0, c1, c2, c3⟩ := BC.tri; clear hb)
    | (go_at_call 14; (with_reducible refine (hM _).mono ?_); rintro e w2 ⟨rfl, hb⟩; replace BC := BC.below hb; replace T := up T hb T.size; obtain ⟨c0, c1, c2, c3⟩ := BC.tri; clear hb)
    | (go_at_call 10; (with_reducible refine (hS _).mono ?_); rintro e w3 ⟨rfl, hb⟩; replace BC := BC.below hb; replace T := up T hb T.size; obtain ⟨c0, c1, c2, c3⟩ := BC.tri; clear hb)
    | (go_at_call 10; (with_reducible refine (hS2 _).mono ?_); rintro e w4 ⟨rfl, hb⟩; replace BC := BC.alloc (.cells #[.int .u64 x, .int .u64 y, .int .u64 z] 24); replace T := T.alloc T.size (.cells #[.int .u64 x, .int .u64 y, .int .u64 z] 24); have BD := (Box.new w3 24 #[.int .u64 x, .int .u64 y, .int .u64 z]).below hb; obtain ⟨bd0, bd1, bd2, bd3⟩ := BD.tri; replace BC := BC.below hb; replace T := up T hb T.size; obtain ⟨c0, c1, c2, c3⟩ := BC.tri; clear hb)
    | (go_at_call 23; (with_reducible refine (h1 _).mono ?_); rintro e w5 ⟨rfl, hb⟩; replace BD := BD.alloc (.cells #[.int .u64 f, .int .u64 l, .int .u64 r] 24); replace BC := BC.alloc (.cells #[.int .u64 f, .int .u64 l, .int .u64 r] 24); replace T := T.alloc T.size (.cells #[.int .u64 f, .int .u64 l, .int .u64 r] 24); have BS := (Box.new w4 24 #[.int .u64 f, .int .u64 l, .int .u64 r]).below hb; obtain ⟨bs0, bs1, bs2, bs3⟩ := BS.tri; replace BD := (BD).below hb; obtain ⟨bd0, bd1, bd2, bd3⟩ := BD.tri; replace BC := BC.below hb; replace T := up T hb T.size; obtain ⟨c0, c1, c2, c3⟩ := BC.tri; clear hb)
    | (go_at_call 23; (with_reducible refine (h2 _).mono ?_); rintro e w6 ⟨rfl, hb⟩; replace BD := (BD).below hb; obtain ⟨bd0, bd1, bd2, bd3⟩ := BD.tri; replace BC := BC.below hb; replace T := up T hb T.size; obtain ⟨c0, c1, c2, c3⟩ := BC.tri; clear hb)
    | (go_at_call 29; (with_reducible refine (h3 _).mono ?_); rintro e w7 ⟨rfl, hb⟩; replace BD := (BD).below hb; obtain ⟨bd0, bd1, bd2, bd3⟩ := BD.tri; replace BC := BC.below hb; replace T := up T hb T.size; obtain ⟨c0, c1, c2, c3⟩ := BC.tri; clear hb)
    | (go_at_call 14; (with_reducible refine (h4 _).mono ?_); rintro e w8 ⟨rfl, hb⟩; replace BD := (BD).below hb; obtain ⟨bd0, bd1, bd2, bd3⟩ := BD.tri; replace BC := BC.below hb; replace T := up T hb T.size; obtain ⟨c0, c1, c2, c3⟩ := BC.tri; clear hb)
    | (go_at_call 30; (with_reducible refine (h5 _).mono ?_); rintro e w9 ⟨rfl, hb⟩; replace BD := (BD).below hb; obtain ⟨bd0, bd1, bd2, bd3⟩ := BD.tri; replace BC := BC.below hb; replace T := up T hb T.size; obtain ⟨c0, c1, c2, c3⟩ := BC.tri; clear hb)
    | (go_at_call 30; (with_reducible refine (h6 _).mono ?_); rintro e w10 ⟨rfl, hb⟩; replace BD := (BD).below hb; obtain ⟨bd0, bd1, bd2, bd3⟩ := BD.tri; replace BC := BC.below hb; replace T := up T hb T.size; obtain ⟨c0, c1, c2, c3⟩ := BC.tri; clear hb))
  go_ret
  exact ⟨by simp [*], T⟩
end Go.Proofs.Ytbgccdjkofpiaaa
