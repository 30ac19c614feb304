/- The walk of CurveGrows. No condition but that words are words. -/
import Derived.Test.YtbgccdjkofpiaaaHasW
namespace Go.Proofs.Ytbgccdjkofpiaaa
open Go.RowKit W
set_option linter.unusedVariables false
set_option maxRecDepth 100000 in
set_option maxHeartbeats 2000000 in
theorem grow_no (f l r t m : Int) (w : World)
    (hA : ∀ w, Calls Try.prog 27 #[] w fun e w' => e = .returned (.bool true) ∧ Below w.heap.size w w')
    (hM : ∀ w, Calls Try.prog 14 #[.agg #[.int .u64 f, .int .u64 l, .int .u64 r]] w fun e w' => e = .returned (.bool false) ∧ Below w.heap.size w w') :
    Calls Try.prog 6 #[.agg #[.int .u64 f, .int .u64 l, .int .u64 r], .int .u64 t, .int .u64 m] w fun e w' => e = .returned (.bool true) ∧ Below w.heap.size w w' := by
  have BC := Box.new w 24 #[.int .u64 f, .int .u64 l, .int .u64 r]
  have T := up1 w (.cells #[.int .u64 f, .int .u64 l, .int .u64 r] 24)
  go_enter Try.func6, Try.ntmps6
  go_wp2_with (first
    | (go_at_call 27; (with_reducible refine (hA _).mono ?_); rintro e w1 ⟨rfl, hb⟩; replace BC := BC.below hb; replace T := up T hb T.size; obtain ⟨c0, c1, c2, c3⟩ := BC.tri; clear hb)
    | (go_at_call 14; (with_reducible refine (hM _).mono ?_); rintro e w2 ⟨rfl, hb⟩; replace BC := BC.below hb; replace T := up T hb T.size; obtain ⟨c0, c1, c2, c3⟩ := BC.tri; clear hb))
  go_ret
  exact ⟨by simp [*], T⟩
set_option maxRecDepth 100000 in
set_option maxHeartbeats 2000000 in
theorem grow_far (f l r t m : Int) (w : World)
    (hA : ∀ w, Calls Try.prog 27 #[] w fun e w' => e = .returned (.bool true) ∧ Below w.heap.size w w')
    (hM : ∀ w, Calls Try.prog 14 #[.agg #[.int .u64 f, .int .u64 l, .int .u64 r]] w fun e w' => e = .returned (.bool true) ∧ Below w.heap.size w w')
    (ht : decide (4611686018427387904 ≤ t) = true) :
    Calls Try.prog 6 #[.agg #[.int .u64 f, .int .u64 l, .int .u64 r], .int .u64 t, .int .u64 m] w fun e w' => e = .returned (.bool true) ∧ Below w.heap.size w w' := by
  have BC := Box.new w 24 #[.int .u64 f, .int .u64 l, .int .u64 r]
  have T := up1 w (.cells #[.int .u64 f, .int .u64 l, .int .u64 r] 24)
  go_enter Try.func6, Try.ntmps6
  go_wp2_with (first
    | (go_at_call 27; (with_reducible refine (hA _).mono ?_); rintro e w1 ⟨rfl, hb⟩; replace BC := BC.below hb; replace T := up T hb T.size; obtain ⟨c0, c1, c2, c3⟩ := BC.tri; clear hb)
    | (go_at_call 14; (with_reducible refine (hM _).mono ?_); rintro e w2 ⟨rfl, hb⟩; replace BC := BC.below hb; replace T := up T hb T.size; obtain ⟨c0, c1, c2, c3⟩ := BC.tri; clear hb))
  go_ret
  exact ⟨by simp [*], T⟩
set_option maxRecDepth 100000 in
set_option maxHeartbeats 2000000 in
theorem grow_far2 (f l r t m : Int) (w : World)
    (hA : ∀ w, Calls Try.prog 27 #[] w fun e w' => e = .returned (.bool true) ∧ Below w.heap.size w w')
    (hM : ∀ w, Calls Try.prog 14 #[.agg #[.int .u64 f, .int .u64 l, .int .u64 r]] w fun e w' => e = .returned (.bool true) ∧ Below w.heap.size w w')
    (ht : decide (4611686018427387904 ≤ t) = false)
    (hm : decide (4611686018427387904 ≤ m) = true) :
    Calls Try.prog 6 #[.agg #[.int .u64 f, .int .u64 l, .int .u64 r], .int .u64 t, .int .u64 m] w fun e w' => e = .returned (.bool true) ∧ Below w.heap.size w w' := by
  have BC := Box.new w 24 #[.int .u64 f, .int .u64 l, .int .u64 r]
  have T := up1 w (.cells #[.int .u64 f, .int .u64 l, .int .u64 r] 24)
  go_enter Try.func6, Try.ntmps6
  go_wp2_with (first
    | (go_at_call 27; (with_reducible refine (hA _).mono ?_); rintro e w1 ⟨rfl, hb⟩; replace BC := BC.below hb; replace T := up T hb T.size; obtain ⟨c0, c1, c2, c3⟩ := BC.tri; clear hb)
    | (go_at_call 14; (with_reducible refine (hM _).mono ?_); rintro e w2 ⟨rfl, hb⟩; replace BC := BC.below hb; replace T := up T hb T.size; obtain ⟨c0, c1, c2, c3⟩ := BC.tri; clear hb))
  go_ret
  exact ⟨by simp [*], T⟩
set_option maxRecDepth 100000 in
set_option maxHeartbeats 2000000 in
theorem grow_1 (f l r t m a b d o s g : Int) (w : World)
    (hA : ∀ w, Calls Try.prog 27 #[] w fun e w' => e = .returned (.bool true) ∧ Below w.heap.size w w')
    (hM : ∀ w, Calls Try.prog 14 #[.agg #[.int .u64 f, .int .u64 l, .int .u64 r]] w fun e w' => e = .returned (.bool true) ∧ Below w.heap.size w w')
    (h1 : ∀ w, Calls Try.prog 23 #[.agg #[.int .u64 f, .int .u64 l, .int .u64 r], .int .u64 t] w fun e w' => e = .returned (.int .u64 a) ∧ Below w.heap.size w w')
    (h2 : ∀ w, Calls Try.prog 23 #[.agg #[.int .u64 f, .int .u64 l, .int .u64 r], .int .u64 (t + m)] w fun e w' => e = .returned (.int .u64 b) ∧ Below w.heap.size w w')
    (h3 : ∀ w, Calls Try.prog 23 #[.agg #[.int .u64 f, .int .u64 l, .int .u64 r], .int .u64 0] w fun e w' => e = .returned (.int .u64 0) ∧ Below w.heap.size w w')
    (h4 : ∀ w, Calls Try.prog 21 #[.agg #[.int .u64 f, .int .u64 l, .int .u64 r]] w fun e w' => e = .returned (.int .u64 s) ∧ Below w.heap.size w w')
    (h5 : ∀ w, Calls Try.prog 28 #[.int .u64 s, .int .u64 m] w fun e w' => e = .returned (.int .u64 g) ∧ Below w.heap.size w w')
    (h6 : ∀ w, Calls Try.prog 23 #[.agg #[.int .u64 f, .int .u64 l, .int .u64 r], .int .u64 (t + 1)] w fun e w' => e = .returned (.int .u64 d) ∧ Below w.heap.size w w')
    (ht : decide (4611686018427387904 ≤ t) = false)
    (hm : decide (4611686018427387904 ≤ m) = false)
    (hw1 : IntKind.u64.wrap (t + m) = t + m)
    (p1 : decide (b < a) = false)
    (p2 : decide (4611686018427387904 < b) = false)
    (hw2 : IntKind.u64.wrap (b - a) = b - a)
    (p3 : decide (g < b - a) = false)
    (hw4 : IntKind.u64.wrap (t + 1) = t + 1)
    (hw3 : IntKind.u64.wrap (d - a) = o)
    (p4 : decide (o ≤ s) = true)
    (hw5 : IntKind.u64.wrap (4611686018427387904 - s) = 4611686018427387904 - s)
    (q1 : decide (4611686018427387904 - s ≤ a) = true) :
    Calls Try.prog 6 #[.agg #[.int .u64 f, .int .u64 l, .int .u64 r], .int .u64 t, .int .u64 m] w fun e w' => e = .returned (.bool true) ∧ Below w.heap.size w w' := by
  have BC := Box.new w 24 #[.int .u64 f, .int .u64 l, .int .u64 r]
  have T := up1 w (.cells #[.int .u64 f, .int .u64 l, .int .u64 r] 24)
  go_enter Try.func6, Try.ntmps6
  go_upto_region 5 with (first
    | (go_at_call 27; (with_reducible refine (hA _).mono ?_); rintro e w1 ⟨rfl, hb⟩; replace BC := BC.below hb; replace T := up T hb T.size; obtain ⟨c0, c1, c2, c3⟩ := BC.tri; clear hb)
    | (go_at_call 14; (with_reducible refine (hM _).mono ?_); rintro e w2 ⟨rfl, hb⟩; replace BC := BC.below hb; replace T := up T hb T.size; obtain ⟨c0, c1, c2, c3⟩ := BC.tri; clear hb))
  obtain ⟨c0, c1, c2, c3⟩ := BC.tri
  have E := Below.refl w2.heap.size w2
  go_region_held3 (fun w' => w'.cell? ⟨w.heap.size, 0, none⟩ = some (.int .u64 f) ∧ w'.cell? ⟨w.heap.size, 1, none⟩ = some (.int .u64 l) ∧ w'.cell? ⟨w.heap.size, 2, none⟩ = some (.int .u64 r))
    (first | exact ⟨c1, c2, c3⟩ | exact (BC.below E).tri.2)
    (first
      | (go_at_call 23; (with_reducible refine (h1 _).mono ?_); rintro e w3 ⟨rfl, hb⟩; (first | replace hb := undrew hb | skip); replace E := up E hb E.size; clear hb)
      | (go_at_call 23; (with_reducible refine (h2 _).mono ?_); rintro e w4 ⟨rfl, hb⟩; (first | replace hb := undrew hb | skip); replace E := up E hb E.size; clear hb))
  replace BC := BC.below E
  replace T := up T E T.size
  clear E c0 c1 c2 c3
  obtain ⟨c0, c1, c2, c3⟩ := BC.tri
  go_wp2_with (first
    | (go_at_call 23; (with_reducible refine (h3 _).mono ?_); rintro e w5 ⟨rfl, hb⟩; replace BC := BC.below hb; replace T := up T hb T.size; obtain ⟨c0, c1, c2, c3⟩ := BC.tri; clear hb)
    | (go_at_call 21; (with_reducible refine (h4 _).mono ?_); rintro e w6 ⟨rfl, hb⟩; replace BC := BC.below hb; replace T := up T hb T.size; obtain ⟨c0, c1, c2, c3⟩ := BC.tri; clear hb)
    | (go_at_call 28; (with_reducible refine (h5 _).mono ?_); rintro e w7 ⟨rfl, hb⟩; replace BC := BC.below hb; replace T := up T hb T.size; obtain ⟨c0, c1, c2, c3⟩ := BC.tri; clear hb)
    | (go_at_call 23; (with_reducible refine (h6 _).mono ?_); rintro e w8 ⟨rfl, hb⟩; replace BC := BC.below hb; replace T := up T hb T.size; obtain ⟨c0, c1, c2, c3⟩ := BC.tri; clear hb))
  go_ret
  exact ⟨by simp [*], T⟩
set_option maxRecDepth 100000 in
set_option maxHeartbeats 2000000 in
theorem grow_2 (f l r t m a b d o s g : Int) (w : World)
    (hA : ∀ w, Calls Try.prog 27 #[] w fun e w' => e = .returned (.bool true) ∧ Below w.heap.size w w')
    (hM : ∀ w, Calls Try.prog 14 #[.agg #[.int .u64 f, .int .u64 l, .int .u64 r]] w fun e w' => e = .returned (.bool true) ∧ Below w.heap.size w w')
    (h1 : ∀ w, Calls Try.prog 23 #[.agg #[.int .u64 f, .int .u64 l, .int .u64 r], .int .u64 t] w fun e w' => e = .returned (.int .u64 a) ∧ Below w.heap.size w w')
    (h2 : ∀ w, Calls Try.prog 23 #[.agg #[.int .u64 f, .int .u64 l, .int .u64 r], .int .u64 (t + m)] w fun e w' => e = .returned (.int .u64 b) ∧ Below w.heap.size w w')
    (h3 : ∀ w, Calls Try.prog 23 #[.agg #[.int .u64 f, .int .u64 l, .int .u64 r], .int .u64 0] w fun e w' => e = .returned (.int .u64 0) ∧ Below w.heap.size w w')
    (h4 : ∀ w, Calls Try.prog 21 #[.agg #[.int .u64 f, .int .u64 l, .int .u64 r]] w fun e w' => e = .returned (.int .u64 s) ∧ Below w.heap.size w w')
    (h5 : ∀ w, Calls Try.prog 28 #[.int .u64 s, .int .u64 m] w fun e w' => e = .returned (.int .u64 g) ∧ Below w.heap.size w w')
    (h6 : ∀ w, Calls Try.prog 23 #[.agg #[.int .u64 f, .int .u64 l, .int .u64 r], .int .u64 (t + 1)] w fun e w' => e = .returned (.int .u64 d) ∧ Below w.heap.size w w')
    (ht : decide (4611686018427387904 ≤ t) = false)
    (hm : decide (4611686018427387904 ≤ m) = false)
    (hw1 : IntKind.u64.wrap (t + m) = t + m)
    (p1 : decide (b < a) = false)
    (p2 : decide (4611686018427387904 < b) = false)
    (hw2 : IntKind.u64.wrap (b - a) = b - a)
    (p3 : decide (g < b - a) = false)
    (hw4 : IntKind.u64.wrap (t + 1) = t + 1)
    (hw3 : IntKind.u64.wrap (d - a) = o)
    (p4 : decide (o ≤ s) = true)
    (hw5 : IntKind.u64.wrap (4611686018427387904 - s) = 4611686018427387904 - s)
    (q1 : decide (4611686018427387904 - s ≤ a) = false)
    (q2 : (o == f) = true) :
    Calls Try.prog 6 #[.agg #[.int .u64 f, .int .u64 l, .int .u64 r], .int .u64 t, .int .u64 m] w fun e w' => e = .returned (.bool true) ∧ Below w.heap.size w w' := by
  have BC := Box.new w 24 #[.int .u64 f, .int .u64 l, .int .u64 r]
  have T := up1 w (.cells #[.int .u64 f, .int .u64 l, .int .u64 r] 24)
  go_enter Try.func6, Try.ntmps6
  go_upto_region 5 with (first
    | (go_at_call 27; (with_reducible refine (hA _).mono ?_); rintro e w1 ⟨rfl, hb⟩; replace BC := BC.below hb; replace T := up T hb T.size; obtain ⟨c0, c1, c2, c3⟩ := BC.tri; clear hb)
    | (go_at_call 14; (with_reducible refine (hM _).mono ?_); rintro e w2 ⟨rfl, hb⟩; replace BC := BC.below hb; replace T := up T hb T.size; obtain ⟨c0, c1, c2, c3⟩ := BC.tri; clear hb))
  obtain ⟨c0, c1, c2, c3⟩ := BC.tri
  have E := Below.refl w2.heap.size w2
  go_region_held3 (fun w' => w'.cell? ⟨w.heap.size, 0, none⟩ = some (.int .u64 f) ∧ w'.cell? ⟨w.heap.size, 1, none⟩ = some (.int .u64 l) ∧ w'.cell? ⟨w.heap.size, 2, none⟩ = some (.int .u64 r))
    (first | exact ⟨c1, c2, c3⟩ | exact (BC.below E).tri.2)
    (first
      | (go_at_call 23; (with_reducible refine (h1 _).mono ?_); rintro e w3 ⟨rfl, hb⟩; (first | replace hb := undrew hb | skip); replace E := up E hb E.size; clear hb)
      | (go_at_call 23; (with_reducible refine (h2 _).mono ?_); rintro e w4 ⟨rfl, hb⟩; (first | replace hb := undrew hb | skip); replace E := up E hb E.size; clear hb))
  replace BC := BC.below E
  replace T := up T E T.size
  clear E c0 c1 c2 c3
  obtain ⟨c0, c1, c2, c3⟩ := BC.tri
  go_wp2_with (first
    | (go_at_call 23; (with_reducible refine (h3 _).mono ?_); rintro e w5 ⟨rfl, hb⟩; replace BC := BC.below hb; replace T := up T hb T.size; obtain ⟨c0, c1, c2, c3⟩ := BC.tri; clear hb)
    | (go_at_call 21; (with_reducible refine (h4 _).mono ?_); rintro e w6 ⟨rfl, hb⟩; replace BC := BC.below hb; replace T := up T hb T.size; obtain ⟨c0, c1, c2, c3⟩ := BC.tri; clear hb)
    | (go_at_call 28; (with_reducible refine (h5 _).mono ?_); rintro e w7 ⟨rfl, hb⟩; replace BC := BC.below hb; replace T := up T hb T.size; obtain ⟨c0, c1, c2, c3⟩ := BC.tri; clear hb)
    | (go_at_call 23; (with_reducible refine (h6 _).mono ?_); rintro e w8 ⟨rfl, hb⟩; replace BC := BC.below hb; replace T := up T hb T.size; obtain ⟨c0, c1, c2, c3⟩ := BC.tri; clear hb))
  go_ret
  exact ⟨by simp [*], T⟩
set_option maxRecDepth 100000 in
set_option maxHeartbeats 2000000 in
theorem grow_3 (f l r t m a b d o s g : Int) (w : World)
    (hA : ∀ w, Calls Try.prog 27 #[] w fun e w' => e = .returned (.bool true) ∧ Below w.heap.size w w')
    (hM : ∀ w, Calls Try.prog 14 #[.agg #[.int .u64 f, .int .u64 l, .int .u64 r]] w fun e w' => e = .returned (.bool true) ∧ Below w.heap.size w w')
    (h1 : ∀ w, Calls Try.prog 23 #[.agg #[.int .u64 f, .int .u64 l, .int .u64 r], .int .u64 t] w fun e w' => e = .returned (.int .u64 a) ∧ Below w.heap.size w w')
    (h2 : ∀ w, Calls Try.prog 23 #[.agg #[.int .u64 f, .int .u64 l, .int .u64 r], .int .u64 (t + m)] w fun e w' => e = .returned (.int .u64 b) ∧ Below w.heap.size w w')
    (h3 : ∀ w, Calls Try.prog 23 #[.agg #[.int .u64 f, .int .u64 l, .int .u64 r], .int .u64 0] w fun e w' => e = .returned (.int .u64 0) ∧ Below w.heap.size w w')
    (h4 : ∀ w, Calls Try.prog 21 #[.agg #[.int .u64 f, .int .u64 l, .int .u64 r]] w fun e w' => e = .returned (.int .u64 s) ∧ Below w.heap.size w w')
    (h5 : ∀ w, Calls Try.prog 28 #[.int .u64 s, .int .u64 m] w fun e w' => e = .returned (.int .u64 g) ∧ Below w.heap.size w w')
    (h6 : ∀ w, Calls Try.prog 23 #[.agg #[.int .u64 f, .int .u64 l, .int .u64 r], .int .u64 (t + 1)] w fun e w' => e = .returned (.int .u64 d) ∧ Below w.heap.size w w')
    (ht : decide (4611686018427387904 ≤ t) = false)
    (hm : decide (4611686018427387904 ≤ m) = false)
    (hw1 : IntKind.u64.wrap (t + m) = t + m)
    (p1 : decide (b < a) = false)
    (p2 : decide (4611686018427387904 < b) = false)
    (hw2 : IntKind.u64.wrap (b - a) = b - a)
    (p3 : decide (g < b - a) = false)
    (hw4 : IntKind.u64.wrap (t + 1) = t + 1)
    (hw3 : IntKind.u64.wrap (d - a) = o)
    (p4 : decide (o ≤ s) = true)
    (hw5 : IntKind.u64.wrap (4611686018427387904 - s) = 4611686018427387904 - s)
    (q1 : decide (4611686018427387904 - s ≤ a) = false)
    (q2 : (o == f) = false)
    (q3 : (o == r) = true) :
    Calls Try.prog 6 #[.agg #[.int .u64 f, .int .u64 l, .int .u64 r], .int .u64 t, .int .u64 m] w fun e w' => e = .returned (.bool true) ∧ Below w.heap.size w w' := by
  have BC := Box.new w 24 #[.int .u64 f, .int .u64 l, .int .u64 r]
  have T := up1 w (.cells #[.int .u64 f, .int .u64 l, .int .u64 r] 24)
  go_enter Try.func6, Try.ntmps6
  go_upto_region 5 with (first
    | (go_at_call 27; (with_reducible refine (hA _).mono ?_); rintro e w1 ⟨rfl, hb⟩; replace BC := BC.below hb; replace T := up T hb T.size; obtain ⟨c0, c1, c2, c3⟩ := BC.tri; clear hb)
    | (go_at_call 14; (with_reducible refine (hM _).mono ?_); rintro e w2 ⟨rfl, hb⟩; replace BC := BC.below hb; replace T := up T hb T.size; obtain ⟨c0, c1, c2, c3⟩ := BC.tri; clear hb))
  obtain ⟨c0, c1, c2, c3⟩ := BC.tri
  have E := Below.refl w2.heap.size w2
  go_region_held3 (fun w' => w'.cell? ⟨w.heap.size, 0, none⟩ = some (.int .u64 f) ∧ w'.cell? ⟨w.heap.size, 1, none⟩ = some (.int .u64 l) ∧ w'.cell? ⟨w.heap.size, 2, none⟩ = some (.int .u64 r))
    (first | exact ⟨c1, c2, c3⟩ | exact (BC.below E).tri.2)
    (first
      | (go_at_call 23; (with_reducible refine (h1 _).mono ?_); rintro e w3 ⟨rfl, hb⟩; (first | replace hb := undrew hb | skip); replace E := up E hb E.size; clear hb)
      | (go_at_call 23; (with_reducible refine (h2 _).mono ?_); rintro e w4 ⟨rfl, hb⟩; (first | replace hb := undrew hb | skip); replace E := up E hb E.size; clear hb))
  replace BC := BC.below E
  replace T := up T E T.size
  clear E c0 c1 c2 c3
  obtain ⟨c0, c1, c2, c3⟩ := BC.tri
  go_wp2_with (first
    | (go_at_call 23; (with_reducible refine (h3 _).mono ?_); rintro e w5 ⟨rfl, hb⟩; replace BC := BC.below hb; replace T := up T hb T.size; obtain ⟨c0, c1, c2, c3⟩ := BC.tri; clear hb)
    | (go_at_call 21; (with_reducible refine (h4 _).mono ?_); rintro e w6 ⟨rfl, hb⟩; replace BC := BC.below hb; replace T := up T hb T.size; obtain ⟨c0, c1, c2, c3⟩ := BC.tri; clear hb)
    | (go_at_call 28; (with_reducible refine (h5 _).mono ?_); rintro e w7 ⟨rfl, hb⟩; replace BC := BC.below hb; replace T := up T hb T.size; obtain ⟨c0, c1, c2, c3⟩ := BC.tri; clear hb)
    | (go_at_call 23; (with_reducible refine (h6 _).mono ?_); rintro e w8 ⟨rfl, hb⟩; replace BC := BC.below hb; replace T := up T hb T.size; obtain ⟨c0, c1, c2, c3⟩ := BC.tri; clear hb))
  go_ret
  exact ⟨by simp [*], T⟩
theorem CurveGrows_walk (f l r t m : Int) (hf : Word f) (hl : Word l) (hr : Word r) (ht : Word t) (hm : Word m) (w : World) :
    Calls Try.prog 6 #[.agg #[.int .u64 f, .int .u64 l, .int .u64 r], .int .u64 t, .int .u64 m] w fun e w' => e = .returned (.bool true) ∧ Below w.heap.size w w' := by
  have hM := fun w => may_any f l r w hf hl hr
  by_cases h : mayB f l r = true
  · have hc := mayB_iff.1 h
    rw [h] at hM
    by_cases h1 : 4611686018427387904 ≤ t
    · exact grow_far f l r t m w awake_any hM (by simpa using h1)
    · by_cases h2 : 4611686018427387904 ≤ m
      · exact grow_far2 f l r t m w awake_any hM (by simpa using h1) (by simpa using h2)
      · have g1 := cAt_grow (F := f) (L := l) (R := r) hf.1 hr.1 hl.1 ht.1 hm.1
        have g2 := cAt_one (F := f) (L := l) (R := r) hf.1 hr.1 hl.1 ht.1
        have g3 := cAt_mono (F := f) (L := l) (R := r) hf.1 hr.1 ht.1 (show t ≤ t + 1 by omega)
        have n1 := cAt_nn (F := f) (L := l) (R := r) hf.1 hr.1 hl.1 ht.1
        have c1 := cAt_le f l r (t + m)
        have c2 := cAt_le f l r (t + 1)
        have s0 := cSt_nn (F := f) (L := l) hr.1
        have s1 : cSt f l r ≤ 1048576 := by obtain ⟨k1, k2, _⟩ := hc; unfold cSt; split <;> omega
        unfold Word at ht hm
        have hA := fun w => At_any f l r t w hf hl hr ht
        have hB := fun w => At_any f l r (t + m) w hf hl hr ⟨by omega, by omega⟩
        have hD := fun w => At_any f l r (t + 1) w hf hl hr ⟨by omega, by omega⟩
        have hZ := fun w => At_any f l r 0 w hf hl hr ⟨by omega, by omega⟩
        rw [cAt_zero hl.1] at hZ
        have hS := fun w => Steepest_any f l r w hf hl hr
        have hT := fun w => rTimes'_any (cSt f l r) m w ⟨s0, by omega⟩ hm
        have hk : ∀ k, cAt f l r (t + 1) - cAt f l r t = k → IntKind.u64.wrap (cAt f l r (t + 1) - cAt f l r t) = k := fun k e => by rw [← e]; exact IntWalk.u64_in _ (by omega)
        have q1 : decide (4611686018427387904 ≤ t) = false := by simpa using h1
        have q2 : decide (4611686018427387904 ≤ m) = false := by simpa using h2
        by_cases k1 : 4611686018427387904 - cSt f l r ≤ cAt f l r t
        · exact grow_1 f l r t m _ _ _ _ _ _ w awake_any hM hA hB hZ hS hT hD q1 q2 (IntWalk.u64_in _ (by omega)) (by simp; omega) (by simp; omega) (IntWalk.u64_in _ (by omega)) (by unfold rT; simp; omega) (IntWalk.u64_in _ (by omega)) (hk _ rfl) (by simp; omega) (IntWalk.u64_in _ (by omega)) (by simpa using k1)
        · by_cases k2 : cAt f l r (t + 1) - cAt f l r t = f
          · exact grow_2 f l r t m _ _ _ _ _ _ w awake_any hM hA hB hZ hS hT hD q1 q2 (IntWalk.u64_in _ (by omega)) (by simp; omega) (by simp; omega) (IntWalk.u64_in _ (by omega)) (by unfold rT; simp; omega) (IntWalk.u64_in _ (by omega)) (hk _ rfl) (by simp; omega) (IntWalk.u64_in _ (by omega)) (by simpa using k1) (by simpa using k2)
          · exact grow_3 f l r t m _ _ _ _ _ _ w awake_any hM hA hB hZ hS hT hD q1 q2 (IntWalk.u64_in _ (by omega)) (by simp; omega) (by simp; omega) (IntWalk.u64_in _ (by omega)) (by unfold rT; simp; omega) (IntWalk.u64_in _ (by omega)) (hk _ rfl) (by simp; omega) (IntWalk.u64_in _ (by omega)) (by simpa using k1) (by simpa using k2) (by simp; omega)
  · rw [show mayB f l r = false by simpa using h] at hM
    exact grow_no f l r t m w awake_any hM
end Go.Proofs.Ytbgccdjkofpiaaa
