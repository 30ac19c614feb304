/- A curve by parts. No condition but that words are words. -/
import Derived.Test.YtbgccdjkofpiaaaBur
namespace Go.Proofs.Ytbgccdjkofpiaaa
open Go.RowKit W
set_option linter.unusedVariables false
set_option maxRecDepth 100000 in
set_option maxHeartbeats 2000000 in
theorem scale_no (f l r a b : Int) (w : World) (hM : ∀ w, Calls Try.prog 14 #[.agg #[.int .u64 f, .int .u64 l, .int .u64 r]] w fun e w' => e = .returned (.bool false) ∧ Below w.heap.size w w') :
    Calls Try.prog 10 #[.agg #[.int .u64 f, .int .u64 l, .int .u64 r], .int .u64 a, .int .u64 b] w fun e w' => e = .returned (.tuple #[.agg #[.int .u64 0, .int .u64 0, .int .u64 0], .int .i64 30]) ∧ Below w.heap.size w w' := by
  have T := up2 w (.cells #[.int .u64 f, .int .u64 l, .int .u64 r] 24) (.cells #[.int .u64 0, .int .u64 0, .int .u64 0] 24)
  have BC := (Box.new w 24 #[.int .u64 f, .int .u64 l, .int .u64 r]).alloc (.cells #[.int .u64 0, .int .u64 0, .int .u64 0] 24)
  have BR := Box.new (w.alloc (.cells #[.int .u64 f, .int .u64 l, .int .u64 r] 24)) 24 #[.int .u64 0, .int .u64 0, .int .u64 0]
  simp only [World.size_alloc] at BR
  go_enter Try.func10, Try.ntmps10
  go_wp2_with (first
    | (go_at_call 14; (with_reducible refine (hM _).mono ?_); rintro e w1 ⟨rfl, hb1⟩; replace BC := BC.below hb1; replace BR := BR.below hb1; replace T := up T hb1 (by have := T.size; simp at this ⊢; omega); obtain ⟨c0, c1, c2, c3⟩ := BC.tri; obtain ⟨r0, r1, r2, r3⟩ := BR.tri; have g0 := BR.frz 0; have g1 := BR.frz 1; have g2 := BR.frz 2; clear hb1))
  exact bodyPost_ret (v := .tuple #[.agg #[.int .u64 0, .int .u64 0, .int .u64 0], .int .i64 30]) (by simp [results, Try.results10, go_sem, r1, r2, r3]) rfl ⟨rfl, ((T.setCell (by simp) _).setCell (by simp) _).setCell (by simp) _⟩
set_option maxRecDepth 100000 in
set_option maxHeartbeats 2000000 in
theorem scale_b (f l r a b : Int) (w : World) (hb : (b == 0) = true)
    (hM : ∀ w, Calls Try.prog 14 #[.agg #[.int .u64 f, .int .u64 l, .int .u64 r]] w fun e w' => e = .returned (.bool true) ∧ Below w.heap.size w w') :
    Calls Try.prog 10 #[.agg #[.int .u64 f, .int .u64 l, .int .u64 r], .int .u64 a, .int .u64 b] w fun e w' => e = .returned (.tuple #[.agg #[.int .u64 0, .int .u64 0, .int .u64 0], .int .i64 2]) ∧ Below w.heap.size w w' := by
  have T := up2 w (.cells #[.int .u64 f, .int .u64 l, .int .u64 r] 24) (.cells #[.int .u64 0, .int .u64 0, .int .u64 0] 24)
  have BC := (Box.new w 24 #[.int .u64 f, .int .u64 l, .int .u64 r]).alloc (.cells #[.int .u64 0, .int .u64 0, .int .u64 0] 24)
  have BR := Box.new (w.alloc (.cells #[.int .u64 f, .int .u64 l, .int .u64 r] 24)) 24 #[.int .u64 0, .int .u64 0, .int .u64 0]
  simp only [World.size_alloc] at BR
  go_enter Try.func10, Try.ntmps10
  go_wp2_with (first
    | (go_at_call 14; (with_reducible refine (hM _).mono ?_); rintro e w1 ⟨rfl, hb1⟩; replace BC := BC.below hb1; replace BR := BR.below hb1; replace T := up T hb1 (by have := T.size; simp at this ⊢; omega); obtain ⟨c0, c1, c2, c3⟩ := BC.tri; obtain ⟨r0, r1, r2, r3⟩ := BR.tri; have g0 := BR.frz 0; have g1 := BR.frz 1; have g2 := BR.frz 2; clear hb1))
  exact bodyPost_ret (v := .tuple #[.agg #[.int .u64 0, .int .u64 0, .int .u64 0], .int .i64 2]) (by simp [results, Try.results10, go_sem, r1, r2, r3]) rfl ⟨rfl, ((T.setCell (by simp) _).setCell (by simp) _).setCell (by simp) _⟩
set_option maxRecDepth 100000 in
set_option maxHeartbeats 2000000 in
theorem scale_bad (f l r a b p q x y : Int) (w : World) (hb : (b == 0) = false)
    (hM : ∀ w, Calls Try.prog 14 #[.agg #[.int .u64 f, .int .u64 l, .int .u64 r]] w fun e w' => e = .returned (.bool true) ∧ Below w.heap.size w w')
    (hF : ∀ w, Calls Try.prog 29 #[.int .u64 f, .int .u64 a, .int .u64 b] w fun e w' => e = .returned (.tuple #[.int .u64 p, .int .i64 0]) ∧ Below w.heap.size w w')
    (hR : ∀ w, Calls Try.prog 29 #[.int .u64 r, .int .u64 a, .int .u64 b] w fun e w' => e = .returned (.tuple #[.int .u64 q, .int .i64 0]) ∧ Below w.heap.size w w')
    (hT : ∀ w, Calls Try.prog 31 #[.agg #[.int .u64 p, .int .u64 l, .int .u64 q]] w fun e w' => e = .returned (.agg #[.int .u64 x, .int .u64 y, .int .u64 q]) ∧ Below w.heap.size w w')
    (hN : ∀ w, Calls Try.prog 14 #[.agg #[.int .u64 x, .int .u64 y, .int .u64 q]] w fun e w' => e = .returned (.bool false) ∧ Below w.heap.size w w') :
    Calls Try.prog 10 #[.agg #[.int .u64 f, .int .u64 l, .int .u64 r], .int .u64 a, .int .u64 b] w fun e w' => e = .returned (.tuple #[.agg #[.int .u64 0, .int .u64 0, .int .u64 0], .int .i64 30]) ∧ Below w.heap.size w w' := by
  have T := up2 w (.cells #[.int .u64 f, .int .u64 l, .int .u64 r] 24) (.cells #[.int .u64 0, .int .u64 0, .int .u64 0] 24)
  have BC := (Box.new w 24 #[.int .u64 f, .int .u64 l, .int .u64 r]).alloc (.cells #[.int .u64 0, .int .u64 0, .int .u64 0] 24)
  have BR := Box.new (w.alloc (.cells #[.int .u64 f, .int .u64 l, .int .u64 r] 24)) 24 #[.int .u64 0, .int .u64 0, .int .u64 0]
  simp only [World.size_alloc] at BR
  go_enter Try.func10, Try.ntmps10
  go_wp2_with (first
    | (go_at_call 14; (with_reducible refine (hM _).mono ?_); rintro e w1 ⟨rfl, hb1⟩; replace BC := BC.below hb1; replace BR := BR.below hb1; replace T := up T hb1 (by have := T.size; simp at this ⊢; omega); obtain ⟨c0, c1, c2, c3⟩ := BC.tri; obtain ⟨r0, r1, r2, r3⟩ := BR.tri; have g0 := BR.frz 0; have g1 := BR.frz 1; have g2 := BR.frz 2; clear hb1)
    | (go_at_call 29; (with_reducible refine (hF _).mono ?_); rintro e w2 ⟨rfl, hb2⟩; replace BC := BC.below hb2; replace BR := BR.below hb2; replace T := up T hb2 (by have := T.size; simp at this ⊢; omega); obtain ⟨c0, c1, c2, c3⟩ := BC.tri; obtain ⟨r0, r1, r2, r3⟩ := BR.tri; have g0 := BR.frz 0; have g1 := BR.frz 1; have g2 := BR.frz 2; clear hb2)
    | (go_at_call 29; (with_reducible refine (hR _).mono ?_); rintro e w3 ⟨rfl, hb3⟩; replace BC := BC.below hb3; replace BR := BR.below hb3; replace T := up T hb3 (by have := T.size; simp at this ⊢; omega); obtain ⟨c0, c1, c2, c3⟩ := BC.tri; obtain ⟨r0, r1, r2, r3⟩ := BR.tri; have g0 := BR.frz 0; have g1 := BR.frz 1; have g2 := BR.frz 2; clear hb3)
    | (go_at_call 31; (with_reducible refine (hT _).mono ?_); rintro e w4 ⟨rfl, hb4⟩; replace BC := BC.below hb4; replace BR := BR.below hb4; replace T := up T hb4 (by have := T.size; simp at this ⊢; omega); obtain ⟨c0, c1, c2, c3⟩ := BC.tri; obtain ⟨r0, r1, r2, r3⟩ := BR.tri; have g0 := BR.frz 0; have g1 := BR.frz 1; have g2 := BR.frz 2; clear hb4)
    | (go_at_call 14; (with_reducible refine (hN _).mono ?_); rintro e w5 ⟨rfl, hb5⟩; replace BC := BC.alloc (.cells #[.int .u64 x, .int .u64 y, .int .u64 q] 24); replace BR := BR.alloc (.cells #[.int .u64 x, .int .u64 y, .int .u64 q] 24); replace T := T.alloc T.size (.cells #[.int .u64 x, .int .u64 y, .int .u64 q] 24); have BS := (Box.new w4 24 #[.int .u64 x, .int .u64 y, .int .u64 q]).below hb5; obtain ⟨s0, s1, s2, s3⟩ := BS.tri; replace BC := BC.below hb5; replace BR := BR.below hb5; replace T := up T hb5 (by have := T.size; simp at this ⊢; omega); obtain ⟨c0, c1, c2, c3⟩ := BC.tri; obtain ⟨r0, r1, r2, r3⟩ := BR.tri; have g0 := BR.frz 0; have g1 := BR.frz 1; have g2 := BR.frz 2; clear hb5))
  exact bodyPost_ret (v := .tuple #[.agg #[.int .u64 0, .int .u64 0, .int .u64 0], .int .i64 30]) (by simp [results, Try.results10, go_sem, r1, r2, r3]) rfl ⟨rfl, ((T.setCell (by simp) _).setCell (by simp) _).setCell (by simp) _⟩
set_option maxRecDepth 100000 in
set_option maxHeartbeats 2000000 in
theorem scale_ok (f l r a b p q x y : Int) (w : World) (hb : (b == 0) = false)
    (hM : ∀ w, Calls Try.prog 14 #[.agg #[.int .u64 f, .int .u64 l, .int .u64 r]] w fun e w' => e = .returned (.bool true) ∧ Below w.heap.size w w')
    (hF : ∀ w, Calls Try.prog 29 #[.int .u64 f, .int .u64 a, .int .u64 b] w fun e w' => e = .returned (.tuple #[.int .u64 p, .int .i64 0]) ∧ Below w.heap.size w w')
    (hR : ∀ w, Calls Try.prog 29 #[.int .u64 r, .int .u64 a, .int .u64 b] w fun e w' => e = .returned (.tuple #[.int .u64 q, .int .i64 0]) ∧ Below w.heap.size w w')
    (hT : ∀ w, Calls Try.prog 31 #[.agg #[.int .u64 p, .int .u64 l, .int .u64 q]] w fun e w' => e = .returned (.agg #[.int .u64 x, .int .u64 y, .int .u64 q]) ∧ Below w.heap.size w w')
    (hN : ∀ w, Calls Try.prog 14 #[.agg #[.int .u64 x, .int .u64 y, .int .u64 q]] w fun e w' => e = .returned (.bool true) ∧ Below w.heap.size w w') :
    Calls Try.prog 10 #[.agg #[.int .u64 f, .int .u64 l, .int .u64 r], .int .u64 a, .int .u64 b] w fun e w' => e = .returned (.tuple #[.agg #[.int .u64 x, .int .u64 y, .int .u64 q], .int .i64 0]) ∧ Below w.heap.size w w' := by
  have T := up2 w (.cells #[.int .u64 f, .int .u64 l, .int .u64 r] 24) (.cells #[.int .u64 0, .int .u64 0, .int .u64 0] 24)
  have BC := (Box.new w 24 #[.int .u64 f, .int .u64 l, .int .u64 r]).alloc (.cells #[.int .u64 0, .int .u64 0, .int .u64 0] 24)
  have BR := Box.new (w.alloc (.cells #[.int .u64 f, .int .u64 l, .int .u64 r] 24)) 24 #[.int .u64 0, .int .u64 0, .int .u64 0]
  simp only [World.size_alloc] at BR
  go_enter Try.func10, Try.ntmps10
  go_wp2_with (first
    | (go_at_call 14; (with_reducible refine (hM _).mono ?_); rintro e w1 ⟨rfl, hb1⟩; replace BC := BC.below hb1; replace BR := BR.below hb1; replace T := up T hb1 (by have := T.size; simp at this ⊢; omega); obtain ⟨c0, c1, c2, c3⟩ := BC.tri; obtain ⟨r0, r1, r2, r3⟩ := BR.tri; have g0 := BR.frz 0; have g1 := BR.frz 1; have g2 := BR.frz 2; clear hb1)
    | (go_at_call 29; (with_reducible refine (hF _).mono ?_); rintro e w2 ⟨rfl, hb2⟩; replace BC := BC.below hb2; replace BR := BR.below hb2; replace T := up T hb2 (by have := T.size; simp at this ⊢; omega); obtain ⟨c0, c1, c2, c3⟩ := BC.tri; obtain ⟨r0, r1, r2, r3⟩ := BR.tri; have g0 := BR.frz 0; have g1 := BR.frz 1; have g2 := BR.frz 2; clear hb2)
    | (go_at_call 29; (with_reducible refine (hR _).mono ?_); rintro e w3 ⟨rfl, hb3⟩; replace BC := BC.below hb3; replace BR := BR.below hb3; replace T := up T hb3 (by have := T.size; simp at this ⊢; omega); obtain ⟨c0, c1, c2, c3⟩ := BC.tri; obtain ⟨r0, r1, r2, r3⟩ := BR.tri; have g0 := BR.frz 0; have g1 := BR.frz 1; have g2 := BR.frz 2; clear hb3)
    | (go_at_call 31; (with_reducible refine (hT _).mono ?_); rintro e w4 ⟨rfl, hb4⟩; replace BC := BC.below hb4; replace BR := BR.below hb4; replace T := up T hb4 (by have := T.size; simp at this ⊢; omega); obtain ⟨c0, c1, c2, c3⟩ := BC.tri; obtain ⟨r0, r1, r2, r3⟩ := BR.tri; have g0 := BR.frz 0; have g1 := BR.frz 1; have g2 := BR.frz 2; clear hb4)
    | (go_at_call 14; (with_reducible refine (hN _).mono ?_); rintro e w5 ⟨rfl, hb5⟩; replace BC := BC.alloc (.cells #[.int .u64 x, .int .u64 y, .int .u64 q] 24); replace BR := BR.alloc (.cells #[.int .u64 x, .int .u64 y, .int .u64 q] 24); replace T := T.alloc T.size (.cells #[.int .u64 x, .int .u64 y, .int .u64 q] 24); have BS := (Box.new w4 24 #[.int .u64 x, .int .u64 y, .int .u64 q]).below hb5; obtain ⟨s0, s1, s2, s3⟩ := BS.tri; replace BC := BC.below hb5; replace BR := BR.below hb5; replace T := up T hb5 (by have := T.size; simp at this ⊢; omega); obtain ⟨c0, c1, c2, c3⟩ := BC.tri; obtain ⟨r0, r1, r2, r3⟩ := BR.tri; have g0 := BR.frz 0; have g1 := BR.frz 1; have g2 := BR.frz 2; clear hb5))
  exact bodyPost_ret (v := .tuple #[.agg #[.int .u64 x, .int .u64 y, .int .u64 q], .int .i64 0]) (by simp [results, Try.results10, go_sem, r1, r2, r3]) rfl ⟨rfl, ((T.setCell (by simp) _).setCell (by simp) _).setCell (by simp) _⟩
end Go.Proofs.Ytbgccdjkofpiaaa
