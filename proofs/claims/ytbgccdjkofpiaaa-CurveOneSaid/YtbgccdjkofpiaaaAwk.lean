/- The chapter's examples hold. No condition. -/
import Derived.Test.YtbgccdjkofpiaaaScN
namespace Go.Proofs.Ytbgccdjkofpiaaa
open Go.RowKit W
set_option linter.unusedVariables false
theorem wn (n : Int) (h : 0 ≤ n ∧ n < 18446744073709551616) : Word n := h
set_option maxRecDepth 100000 in
set_option maxHeartbeats 4000000 in
theorem awake_any (w : World) : Calls Try.prog 27 #[] w fun e w' => e = .returned (.bool true) ∧ Below w.heap.size w w' := by
  have BC := (Box.new w 24 #[.int .u64 3, .int .u64 10, .int .u64 1]).alloc (.cells #[.int .u64 2, .int .u64 5, .int .u64 0] 24)
  have BD := Box.new (w.alloc (.cells #[.int .u64 3, .int .u64 10, .int .u64 1] 24)) 24 #[.int .u64 2, .int .u64 5, .int .u64 0]
  simp only [World.size_alloc] at BD
  have T := up2 w (.cells #[.int .u64 3, .int .u64 10, .int .u64 1] 24) (.cells #[.int .u64 2, .int .u64 5, .int .u64 0] 24)
  have h0 : ∀ w, Calls Try.prog 14 #[.agg #[.int .u64 3, .int .u64 10, .int .u64 1]] w fun e w' => e = .returned (.bool true) ∧ Below w.heap.size w w' := fun w => by
    have := may_any 3 10 1 w ⟨by omega, by omega⟩ ⟨by omega, by omega⟩ ⟨by omega, by omega⟩
    rwa [show mayB 3 10 1 = true by decide] at this
  have h1 : ∀ w, Calls Try.prog 18 #[.agg #[.int .u64 3, .int .u64 10, .int .u64 1]] w fun e w' => e = .returned (.bool true) ∧ Below w.heap.size w w' := fun w => by
    have := bent_any 3 10 1 w
    rwa [show decide ((1 : Int) < 3) = true by decide] at this
  have h2 : ∀ w, Calls Try.prog 23 #[.agg #[.int .u64 3, .int .u64 10, .int .u64 1], .int .u64 4] w fun e w' => e = .returned (.int .u64 12) ∧ Below w.heap.size w w' := fun w => by
    have := At_any 3 10 1 4 w ⟨by omega, by omega⟩ ⟨by omega, by omega⟩ ⟨by omega, by omega⟩ ⟨by omega, by omega⟩
    rwa [show cAt 3 10 1 4 = 12 by decide] at this
  have h3 : ∀ w, Calls Try.prog 23 #[.agg #[.int .u64 3, .int .u64 10, .int .u64 1], .int .u64 12] w fun e w' => e = .returned (.int .u64 32) ∧ Below w.heap.size w w' := fun w => by
    have := At_any 3 10 1 12 w ⟨by omega, by omega⟩ ⟨by omega, by omega⟩ ⟨by omega, by omega⟩ ⟨by omega, by omega⟩
    rwa [show cAt 3 10 1 12 = 32 by decide] at this
  have h4 : ∀ w, Calls Try.prog 25 #[.agg #[.int .u64 3, .int .u64 10, .int .u64 1], .int .u64 12] w fun e w' => e = .returned (.int .u64 4) ∧ Below w.heap.size w w' := fun w => Reach_is 3 10 1 12 4 w ⟨by omega, by omega⟩ ⟨by omega, by omega⟩ ⟨by omega, by omega⟩ ⟨by omega, by omega⟩ ⟨by decide, by decide, by decide, .inr ⟨by decide, by decide⟩⟩ (.inr ⟨by decide, by decide, by decide, .inr (by decide)⟩)
  have h5 : ∀ w, Calls Try.prog 25 #[.agg #[.int .u64 3, .int .u64 10, .int .u64 1], .int .u64 13] w fun e w' => e = .returned (.int .u64 5) ∧ Below w.heap.size w w' := fun w => Reach_is 3 10 1 13 5 w ⟨by omega, by omega⟩ ⟨by omega, by omega⟩ ⟨by omega, by omega⟩ ⟨by omega, by omega⟩ ⟨by decide, by decide, by decide, .inr ⟨by decide, by decide⟩⟩ (.inr ⟨by decide, by decide, by decide, .inr (by decide)⟩)
  have h6 : ∀ w, Calls Try.prog 25 #[.agg #[.int .u64 3, .int .u64 10, .int .u64 1], .int .u64 32] w fun e w' => e = .returned (.int .u64 12) ∧ Below w.heap.size w w' := fun w => Reach_is 3 10 1 32 12 w ⟨by omega, by omega⟩ ⟨by omega, by omega⟩ ⟨by omega, by omega⟩ ⟨by omega, by omega⟩ ⟨by decide, by decide, by decide, .inr ⟨by decide, by decide⟩⟩ (.inr ⟨by decide, by decide, by decide, .inr (by decide)⟩)
  have h7 : ∀ w, Calls Try.prog 25 #[.agg #[.int .u64 2, .int .u64 5, .int .u64 0], .int .u64 10] w fun e w' => e = .returned (.int .u64 5) ∧ Below w.heap.size w w' := fun w => Reach_is 2 5 0 10 5 w ⟨by omega, by omega⟩ ⟨by omega, by omega⟩ ⟨by omega, by omega⟩ ⟨by omega, by omega⟩ ⟨by decide, by decide, by decide, .inr ⟨by decide, by decide⟩⟩ (.inr ⟨by decide, by decide, by decide, .inr (by decide)⟩)
  have h8 : ∀ w, Calls Try.prog 25 #[.agg #[.int .u64 2, .int .u64 5, .int .u64 0], .int .u64 11] w fun e w' => e = .returned (.int .u64 9223372036854775808) ∧ Below w.heap.size w w' := fun w => Reach_is 2 5 0 11 9223372036854775808 w ⟨by omega, by omega⟩ ⟨by omega, by omega⟩ ⟨by omega, by omega⟩ ⟨by omega, by omega⟩ ⟨by decide, by decide, by decide, .inr ⟨by decide, by decide⟩⟩ (.inl ⟨rfl, by decide⟩)
  have h9 : ∀ w, Calls Try.prog 14 #[.agg #[.int .u64 1, .int .u64 0, .int .u64 0]] w fun e w' => e = .returned (.bool false) ∧ Below w.heap.size w w' := fun w => by
    have := may_any 1 0 0 w ⟨by omega, by omega⟩ ⟨by omega, by omega⟩ ⟨by omega, by omega⟩
    rwa [show mayB 1 0 0 = false by decide] at this
  have h10 : ∀ w, Calls Try.prog 14 #[.agg #[.int .u64 2, .int .u64 4, .int .u64 2]] w fun e w' => e = .returned (.bool false) ∧ Below w.heap.size w w' := fun w => by
    have := may_any 2 4 2 w ⟨by omega, by omega⟩ ⟨by omega, by omega⟩ ⟨by omega, by omega⟩
    rwa [show mayB 2 4 2 = false by decide] at this
  have h11 : ∀ w, Calls Try.prog 14 #[.agg #[.int .u64 0, .int .u64 0, .int .u64 0]] w fun e w' => e = .returned (.bool true) ∧ Below w.heap.size w w' := fun w => by
    have := may_any 0 0 0 w ⟨by omega, by omega⟩ ⟨by omega, by omega⟩ ⟨by omega, by omega⟩
    rwa [show mayB 0 0 0 = true by decide] at this
  have h12 : ∀ w, Calls Try.prog 16 #[.agg #[.int .u64 0, .int .u64 0, .int .u64 0]] w fun e w' => e = .returned (.bool true) ∧ Below w.heap.size w w' := fun w => by
    have := none_any 0 0 0 w
    rwa [show decide ((0 : Int) = 0 ∧ (0 : Int) = 0 ∧ (0 : Int) = 0) = true by decide] at this
  have h13 : ∀ w, Calls Try.prog 20 #[.agg #[.int .u64 0, .int .u64 0, .int .u64 2]] w fun e w' => e = .returned (.bool true) ∧ Below w.heap.size w w' := fun w => by
    have := straight_any 0 0 2 w
    rwa [show ((0 : Int) == 0) = true by decide] at this
  go_enter Try.func27, Try.ntmps27
  go_wp2_with (first
    | (go_at_call 14; (with_reducible refine (h0 _).mono ?_); rintro e w0 ⟨rfl, hb⟩; replace BC := BC.below hb; replace BD := BD.below hb; replace T := up T hb (by have := T.size; simp at this ⊢; omega); obtain ⟨c0, c1, c2, c3⟩ := BC.tri; obtain ⟨d0, d1, d2, d3⟩ := BD.tri; clear hb h0)
    | (go_at_call 18; (with_reducible refine (h1 _).mono ?_); rintro e w1 ⟨rfl, hb⟩; replace BC := BC.below hb; replace BD := BD.below hb; replace T := up T hb (by have := T.size; simp at this ⊢; omega); obtain ⟨c0, c1, c2, c3⟩ := BC.tri; obtain ⟨d0, d1, d2, d3⟩ := BD.tri; clear hb h1)
    | (go_at_call 23; (with_reducible refine (h2 _).mono ?_); rintro e w2 ⟨rfl, hb⟩; replace BC := BC.below hb; replace BD := BD.below hb; replace T := up T hb (by have := T.size; simp at this ⊢; omega); obtain ⟨c0, c1, c2, c3⟩ := BC.tri; obtain ⟨d0, d1, d2, d3⟩ := BD.tri; clear hb h2)
    | (go_at_call 23; (with_reducible refine (h3 _).mono ?_); rintro e w3 ⟨rfl, hb⟩; replace BC := BC.below hb; replace BD := BD.below hb; replace T := up T hb (by have := T.size; simp at this ⊢; omega); obtain ⟨c0, c1, c2, c3⟩ := BC.tri; obtain ⟨d0, d1, d2, d3⟩ := BD.tri; clear hb h3)
    | (go_at_call 25; (with_reducible refine (h4 _).mono ?_); rintro e w4 ⟨rfl, hb⟩; replace BC := BC.below hb; replace BD := BD.below hb; replace T := up T hb (by have := T.size; simp at this ⊢; omega); obtain ⟨c0, c1, c2, c3⟩ := BC.tri; obtain ⟨d0, d1, d2, d3⟩ := BD.tri; clear hb h4)
    | (go_at_call 25; (with_reducible refine (h5 _).mono ?_); rintro e w5 ⟨rfl, hb⟩; replace BC := BC.below hb; replace BD := BD.below hb; replace T := up T hb (by have := T.size; simp at this ⊢; omega); obtain ⟨c0, c1, c2, c3⟩ := BC.tri; obtain ⟨d0, d1, d2, d3⟩ := BD.tri; clear hb h5)
    | (go_at_call 25; (with_reducible refine (h6 _).mono ?_); rintro e w6 ⟨rfl, hb⟩; replace BC := BC.below hb; replace BD := BD.below hb; replace T := up T hb (by have := T.size; simp at this ⊢; omega); obtain ⟨c0, c1, c2, c3⟩ := BC.tri; obtain ⟨d0, d1, d2, d3⟩ := BD.tri; clear hb h6)
    | (go_at_call 25; (with_reducible refine (h7 _).mono ?_); rintro e w7 ⟨rfl, hb⟩; replace BC := BC.below hb; replace BD := BD.below hb; replace T := up T hb (by have := T.size; simp at this ⊢; omega); obtain ⟨c0, c1, c2, c3⟩ := BC.tri; obtain ⟨d0, d1, d2, d3⟩ := BD.tri; clear hb h7)
    | (go_at_call 25; (with_reducible refine (h8 _).mono ?_); rintro e w8 ⟨rfl, hb⟩; replace BC := BC.below hb; replace BD := BD.below hb; replace T := up T hb (by have := T.size; simp at this ⊢; omega); obtain ⟨c0, c1, c2, c3⟩ := BC.tri; obtain ⟨d0, d1, d2, d3⟩ := BD.tri; clear hb h8)
    | (go_at_call 14; (with_reducible refine (h9 _).mono ?_); rintro e w9 ⟨rfl, hb⟩; replace BC := BC.below hb; replace BD := BD.below hb; replace T := up T hb (by have := T.size; simp at this ⊢; omega); obtain ⟨c0, c1, c2, c3⟩ := BC.tri; obtain ⟨d0, d1, d2, d3⟩ := BD.tri; clear hb h9)
    | (go_at_call 14; (with_reducible refine (h10 _).mono ?_); rintro e w10 ⟨rfl, hb⟩; replace BC := BC.below hb; replace BD := BD.below hb; replace T := up T hb (by have := T.size; simp at this ⊢; omega); obtain ⟨c0, c1, c2, c3⟩ := BC.tri; obtain ⟨d0, d1, d2, d3⟩ := BD.tri; clear hb h10)
    | (go_at_call 14; (with_reducible refine (h11 _).mono ?_); rintro e w11 ⟨rfl, hb⟩; replace BC := BC.below hb; replace BD := BD.below hb; replace T := up T hb (by have := T.size; simp at this ⊢; omega); obtain ⟨c0, c1, c2, c3⟩ := BC.tri; obtain ⟨d0, d1, d2, d3⟩ := BD.tri; clear hb h11)
    | (go_at_call 16; (with_reducible refine (h12 _).mono ?_); rintro e w12 ⟨rfl, hb⟩; replace BC := BC.below hb; replace BD := BD.below hb; replace T := up T hb (by have := T.size; simp at this ⊢; omega); obtain ⟨c0, c1, c2, c3⟩ := BC.tri; obtain ⟨d0, d1, d2, d3⟩ := BD.tri; clear hb h12)
    | (go_at_call 20; (with_reducible refine (h13 _).mono ?_); rintro e w13 ⟨rfl, hb⟩; replace BC := BC.below hb; replace BD := BD.below hb; replace T := up T hb (by have := T.size; simp at this ⊢; omega); obtain ⟨c0, c1, c2, c3⟩ := BC.tri; obtain ⟨d0, d1, d2, d3⟩ := BD.tri; clear hb h13))
  go_ret
  exact ⟨rfl, T⟩
end Go.Proofs.Ytbgccdjkofpiaaa
