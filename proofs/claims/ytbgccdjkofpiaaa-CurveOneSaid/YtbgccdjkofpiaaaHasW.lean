/- The walk of CurveHas. No condition but that words are words. -/
import Derived.Test.YtbgccdjkofpiaaaAwk
namespace Go.Proofs.Ytbgccdjkofpiaaa
open Go.RowKit W
set_option linter.unusedVariables false
set_option maxRecDepth 100000 in
set_option maxHeartbeats 2000000 in
theorem has_no (f l r t y x : Int) (w : World)
    (hM : ∀ w, Calls Try.prog 15 #[.agg #[.int .u64 f, .int .u64 l, .int .u64 r]] w fun e w' => e = .returned (.bool false) ∧ Below w.heap.size w w')
    (hA : ∀ w, Calls Try.prog 23 #[.agg #[.int .u64 f, .int .u64 l, .int .u64 r], .int .u64 t] w fun e w' => e = .returned (.int .u64 x) ∧ Below w.heap.size w w')
    (hK : ∀ w, Calls Try.prog 24 #[.agg #[.int .u64 f, .int .u64 l, .int .u64 r], .int .u64 t] w fun e w' => e = .returned (.int .u64 x) ∧ Below w.heap.size w w') :
    Calls Try.prog 4 #[.agg #[.int .u64 f, .int .u64 l, .int .u64 r], .int .u64 t, .int .u64 y] w fun e w' => e = .returned (.bool true) ∧ Below w.heap.size w w' := by
  have BC := Box.new w 24 #[.int .u64 f, .int .u64 l, .int .u64 r]
  have T := up1 w (.cells #[.int .u64 f, .int .u64 l, .int .u64 r] 24)
  go_enter Try.func4, Try.ntmps4
  go_upto_region 2 with (go_at_call 15; (with_reducible refine (hM _).mono ?_); rintro e w1 ⟨rfl, hb1⟩; replace BC := BC.below hb1; replace T := up T hb1 T.size; clear hb1)
  obtain ⟨c0, c1, c2, c3⟩ := BC.tri
  go_region_held3 (fun w' => w'.cell? ⟨w.heap.size, 0, none⟩ = some (.int .u64 f) ∧ w'.cell? ⟨w.heap.size, 1, none⟩ = some (.int .u64 l) ∧ w'.cell? ⟨w.heap.size, 2, none⟩ = some (.int .u64 r))
    (first | exact ⟨c1, c2, c3⟩ | exact (BC.below hb2).tri.2 | exact (BC.below (up hb2 hb3 hb2.size)).tri.2)
    (first
      | (go_at_call 23; (with_reducible refine (hA _).mono ?_); rintro e w2 ⟨rfl, hb2⟩; (first | replace hb2 := undrew hb2 | replace hb2 := undrewN hb2 | skip))
      | (go_at_call 24; (with_reducible refine (hK _).mono ?_); rintro e w3 ⟨rfl, hb3⟩; (first | replace hb3 := undrew hb3 | replace hb3 := undrewN hb3 | skip)))
  go_wp2
  go_ret
  exact ⟨by simp, up (up T hb2 T.size) hb3 (up T hb2 T.size).size⟩
set_option maxRecDepth 100000 in
set_option maxHeartbeats 2000000 in
theorem has_yes (f l r t y x n : Int) (w : World)
    (hM : ∀ w, Calls Try.prog 15 #[.agg #[.int .u64 f, .int .u64 l, .int .u64 r]] w fun e w' => e = .returned (.bool true) ∧ Below w.heap.size w w')
    (hA : ∀ w, Calls Try.prog 23 #[.agg #[.int .u64 f, .int .u64 l, .int .u64 r], .int .u64 t] w fun e w' => e = .returned (.int .u64 x) ∧ Below w.heap.size w w')
    (hK : ∀ w, Calls Try.prog 24 #[.agg #[.int .u64 f, .int .u64 l, .int .u64 r], .int .u64 t] w fun e w' => e = .returned (.int .u64 x) ∧ Below w.heap.size w w')
    (hR : ∀ w, Calls Try.prog 25 #[.agg #[.int .u64 f, .int .u64 l, .int .u64 r], .int .u64 y] w fun e w' => e = .returned (.int .u64 n) ∧ Below w.heap.size w w')
    (hQ : ∀ w, Calls Try.prog 26 #[.agg #[.int .u64 f, .int .u64 l, .int .u64 r], .int .u64 y] w fun e w' => e = .returned (.int .u64 n) ∧ Below w.heap.size w w') :
    Calls Try.prog 4 #[.agg #[.int .u64 f, .int .u64 l, .int .u64 r], .int .u64 t, .int .u64 y] w fun e w' => e = .returned (.bool true) ∧ Below w.heap.size w w' := by
  have BC := Box.new w 24 #[.int .u64 f, .int .u64 l, .int .u64 r]
  have T := up1 w (.cells #[.int .u64 f, .int .u64 l, .int .u64 r] 24)
  go_enter Try.func4, Try.ntmps4
  go_upto_region 3 with (go_at_call 15; (with_reducible refine (hM _).mono ?_); rintro e w1 ⟨rfl, hb1⟩; replace BC := BC.below hb1; replace T := up T hb1 T.size; clear hb1)
  obtain ⟨c0, c1, c2, c3⟩ := BC.tri
  go_region_held3 (fun w' => w'.cell? ⟨w.heap.size, 0, none⟩ = some (.int .u64 f) ∧ w'.cell? ⟨w.heap.size, 1, none⟩ = some (.int .u64 l) ∧ w'.cell? ⟨w.heap.size, 2, none⟩ = some (.int .u64 r))
    (first | exact ⟨c1, c2, c3⟩ | exact (BC.below hb2).tri.2 | exact (BC.below (up hb2 hb3 hb2.size)).tri.2 | exact (BC.below (up (up hb2 hb3 hb2.size) hb4 (up hb2 hb3 hb2.size).size)).tri.2 | exact (BC.below (up (up (up hb2 hb3 hb2.size) hb4 (up hb2 hb3 hb2.size).size) hb5 (up (up hb2 hb3 hb2.size) hb4 (up hb2 hb3 hb2.size).size).size)).tri.2)
    (first
      | (go_at_call 23; (with_reducible refine (hA _).mono ?_); rintro e w2 ⟨rfl, hb2⟩; (first | replace hb2 := undrew hb2 | replace hb2 := undrewN hb2 | skip))
      | (go_at_call 24; (with_reducible refine (hK _).mono ?_); rintro e w3 ⟨rfl, hb3⟩; (first | replace hb3 := undrew hb3 | replace hb3 := undrewN hb3 | skip))
      | (go_at_call 25; (with_reducible refine (hR _).mono ?_); rintro e w4 ⟨rfl, hb4⟩; (first | replace hb4 := undrew hb4 | replace hb4 := undrewN hb4 | skip))
      | (go_at_call 26; (with_reducible refine (hQ _).mono ?_); rintro e w5 ⟨rfl, hb5⟩; (first | replace hb5 := undrew hb5 | replace hb5 := undrewN hb5 | skip)))
  go_wp2
  go_ret
  have T2 := up T hb2 T.size
  have T3 := up T2 hb3 T2.size
  have T4 := up T3 hb4 T3.size
  exact ⟨by simp, up T4 hb5 T4.size⟩
theorem mayB_iff {f l r : Int} : mayB f l r = true ↔ cMay f l r := by
  unfold mayB cMay
  rw [decide_eq_true_iff]
theorem CurveHas_walk (f l r t y : Int) (hf : Word f) (hl : Word l) (hr : Word r) (ht : Word t) (hy : Word y) (w : World) :
    Calls Try.prog 4 #[.agg #[.int .u64 f, .int .u64 l, .int .u64 r], .int .u64 t, .int .u64 y] w fun e w' => e = .returned (.bool true) ∧ Below w.heap.size w w' := by
  have hM := fun w => kMay_any f l r w hf hl hr
  have hA := fun w => At_any f l r t w hf hl hr ht
  have hK := fun w => kAt_any f l r t w hf hl hr ht
  by_cases h : mayB f l r = true
  · rw [h] at hM
    obtain ⟨n, hn⟩ := reach_ex f l r y hf hl hr
    exact has_yes f l r t y _ n w hM hA hK (fun w => Reach_is f l r y n w hf hl hr hy (mayB_iff.1 h) hn) (fun w => kReach_of f l r y n w hf hl hr hy hn)
  · rw [show mayB f l r = false by simpa using h] at hM
    exact has_no f l r t y _ w hM hA hK
end Go.Proofs.Ytbgccdjkofpiaaa
