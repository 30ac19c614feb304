/- Whether a spec may be, asked question by question; a spec with another one's curves. Condition: the numbers are what the fields can hold. -/
import Derived.Test.YtpopcnebndgblaaGreatSpL
namespace Go.Proofs.YtpopcnebndgblaaGreat
open Go.RowKit W
set_option linter.unusedVariables false

/-- What is asked, and the errors. -/
abbrev qsV : Value := .agg #[.func (.func 59) #[] #[], .int .i64 130, .func (.func 60) #[] #[], .int .i64 30, .func (.func 61) #[] #[], .int .i64 130, .func (.func 62) #[] #[], .int .i64 130, .func (.func 63) #[] #[], .int .i64 130]
theorem questions_any (w : World) :
    Calls Tryz.prog 49 #[] w fun e w' => e = .returned (.agg #[.func (.func 59) #[] #[], .int .i64 130, .func (.func 60) #[] #[], .int .i64 30, .func (.func 61) #[] #[], .int .i64 130, .func (.func 62) #[] #[], .int .i64 130, .func (.func 63) #[] #[], .int .i64 130]) ∧ Below w.heap.size w w' := by
  go_enter Tryz.func49, Tryz.ntmps49
  go_wp2
  exact bodyPost_ret (v := .agg #[.func (.func 59) #[] #[], .int .i64 130, .func (.func 60) #[] #[], .int .i64 30, .func (.func 61) #[] #[], .int .i64 130, .func (.func 62) #[] #[], .int .i64 130, .func (.func 63) #[] #[], .int .i64 130]) (by simp [results, Tryz.results49, go_sem]) rfl ⟨rfl, up1 _ _⟩
theorem ixQ0 (W : World) : (Instr.index 72 (.agg #[.func (.func 59) #[] #[], .int .i64 130, .func (.func 60) #[] #[], .int .i64 30, .func (.func 61) #[] #[], .int .i64 130, .func (.func 62) #[] #[], .int .i64 130, .func (.func 63) #[] #[], .int .i64 130]) (.int .i64 0)).run Tryz.prog W = .ok (.agg #[.func (.func 59) #[] #[], .int .i64 130]) W := by simp [Instr.index, go_sem]
theorem ixQ1 (W : World) : (Instr.index 72 (.agg #[.func (.func 59) #[] #[], .int .i64 130, .func (.func 60) #[] #[], .int .i64 30, .func (.func 61) #[] #[], .int .i64 130, .func (.func 62) #[] #[], .int .i64 130, .func (.func 63) #[] #[], .int .i64 130]) (.int .i64 1)).run Tryz.prog W = .ok (.agg #[.func (.func 60) #[] #[], .int .i64 30]) W := by simp [Instr.index, go_sem]
theorem ixQ2 (W : World) : (Instr.index 72 (.agg #[.func (.func 59) #[] #[], .int .i64 130, .func (.func 60) #[] #[], .int .i64 30, .func (.func 61) #[] #[], .int .i64 130, .func (.func 62) #[] #[], .int .i64 130, .func (.func 63) #[] #[], .int .i64 130]) (.int .i64 2)).run Tryz.prog W = .ok (.agg #[.func (.func 61) #[] #[], .int .i64 130]) W := by simp [Instr.index, go_sem]
theorem ixQ3 (W : World) : (Instr.index 72 (.agg #[.func (.func 59) #[] #[], .int .i64 130, .func (.func 60) #[] #[], .int .i64 30, .func (.func 61) #[] #[], .int .i64 130, .func (.func 62) #[] #[], .int .i64 130, .func (.func 63) #[] #[], .int .i64 130]) (.int .i64 3)).run Tryz.prog W = .ok (.agg #[.func (.func 62) #[] #[], .int .i64 130]) W := by simp [Instr.index, go_sem]
theorem ixQ4 (W : World) : (Instr.index 72 (.agg #[.func (.func 59) #[] #[], .int .i64 130, .func (.func 60) #[] #[], .int .i64 30, .func (.func 61) #[] #[], .int .i64 130, .func (.func 62) #[] #[], .int .i64 130, .func (.func 63) #[] #[], .int .i64 130]) (.int .i64 4)).run Tryz.prog W = .ok (.agg #[.func (.func 63) #[] #[], .int .i64 130]) W := by simp [Instr.index, go_sem]
theorem q_cells {W : World} {B : Nat} {f : Value} {n : Int} {t : TypeId} (h : W.heap[B]? = some (.cells #[f, .int .i64 n] t (0, 0))) :
    W.cell? ⟨B, 0, none⟩ = some f ∧ W.cell? ⟨B, 1, none⟩ = some (.int .i64 n) := by simp [World.cell?, h]
set_option maxHeartbeats 4000000 in
set_option maxRecDepth 100000 in
theorem May_of (p : Sp) (b0 b1 b2 b3 b4 : Bool) (w : World)
    (h0 : ∀ w, Calls Tryz.prog 59 #[spV p] w fun e w' => e = .returned (.bool b0) ∧ Below w.heap.size w w')
    (h1 : ∀ w, Calls Tryz.prog 60 #[spV p] w fun e w' => e = .returned (.bool b1) ∧ Below w.heap.size w w')
    (h2 : ∀ w, Calls Tryz.prog 61 #[spV p] w fun e w' => e = .returned (.bool b2) ∧ Below w.heap.size w w')
    (h3 : ∀ w, Calls Tryz.prog 62 #[spV p] w fun e w' => e = .returned (.bool b3) ∧ Below w.heap.size w w')
    (h4 : ∀ w, Calls Tryz.prog 63 #[spV p] w fun e w' => e = .returned (.bool b4) ∧ Below w.heap.size w w') :
    Calls Tryz.prog 30 #[spV p] w fun e w' => e = .returned (.int .i64 (if b0 then (if b1 then (if b2 then (if b3 then (if b4 then 0 else 130) else 130) else 130) else 30) else 130)) ∧ Below w.heap.size w w' := by
  have hQ := questions_any
  have B := SB.new w p
  have T := up1 w (.cells (spC p) 34)
  have x0 := ixQ0
  have x1 := ixQ1
  have x2 := ixQ2
  have x3 := ixQ3
  have x4 := ixQ4
  go_enter Tryz.func30, Tryz.ntmps30
  go_wp2_with (first
    | (go_at_call 49; (with_reducible refine (hQ _).mono ?_); rintro e w1 ⟨rfl, hb⟩; replace B := B.below hb; replace T := spk T hb T.size; clear hb))
  go_loopw [6] (fun j wr => ∃ k : Nat, k ≤ 5 ∧ j = .int .i64 k ∧ SB wr w.heap.size p ∧ Below w.heap.size w wr ∧ (0 < k → b0 = true) ∧ (1 < k → b1 = true) ∧ (2 < k → b2 = true) ∧ (3 < k → b3 = true) ∧ (4 < k → b4 = true)) (fun j _ => 5 - (Lib.intOf j).toNat)
  case atStart => exact ⟨0, by omega, rfl, B, T, by omega, by omega, by omega, by omega, by omega⟩
  case round =>
    obtain ⟨k, hk, rfl, hB, hT, g0, g1, g2, g3, g4⟩ := hrel
    rcases (by omega : k = 0 ∨ k = 1 ∨ k = 2 ∨ k = 3 ∨ k = 4 ∨ k = 5) with rfl | rfl | rfl | rfl | rfl | rfl
    · clear g0
      clear g1
      clear g2
      clear g3
      clear g4
      have hQB : (wr.alloc (.cells #[.func (.func 59) #[] #[], .int .i64 130] 71)).heap[wr.heap.size]? = some (.cells #[.func (.func 59) #[] #[], .int .i64 130] 71 (0, 0)) := World.alloc_heap_new wr _
      obtain ⟨c0, c1, c2, c3, c4, c5, c6, c7, c8, c9, c10, c11, c12, c13⟩ := id (hB.alloc (.cells #[.func (.func 59) #[] #[], .int .i64 130] 71)).all
      cases b0
      all_goals
        go_wp2_with (first
          | (go_at_call 59; (with_reducible refine (h0 _).mono ?_); rintro e w1 ⟨rfl, hb⟩; replace hB := (hB.alloc _).below hb; replace hQB := (hb.block wr.heap.size (by simp)).trans hQB; replace hT := spk (hT.alloc hT.size _) hb (by have := hT.size; simp; omega); clear hb; obtain ⟨q0, q1⟩ := q_cells hQB))
        first
          | (go_ret; exact ⟨by simp, hT⟩)
          | exact ⟨⟨1, by omega, rfl, hB, hT, by simp, by omega, by omega, by omega, by omega⟩, by simp [Lib.intOf]⟩
    · have g0 := Lib.hid (g0 (by omega))
      clear g1
      clear g2
      clear g3
      clear g4
      have hQB : (wr.alloc (.cells #[.func (.func 60) #[] #[], .int .i64 30] 71)).heap[wr.heap.size]? = some (.cells #[.func (.func 60) #[] #[], .int .i64 30] 71 (0, 0)) := World.alloc_heap_new wr _
      obtain ⟨c0, c1, c2, c3, c4, c5, c6, c7, c8, c9, c10, c11, c12, c13⟩ := id (hB.alloc (.cells #[.func (.func 60) #[] #[], .int .i64 30] 71)).all
      cases b1
      all_goals
        go_wp2_with (first
          | (go_at_call 60; (with_reducible refine (h1 _).mono ?_); rintro e w1 ⟨rfl, hb⟩; replace hB := (hB.alloc _).below hb; replace hQB := (hb.block wr.heap.size (by simp)).trans hQB; replace hT := spk (hT.alloc hT.size _) hb (by have := hT.size; simp; omega); clear hb; obtain ⟨q0, q1⟩ := q_cells hQB))
        first
          | (go_ret; exact ⟨by have := g0.out; simp_all, hT⟩)
          | exact ⟨⟨2, by omega, rfl, hB, hT, fun _ => g0.out, by simp, by omega, by omega, by omega⟩, by simp [Lib.intOf]⟩
    · have g0 := Lib.hid (g0 (by omega))
      have g1 := Lib.hid (g1 (by omega))
      clear g2
      clear g3
      clear g4
      have hQB : (wr.alloc (.cells #[.func (.func 61) #[] #[], .int .i64 130] 71)).heap[wr.heap.size]? = some (.cells #[.func (.func 61) #[] #[], .int .i64 130] 71 (0, 0)) := World.alloc_heap_new wr _
      obtain ⟨c0, c1, c2, c3, c4, c5, c6, c7, c8, c9, c10, c11, c12, c13⟩ := id (hB.alloc (.cells #[.func (.func 61) #[] #[], .int .i64 130] 71)).all
      cases b2
      all_goals
        go_wp2_with (first
          | (go_at_call 61; (with_reducible refine (h2 _).mono ?_); rintro e w1 ⟨rfl, hb⟩; replace hB := (hB.alloc _).below hb; replace hQB := (hb.block wr.heap.size (by simp)).trans hQB; replace hT := spk (hT.alloc hT.size _) hb (by have := hT.size; simp; omega); clear hb; obtain ⟨q0, q1⟩ := q_cells hQB))
        first
          | (go_ret; exact ⟨by have := g0.out; have := g1.out; simp_all, hT⟩)
          | exact ⟨⟨3, by omega, rfl, hB, hT, fun _ => g0.out, fun _ => g1.out, by simp, by omega, by omega⟩, by simp [Lib.intOf]⟩
    · have g0 := Lib.hid (g0 (by omega))
      have g1 := Lib.hid (g1 (by omega))
      have g2 := Lib.hid (g2 (by omega))
      clear g3
      clear g4
      have hQB : (wr.alloc (.cells #[.func (.func 62) #[] #[], .int .i64 130] 71)).heap[wr.heap.size]? = some (.cells #[.func (.func 62) #[] #[], .int .i64 130] 71 (0, 0)) := World.alloc_heap_new wr _
      obtain ⟨c0, c1, c2, c3, c4, c5, c6, c7, c8, c9, c10, c11, c12, c13⟩ := id (hB.alloc (.cells #[.func (.func 62) #[] #[], .int .i64 130] 71)).all
      cases b3
      all_goals
        go_wp2_with (first
          | (go_at_call 62; (with_reducible refine (h3 _).mono ?_); rintro e w1 ⟨rfl, hb⟩; replace hB := (hB.alloc _).below hb; replace hQB := (hb.block wr.heap.size (by simp)).trans hQB; replace hT := spk (hT.alloc hT.size _) hb (by have := hT.size; simp; omega); clear hb; obtain ⟨q0, q1⟩ := q_cells hQB))
        first
          | (go_ret; exact ⟨by have := g0.out; have := g1.out; have := g2.out; simp_all, hT⟩)
          | exact ⟨⟨4, by omega, rfl, hB, hT, fun _ => g0.out, fun _ => g1.out, fun _ => g2.out, by simp, by omega⟩, by simp [Lib.intOf]⟩
    · have g0 := Lib.hid (g0 (by omega))
      have g1 := Lib.hid (g1 (by omega))
      have g2 := Lib.hid (g2 (by omega))
      have g3 := Lib.hid (g3 (by omega))
      clear g4
      have hQB : (wr.alloc (.cells #[.func (.func 63) #[] #[], .int .i64 130] 71)).heap[wr.heap.size]? = some (.cells #[.func (.func 63) #[] #[], .int .i64 130] 71 (0, 0)) := World.alloc_heap_new wr _
      obtain ⟨c0, c1, c2, c3, c4, c5, c6, c7, c8, c9, c10, c11, c12, c13⟩ := id (hB.alloc (.cells #[.func (.func 63) #[] #[], .int .i64 130] 71)).all
      cases b4
      all_goals
        go_wp2_with (first
          | (go_at_call 63; (with_reducible refine (h4 _).mono ?_); rintro e w1 ⟨rfl, hb⟩; replace hB := (hB.alloc _).below hb; replace hQB := (hb.block wr.heap.size (by simp)).trans hQB; replace hT := spk (hT.alloc hT.size _) hb (by have := hT.size; simp; omega); clear hb; obtain ⟨q0, q1⟩ := q_cells hQB))
        first
          | (go_ret; exact ⟨by have := g0.out; have := g1.out; have := g2.out; have := g3.out; simp_all, hT⟩)
          | exact ⟨⟨5, by omega, rfl, hB, hT, fun _ => g0.out, fun _ => g1.out, fun _ => g2.out, fun _ => g3.out, by simp⟩, by simp [Lib.intOf]⟩
    · have g0 := Lib.hid (g0 (by omega))
      have g1 := Lib.hid (g1 (by omega))
      have g2 := Lib.hid (g2 (by omega))
      have g3 := Lib.hid (g3 (by omega))
      have g4 := Lib.hid (g4 (by omega))
      go_wp2
      go_ret
      exact ⟨by have := g0.out; have := g1.out; have := g2.out; have := g3.out; have := g4.out; simp_all, hT⟩
theorem May_any (m : Nat) (hsort : SortU m) (hm : 3 ≤ m) (p : Sp) (hp : p.ok) (w : World) :
    Calls Tryz.prog 30 #[spV p] w fun e w' => e = .returned (.int .i64 (mayN p)) ∧ Below w.heap.size w w' := by
  unfold mayN
  exact May_of p _ _ _ _ _ w (fun w => placed_any p w) (fun w => drawn_any p hp w) (fun w => furnished_any p w) (fun w => lasting_any p w) (fun w => bounded_any m hsort hm p hp w)
end Go.Proofs.YtpopcnebndgblaaGreat
