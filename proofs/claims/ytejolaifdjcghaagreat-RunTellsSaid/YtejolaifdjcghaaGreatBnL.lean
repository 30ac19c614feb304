/- A line of a run: what it has, when it has that, and the lesser one of two. -/
import Derived.Test.YtejolaifdjcghaaGreatObj
namespace Go.Proofs.YtejolaifdjcghaaGreat
open Go.RowKit Go.Shelf W
set_option linter.unusedVariables false
theorem Box.line {W : World} {B : Nat} {t : TypeId} {h s : Int} (b : Box W B #[eU h, eU 0, eU 0, eU s] t) :
    W.cell? ⟨B, 0, none⟩ = some (eU h) ∧ W.cell? ⟨B, 1, none⟩ = some (eU 0) ∧ W.cell? ⟨B, 2, none⟩ = some (eU 0) ∧ W.cell? ⟨B, 3, none⟩ = some (eU s) :=
  ⟨b.cell 0, b.cell 1, b.cell 2, b.cell 3⟩
set_option maxHeartbeats 1000000 in
theorem has_of (h s n a r : Int) (w : World)
    (hA : ∀ w, Calls Tryz.prog 84 #[.agg #[eU 0, eU 0, eU s], eU n] w fun e w' => e = .returned (eU a) ∧ Below w.heap.size w w')
    (hP : ∀ w, Calls Tryz.prog 83 #[eU h, eU a] w fun e w' => e = .returned (eU r) ∧ Below w.heap.size w w') :
    Calls Tryz.prog 81 #[.agg #[eU h, eU 0, eU 0, eU s], eU n] w fun e w' => e = .returned (eU r) ∧ Below w.heap.size w w' := by
  have BC := Box.new w 66 #[eU h, eU 0, eU 0, eU s]
  have T := up1 w (.cells #[eU h, eU 0, eU 0, eU s] 66)
  go_enter Tryz.func81, Tryz.ntmps81
  go_upto_region 1 with (fail)
  obtain ⟨c0, c1, c2, c3⟩ := BC.line
  go_region_held3 (fun w' => w'.cell? ⟨w.heap.size, 0, none⟩ = some (.int .u64 h) ∧ w'.cell? ⟨w.heap.size, 1, none⟩ = some (.int .u64 0) ∧ w'.cell? ⟨w.heap.size, 2, none⟩ = some (.int .u64 0) ∧ w'.cell? ⟨w.heap.size, 3, none⟩ = some (.int .u64 s))
    (first | exact ⟨c0, c1, c2, c3⟩ | exact (BC.below hb2).line | exact (BC.below (up hb2 hb3 hb2.size)).line)
    (first
      | (go_at_call 84; (with_reducible refine (hA _).mono ?_); rintro e w2 ⟨rfl, hb2⟩; (first | replace hb2 := undrew hb2 | replace hb2 := undrewN hb2 | skip))
      | (go_at_call 83; (with_reducible refine (hP _).mono ?_); rintro e w3 ⟨rfl, hb3⟩; (first | replace hb3 := undrew hb3 | replace hb3 := undrewN hb3 | skip)))
  go_wp2
  go_ret
  exact ⟨rfl, up (up T hb2 T.size) hb3 (up T hb2 T.size).size⟩
theorem has_any (h s n : Int) (w : World) (hh : Word h) (hs : Word s) (hn : Word n) :
    Calls Tryz.prog 81 #[.agg #[eU h, eU 0, eU 0, eU s], eU n] w fun e w' => e = .returned (eU (rP h (cAt 0 0 s n))) ∧ Below w.heap.size w w' :=
  have z : Word 0 := ⟨by omega, by omega⟩
  has_of h s n _ _ w (fun w => At_any 0 0 s n w z z hs hn) (fun w => rPlus'_any h _ w hh ⟨cAt_nn (by omega) hs.1 (by omega) hn.1, by have := cAt_le 0 0 s n; omega⟩)
set_option maxHeartbeats 1000000 in
theorem within_of (h s y m r : Int) (w : World)
    (hM : ∀ w, Calls Tryz.prog 38 #[eU y, eU h] w fun e w' => e = .returned (eU m) ∧ Below w.heap.size w w')
    (hR : ∀ w, Calls Tryz.prog 85 #[.agg #[eU 0, eU 0, eU s], eU m] w fun e w' => e = .returned (eU r) ∧ Below w.heap.size w w') :
    Calls Tryz.prog 82 #[.agg #[eU h, eU 0, eU 0, eU s], eU y] w fun e w' => e = .returned (eU r) ∧ Below w.heap.size w w' := by
  have BC := Box.new w 66 #[eU h, eU 0, eU 0, eU s]
  have T := up1 w (.cells #[eU h, eU 0, eU 0, eU s] 66)
  go_enter Tryz.func82, Tryz.ntmps82
  go_upto_region 1 with (fail)
  obtain ⟨c0, c1, c2, c3⟩ := BC.line
  go_region_held3 (fun w' => w'.cell? ⟨w.heap.size, 0, none⟩ = some (.int .u64 h) ∧ w'.cell? ⟨w.heap.size, 1, none⟩ = some (.int .u64 0) ∧ w'.cell? ⟨w.heap.size, 2, none⟩ = some (.int .u64 0) ∧ w'.cell? ⟨w.heap.size, 3, none⟩ = some (.int .u64 s))
    (first | exact ⟨c0, c1, c2, c3⟩ | exact (BC.below hb2).line | exact (BC.below (up hb2 hb3 hb2.size)).line)
    (first
      | (go_at_call 38; (with_reducible refine (hM _).mono ?_); rintro e w2 ⟨rfl, hb2⟩; (first | replace hb2 := undrew hb2 | replace hb2 := undrewN hb2 | skip))
      | (go_at_call 85; (with_reducible refine (hR _).mono ?_); rintro e w3 ⟨rfl, hb3⟩; (first | replace hb3 := undrew hb3 | replace hb3 := undrewN hb3 | skip)))
  go_wp2
  go_ret
  exact ⟨rfl, up (up T hb2 T.size) hb3 (up T hb2 T.size).size⟩
set_option maxHeartbeats 1000000 in
theorem lesser_of (X Y : Value) (n a b : Int) (w : World)
    (hX : ∀ w, Calls Tryz.prog 81 #[X, eU n] w fun e w' => e = .returned (eU a) ∧ Below w.heap.size w w')
    (hY : ∀ w, Calls Tryz.prog 81 #[Y, eU n] w fun e w' => e = .returned (eU b) ∧ Below w.heap.size w w') :
    Calls Tryz.prog 80 #[.func (.func 81) #[X] #[], .func (.func 81) #[Y] #[], eU n] w fun e w' => e = .returned (eU (min a b)) ∧ Below w.heap.size w w' := by
  obtain ⟨m, hm⟩ : ∃ m, min a b = m := ⟨_, rfl⟩
  rw [hm]
  go_enter Tryz.func80, Tryz.ntmps80
  go_wp2_with (first
    | (go_at_call 81; (with_reducible refine (hX _).mono ?_); rintro e w2 ⟨rfl, hb2⟩)
    | (go_at_call 81; (with_reducible refine (hY _).mono ?_); rintro e w3 ⟨rfl, hb3⟩))
  go_ret
  exact ⟨rfl, up hb2 hb3 hb2.size⟩
end Go.Proofs.YtejolaifdjcghaaGreat
