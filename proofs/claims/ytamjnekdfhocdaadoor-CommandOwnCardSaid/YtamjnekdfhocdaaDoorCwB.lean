/- The chapter's examples. No condition but those of the row. -/
import Derived.Test.YtamjnekdfhocdaaDoorCwA
namespace Go.Proofs.YtamjnekdfhocdaaDoor
open Go.ChangeShapes Go.WideShapes Go.Deep Go.RowKit
set_option linter.unusedVariables false
set_option linter.unusedSimpArgs false
/-- A value of parts, anywhere. -/
theorem xl_build {P : Program} (t : TypeId) {o : Oper} {a : Act} {w : World} {parts : List (Nat × Operand)} {c : Array Value} (hc : P.built t (parts.map fun x => (x.1, a.eval x.2)) = some c) (ho : o.op = .build t parts.toArray) : (execOp a.eval o).run P w = .ok (.value (.agg c)) w := by
  have e : P.built t (parts.toArray.map fun x => (x.1, a.eval x.2)).toList = some c := by
    rw [← hc]
    congr 1
    simp
  have h := run_build (P := P) w t (parts.toArray.map fun x => (x.1, a.eval x.2)) c e
  unfold execOp
  simp only [ho, Sem.run_bind, Sem.run_pure]
  rw [show (Instr.build t (parts.toArray.map fun x => (x.1, a.eval x.2))).run P w = _ from h]
  rfl
abbrev ex1 : Cm := ⟨6, 0, 0, 0, 0, 0, false, 0, 0, 0, 0, 0, 0, 0, 0, 0, 0, 0, 0, 0, 0, 0, 0, 300⟩
abbrev ex2 : Cm := ⟨7, 0, 0, 0, 0, 0, false, 0, 0, 0, 0, 0, 0, 0, 0, 0, 0, 0, 5, 0, 0, 0, 0, 0⟩
abbrev ex3 : Cm := ⟨7, 0, 0, 0, 0, 0, false, 0, 0, 0, 0, 0, 0, 0, 0, 0, 0, 0, 5, 0, 0, 0, 0, 1⟩
theorem zero_cm (k : Nat) (h : k < 256) : (Cm.zero k).ok := ⟨h, by
  simp only [List.forall_mem_cons, List.not_mem_nil, false_implies, implies_true, and_true]
  unfold Cm.zero Fv.ok
  simp⟩
theorem ex1_ok : ex1.ok := ⟨by decide, by
  simp only [List.forall_mem_cons, List.not_mem_nil, false_implies, implies_true, and_true]
  unfold Fv.ok
  simp⟩
theorem ex2_ok : ex2.ok := ⟨by decide, by
  simp only [List.forall_mem_cons, List.not_mem_nil, false_implies, implies_true, and_true]
  unfold Fv.ok
  simp⟩
theorem ex3_ok : ex3.ok := ⟨by decide, by
  simp only [List.forall_mem_cons, List.not_mem_nil, false_implies, implies_true, and_true]
  unfold Fv.ok
  simp⟩
theorem rp0_ok : Rp0.ok := by
  unfold Rp.ok hasR
  simp only [List.forall_mem_cons, List.not_mem_nil, false_implies, implies_true, and_true]
  unfold Fv.ok
  simp
theorem ex1_byt : bytC ex1 = [6, 172, 2] := by kernel_rfl
theorem ex1_may : mayC ex1 := by decide
theorem ex1_cmd : cmdV ex1 = .tuple #[.string ⟨#[6, 172, 2]⟩, .int .i64 0] := by
  unfold cmdV
  rw [if_pos ex1_may, ex1_byt]
  rfl
theorem ex2_cmd : cmdV ex2 = .tuple #[.string ⟨#[7, 10]⟩, .int .i64 0] := by
  unfold cmdV
  rw [if_pos (by decide), show bytC ex2 = [7, 10] by kernel_rfl]
  rfl
theorem ex3_cmd : cmdV ex3 = .tuple #[.string ⟨#[]⟩, .int .i64 2] := by
  unfold cmdV
  rw [if_neg (by decide)]
  rfl
theorem ex0_rep : repV Rp0 = .tuple #[.string ⟨#[0, 0, 0, 0, 0, 0, 0, 0, 0, 0, 0]⟩, .int .i64 0] := by
  unfold repV
  rw [show bytR Rp0 = [0, 0, 0, 0, 0, 0, 0, 0, 0, 0, 0] by kernel_rfl]
  rfl
theorem ex1_rd : rdcV [6, 172, 2] = .tuple #[.agg (cmV ex1), .int .i64 0] := by
  unfold rdcV
  rw [← ex1_byt, rdC_byt ex1_may ex1_ok]
theorem ex1_rr : rdrV [6, 172, 2] = .tuple #[.agg (rpV Rp0), .int .i64 140] := rdrV_no (by decide)
theorem b_ex1 : Tryd.prog.built 32 [(0, .int .u8 6), (5, .int .u64 300)] = some (cmV ex1) := by kernel_rfl
theorem b_ex2 : Tryd.prog.built 32 [(0, .int .u8 7), (3, .int .i64 5)] = some (cmV ex2) := by kernel_rfl
theorem b_ex3 : Tryd.prog.built 32 [(0, .int .u8 7), (3, .int .i64 5), (5, .int .u64 1)] = some (cmV ex3) := by kernel_rfl
set_option maxHeartbeats 16000000 in
set_option maxRecDepth 100000 in
theorem awake_any (w : World) (hN : Names w) : Calls Tryd.prog 23 #[] w fun e w' => e = .returned (.bool true) ∧ Below w.heap.size w w' := by
  have a1 := Command_any ex1 w hN ex1_ok
  rw [ex1_cmd] at a1
  go_enter Tryd.func23, Tryd.ntmps23
  go_upto_region 2 with (first
    | (refine wl_build 32 rfl rfl b_ex1 ?_)
    | (go_at_call 9; (with_reducible refine a1.mono ?_); rintro e w1 ⟨rfl, T1⟩; have a2 := Command_any ex2 w1 (hN.up T1) ex2_ok; rw [ex2_cmd] at a2))
  clear a1
  go_upto_region 3 with (first
    | (refine wl_build 32 rfl rfl b_ex2 ?_)
    | (go_at_call 9; (with_reducible refine a2.mono ?_); rintro e w2 ⟨rfl, U2⟩; have T2 := ups T1 U2 T1.size; have a3 := Reply_any Rp0 w2 rp0_ok; rw [ex0_rep] at a3))
  clear a2 T1 U2
  go_upto_region 4 with (first
    | (refine wl_build 37 rfl rfl built37_0 ?_)
    | (go_at_call 11; (with_reducible refine a3.mono ?_); rintro e w3 ⟨rfl, U3⟩; have T3 := ups T2 U3 T2.size; have a4 : Calls Tryd.prog 19 #[.string ⟨#[6, 172, 2]⟩] w3 fun e w' => e = .returned (rdcV [6, 172, 2]) ∧ Below w3.heap.size w3 w' := ReadCommand_any [6, 172, 2] w3 (hN.up T3) (by decide); rw [ex1_rd] at a4))
  clear a3 T2 U3
  go_upto_region 5 with (first
    | (go_at_call 19; (with_reducible refine a4.mono ?_); rintro e w4 ⟨rfl, U4⟩; have T4 := ups T3 U4 T3.size)
    | (refine wl_alloc 32 rfl rfl zero32 ?_; intro w5 Z5 U5; have T5 := ups T4 U5 T4.size)
    | (refine wl_store 32 Z5 rfl rfl rfl rfl size32 rfl (by omega : 0 + 24 ≤ 24) (cmV_one _) (spl24 _ _) ?_; intro w6 Z6 K6; have T6 := K6.up T5 T4.size; have a5 := Command_any ex3 w6 (hN.up T6) ex3_ok; rw [ex3_cmd] at a5))
  clear a4 T3 U4 T4 Z5 U5 T5 K6
  go_upto_region 6 with (first
    | (refine wl_build 32 rfl rfl b_ex3 ?_)
    | (go_at_call 9; (with_reducible refine a5.mono ?_); rintro e w7 ⟨rfl, U7⟩; have T7 := ups T6 U7 T6.size; have Z7 := Z6.below U7; have a6 : Calls Tryd.prog 21 #[.string ⟨#[6, 172, 2]⟩] w7 fun e w' => e = .returned (rdrV [6, 172, 2]) ∧ Below w7.heap.size w7 w' := ReadReply_any [6, 172, 2] w7 (by decide); rw [ex1_rr] at a6))
  clear a5 T6 Z6 U7
  go_upto_region 7 with (first
    | (go_at_call 21; (with_reducible refine a6.mono ?_); rintro e w8 ⟨rfl, U8⟩; have T8 := ups T7 U8 T7.size; have Z8 := Z7.below U8)
    | (refine wl_alloc 37 rfl rfl zero37 ?_; intro w9 V9 U9; have T9 := ups T8 U9 T8.size; have Z9 := Z8.below U9)
    | (refine wl_store 37 V9 rfl rfl rfl rfl size37 rfl (by omega : 0 + 10 ≤ 10) (rpV_one _) (spl10 _ _) ?_; intro wa Va Ka; have Ta := Ka.up T9 T8.size; have Za := Ka.box Z9 (Nat.ne_of_lt Z8.lt)))
  clear a6 T7 Z7 U8 T8 Z8 V9 U9 T9 Z9 Ka
  go_wp2_with (first
    | (refine wl_run (xl_load 32 Za rfl rfl Tryd.underlying32 rfl size32 (by omega : 0 + 24 ≤ 24) (cmV_all _)) rfl ?_)
    | (refine wl_run (xl_build 32 b_ex1 rfl) rfl ?_)
    | (refine wl_run (xl_eqb32 (decide_eq_true rfl) rfl rfl rfl) rfl ?_))
  go_ret
  exact ⟨by simp, Ta⟩
end Go.Proofs.YtamjnekdfhocdaaDoor
