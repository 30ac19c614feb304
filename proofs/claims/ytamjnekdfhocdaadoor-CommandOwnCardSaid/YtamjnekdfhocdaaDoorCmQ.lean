/- Whether two commands, two replies are the same, as the program compares them. No condition. -/
import Derived.Test.YtamjnekdfhocdaaDoorCmF
import Derived.Laws.StructEq
namespace Go.Proofs.YtamjnekdfhocdaaDoor
open Go.RowKit
set_option linter.unusedVariables false
set_option linter.unusedSimpArgs false
theorem ifs {W : World} {p p' : Prop} [Decidable p] [Decidable p'] {x : Result Bool} {r : Bool} (hp : p ↔ p') (h : x = .ok r W) : (if p then x else .ok false W) = .ok (decide p' && r) W := by
  by_cases q : p
  · rw [if_pos q, decide_eq_true (hp.1 q), Bool.true_and]; exact h
  · rw [if_neg q, decide_eq_false (fun z => q (hp.2 z)), Bool.false_and]
theorem ifl {W : World} {p p' : Prop} [Decidable p] [Decidable p'] (hp : p ↔ p') : (if p then Result.ok true W else .ok false W) = .ok (decide p') W := by
  by_cases q : p
  · rw [if_pos q, decide_eq_true (hp.1 q)]
  · rw [if_neg q, decide_eq_false (fun z => q (hp.2 z))]
set_option maxHeartbeats 16000000 in
set_option maxRecDepth 100000 in
theorem eq32 (C D : Cm) (W : World) : (Op.equalIn 10000 32 (.agg (cmV C)) (.agg (cmV D))).run Tryd.prog W = .ok (decide (C = D)) W := by
  obtain ⟨a0, a1, a2, a3, a4, a5, a6, a7, a8, a9, a10, a11, a12, a13, a14, a15, a16, a17, a18, a19, a20, a21, a22, a23⟩ := C
  obtain ⟨b0, b1, b2, b3, b4, b5, b6, b7, b8, b9, b10, b11, b12, b13, b14, b15, b16, b17, b18, b19, b20, b21, b22, b23⟩ := D
  unfold cmV
  simp only [Cm.mk.injEq]
  simp [go_sem]
  refine ifs Int.natCast_inj (ifs Int.natCast_inj (ifs Iff.rfl (ifs Int.natCast_inj (ifs Iff.rfl (ifs Iff.rfl (ifs Iff.rfl (ifs Int.natCast_inj (ifs Int.natCast_inj (ifs Int.natCast_inj (ifs Int.natCast_inj (ifs Int.natCast_inj (ifs Int.natCast_inj (ifs Int.natCast_inj (ifs Int.natCast_inj (ifs Int.natCast_inj (ifs Iff.rfl (ifs Iff.rfl (ifs Iff.rfl (ifs Int.natCast_inj (ifs Iff.rfl (ifs Iff.rfl (ifs Int.natCast_inj (?_)))))))))))))))))))))))
  exact ifl Int.natCast_inj
set_option maxHeartbeats 16000000 in
set_option maxRecDepth 100000 in
theorem eq37 (C D : Rp) (W : World) : (Op.equalIn 10000 37 (.agg (rpV C)) (.agg (rpV D))).run Tryd.prog W = .ok (decide (C = D)) W := by
  obtain ⟨a0, a1, a2, a3, a4, a5, a6, a7, a8, a9⟩ := C
  obtain ⟨b0, b1, b2, b3, b4, b5, b6, b7, b8, b9⟩ := D
  unfold rpV
  simp only [Rp.mk.injEq]
  simp [go_sem]
  refine ifs Iff.rfl (ifs Int.natCast_inj (ifs Int.natCast_inj (ifs Int.natCast_inj (ifs Int.natCast_inj (ifs Int.natCast_inj (ifs Int.natCast_inj (ifs Int.natCast_inj (ifs Int.natCast_inj (?_)))))))))
  exact ifl Int.natCast_inj
theorem ne32 (C D : Cm) (W : World) : (binOp .neq 32 (.agg (cmV C)) (.agg (cmV D))).run Tryd.prog W = .ok (.bool (!decide (C = D))) W := by rw [run_neq_struct, eq32]; rfl
theorem eqq32 (C D : Cm) (W : World) : (binOp .eql 32 (.agg (cmV C)) (.agg (cmV D))).run Tryd.prog W = .ok (.bool (decide (C = D))) W := by rw [run_eql_struct, eq32]; rfl
theorem ne37 (C D : Rp) (W : World) : (binOp .neq 37 (.agg (rpV C)) (.agg (rpV D))).run Tryd.prog W = .ok (.bool (!decide (C = D))) W := by rw [run_neq_struct, eq37]; rfl
theorem eqq37 (C D : Rp) (W : World) : (binOp .eql 37 (.agg (rpV C)) (.agg (rpV D))).run Tryd.prog W = .ok (.bool (decide (C = D))) W := by rw [run_eql_struct, eq37]; rfl
theorem xl_neq32 {o : Oper} {a : Act} {w : World} {x y : Operand} {C D : Cm} {t : TypeId} (ho : o.op = .binOp .neq 32 x y t) (hx : a.eval x = .agg (cmV C)) (hy : a.eval y = .agg (cmV D)) : (execOp a.eval o).run Tryd.prog w = .ok (.value (.bool (!decide (C = D)))) w := by
  unfold execOp
  simp only [ho, hx, hy, Sem.run_bind, run_eqGuard_agg w .neq 32 x y _ _ Tryd.eqGuardType32, Result.andThen_ok, ne32, Sem.run_pure]
theorem xl_eql32 {o : Oper} {a : Act} {w : World} {x y : Operand} {C D : Cm} {t : TypeId} (ho : o.op = .binOp .eql 32 x y t) (hx : a.eval x = .agg (cmV C)) (hy : a.eval y = .agg (cmV D)) : (execOp a.eval o).run Tryd.prog w = .ok (.value (.bool (decide (C = D)))) w := by
  unfold execOp
  simp only [ho, hx, hy, Sem.run_bind, run_eqGuard_agg w .eql 32 x y _ _ Tryd.eqGuardType32, Result.andThen_ok, eqq32, Sem.run_pure]
theorem xl_neq37 {o : Oper} {a : Act} {w : World} {x y : Operand} {C D : Rp} {t : TypeId} (ho : o.op = .binOp .neq 37 x y t) (hx : a.eval x = .agg (rpV C)) (hy : a.eval y = .agg (rpV D)) : (execOp a.eval o).run Tryd.prog w = .ok (.value (.bool (!decide (C = D)))) w := by
  unfold execOp
  simp only [ho, hx, hy, Sem.run_bind, run_eqGuard_agg w .neq 37 x y _ _ Tryd.eqGuardType37, Result.andThen_ok, ne37, Sem.run_pure]
theorem xl_eql37 {o : Oper} {a : Act} {w : World} {x y : Operand} {C D : Rp} {t : TypeId} (ho : o.op = .binOp .eql 37 x y t) (hx : a.eval x = .agg (rpV C)) (hy : a.eval y = .agg (rpV D)) : (execOp a.eval o).run Tryd.prog w = .ok (.value (.bool (decide (C = D)))) w := by
  unfold execOp
  simp only [ho, hx, hy, Sem.run_bind, run_eqGuard_agg w .eql 37 x y _ _ Tryd.eqGuardType37, Result.andThen_ok, eqq37, Sem.run_pure]
end Go.Proofs.YtamjnekdfhocdaaDoor
