/- CommandOwn: what its walk leans on. No condition. -/
import Derived.Test.YtamjnekdfhocdaaDoorCwD
import Derived.Test.YtamjnekdfhocdaaDoorCwE
namespace Go.Proofs.YtamjnekdfhocdaaDoor
open Go.ChangeShapes Go.WideShapes Go.Deep Go.RowKit
set_option linter.unusedVariables false
set_option linter.unusedSimpArgs false
def eq_cf (C D : Cm) : Bool := decide (C.rate = D.rate) && (decide (C.most = D.most) && (decide (C.hor = D.hor)))
set_option maxHeartbeats 16000000 in
set_option maxRecDepth 100000 in
theorem eqr24 (C D : Cm) (W : World) : (Op.equalIn 10000 24 (.agg (cfV C)) (.agg (cfV D))).run Tryd.prog W = .ok (eq_cf C D) W := by
  obtain ⟨a0, a1, a2, a3, a4, a5, a6, a7, a8, a9, a10, a11, a12, a13, a14, a15, a16, a17, a18, a19, a20, a21, a22, a23⟩ := C
  obtain ⟨b0, b1, b2, b3, b4, b5, b6, b7, b8, b9, b10, b11, b12, b13, b14, b15, b16, b17, b18, b19, b20, b21, b22, b23⟩ := D
  unfold cfV eq_cf
  simp [go_sem]
  refine ifs Int.natCast_inj (ifs Iff.rfl (?_))
  exact ifl Int.natCast_inj
theorem built24_0 : Tryd.prog.built 24 [] = some (cfV (Cm.zero 0)) := by kernel_rfl
theorem xl_nef24 {o : Oper} {a : Act} {w : World} {i j : Nat} {C D : Cm} {t : TypeId} {b : Bool} (hb : (!eq_cf C D) = b) (ho : o.op = .binOp .neq 24 (.tmp i) (.tmp j) t) (hx : a.tmps.toList.getD i undef = .agg (cfV C)) (hy : a.tmps.toList.getD j undef = .agg (cfV D)) : (execOp a.eval o).run Tryd.prog w = .ok (.value (.bool b)) w := by
  have hx := (evf a i).trans hx
  have hy := (evf a j).trans hy
  have hn : (binOp .neq 24 (.agg (cfV C)) (.agg (cfV D))).run Tryd.prog w = .ok (.bool (!eq_cf C D)) w := by rw [run_neq_struct, eqr24]; rfl
  rw [← hb]
  unfold execOp
  simp only [ho, hx, hy, Sem.run_bind, run_eqGuard_agg w .neq 24 (.tmp i) (.tmp j) _ _ Tryd.eqGuardType24, Result.andThen_ok, hn, Sem.run_pure]
theorem xl_eqf24 {o : Oper} {a : Act} {w : World} {i j : Nat} {C D : Cm} {t : TypeId} {b : Bool} (hb : (eq_cf C D) = b) (ho : o.op = .binOp .eql 24 (.tmp i) (.tmp j) t) (hx : a.tmps.toList.getD i undef = .agg (cfV C)) (hy : a.tmps.toList.getD j undef = .agg (cfV D)) : (execOp a.eval o).run Tryd.prog w = .ok (.value (.bool b)) w := by
  have hx := (evf a i).trans hx
  have hy := (evf a j).trans hy
  have hn : (binOp .eql 24 (.agg (cfV C)) (.agg (cfV D))).run Tryd.prog w = .ok (.bool (eq_cf C D)) w := by rw [run_eql_struct, eqr24]; rfl
  rw [← hb]
  unfold execOp
  simp only [ho, hx, hy, Sem.run_bind, run_eqGuard_agg w .eql 24 (.tmp i) (.tmp j) _ _ Tryd.eqGuardType24, Result.andThen_ok, hn, Sem.run_pure]
def eq_sd (C D : Cm) : Bool := decide (C.si = D.si) && (decide (C.sq = D.sq) && (decide (C.lf = D.lf) && (decide (C.r0 = D.r0) && (decide (C.r1 = D.r1) && (decide (C.r2 = D.r2) && (decide (C.s0 = D.s0) && (decide (C.s1 = D.s1) && (decide (C.s2 = D.s2) && (decide (C.u0 = D.u0) && (decide (C.u1 = D.u1) && (decide (C.u2 = D.u2) && (decide (C.pk = D.pk) && (decide (C.bt = D.bt))))))))))))))
set_option maxHeartbeats 16000000 in
set_option maxRecDepth 100000 in
theorem eqr28 (C D : Cm) (W : World) : (Op.equalIn 10000 28 (.agg (sdV C)) (.agg (sdV D))).run Tryd.prog W = .ok (eq_sd C D) W := by
  obtain ⟨a0, a1, a2, a3, a4, a5, a6, a7, a8, a9, a10, a11, a12, a13, a14, a15, a16, a17, a18, a19, a20, a21, a22, a23⟩ := C
  obtain ⟨b0, b1, b2, b3, b4, b5, b6, b7, b8, b9, b10, b11, b12, b13, b14, b15, b16, b17, b18, b19, b20, b21, b22, b23⟩ := D
  unfold sdV eq_sd
  simp [go_sem]
  refine ifs Iff.rfl (ifs Iff.rfl (ifs Iff.rfl (ifs Int.natCast_inj (ifs Int.natCast_inj (ifs Int.natCast_inj (ifs Int.natCast_inj (ifs Int.natCast_inj (ifs Int.natCast_inj (ifs Int.natCast_inj (ifs Int.natCast_inj (ifs Int.natCast_inj (ifs Iff.rfl (?_)))))))))))))
  exact ifl Iff.rfl
theorem built28_0 : Tryd.prog.built 28 [] = some (sdV (Cm.zero 0)) := by kernel_rfl
theorem xl_nef28 {o : Oper} {a : Act} {w : World} {i j : Nat} {C D : Cm} {t : TypeId} {b : Bool} (hb : (!eq_sd C D) = b) (ho : o.op = .binOp .neq 28 (.tmp i) (.tmp j) t) (hx : a.tmps.toList.getD i undef = .agg (sdV C)) (hy : a.tmps.toList.getD j undef = .agg (sdV D)) : (execOp a.eval o).run Tryd.prog w = .ok (.value (.bool b)) w := by
  have hx := (evf a i).trans hx
  have hy := (evf a j).trans hy
  have hn : (binOp .neq 28 (.agg (sdV C)) (.agg (sdV D))).run Tryd.prog w = .ok (.bool (!eq_sd C D)) w := by rw [run_neq_struct, eqr28]; rfl
  rw [← hb]
  unfold execOp
  simp only [ho, hx, hy, Sem.run_bind, run_eqGuard_agg w .neq 28 (.tmp i) (.tmp j) _ _ Tryd.eqGuardType28, Result.andThen_ok, hn, Sem.run_pure]
theorem xl_eqf28 {o : Oper} {a : Act} {w : World} {i j : Nat} {C D : Cm} {t : TypeId} {b : Bool} (hb : (eq_sd C D) = b) (ho : o.op = .binOp .eql 28 (.tmp i) (.tmp j) t) (hx : a.tmps.toList.getD i undef = .agg (sdV C)) (hy : a.tmps.toList.getD j undef = .agg (sdV D)) : (execOp a.eval o).run Tryd.prog w = .ok (.value (.bool b)) w := by
  have hx := (evf a i).trans hx
  have hy := (evf a j).trans hy
  have hn : (binOp .eql 28 (.agg (sdV C)) (.agg (sdV D))).run Tryd.prog w = .ok (.bool (eq_sd C D)) w := by rw [run_eql_struct, eqr28]; rfl
  rw [← hb]
  unfold execOp
  simp only [ho, hx, hy, Sem.run_bind, run_eqGuard_agg w .eql 28 (.tmp i) (.tmp j) _ _ Tryd.eqGuardType28, Result.andThen_ok, hn, Sem.run_pure]
def eq_pa (C D : Cm) : Bool := decide (C.pid = D.pid) && (decide (C.pc = D.pc) && (decide (C.pl = D.pl) && (decide (C.pa = D.pa))))
set_option maxHeartbeats 16000000 in
set_option maxRecDepth 100000 in
theorem eqr30 (C D : Cm) (W : World) : (Op.equalIn 10000 30 (.agg (paV C)) (.agg (paV D))).run Tryd.prog W = .ok (eq_pa C D) W := by
  obtain ⟨a0, a1, a2, a3, a4, a5, a6, a7, a8, a9, a10, a11, a12, a13, a14, a15, a16, a17, a18, a19, a20, a21, a22, a23⟩ := C
  obtain ⟨b0, b1, b2, b3, b4, b5, b6, b7, b8, b9, b10, b11, b12, b13, b14, b15, b16, b17, b18, b19, b20, b21, b22, b23⟩ := D
  unfold paV eq_pa
  simp [go_sem]
  refine ifs Int.natCast_inj (ifs Iff.rfl (ifs Iff.rfl (?_)))
  exact ifl Int.natCast_inj
theorem built30_0 : Tryd.prog.built 30 [] = some (paV (Cm.zero 0)) := by kernel_rfl
theorem xl_nef30 {o : Oper} {a : Act} {w : World} {i j : Nat} {C D : Cm} {t : TypeId} {b : Bool} (hb : (!eq_pa C D) = b) (ho : o.op = .binOp .neq 30 (.tmp i) (.tmp j) t) (hx : a.tmps.toList.getD i undef = .agg (paV C)) (hy : a.tmps.toList.getD j undef = .agg (paV D)) : (execOp a.eval o).run Tryd.prog w = .ok (.value (.bool b)) w := by
  have hx := (evf a i).trans hx
  have hy := (evf a j).trans hy
  have hn : (binOp .neq 30 (.agg (paV C)) (.agg (paV D))).run Tryd.prog w = .ok (.bool (!eq_pa C D)) w := by rw [run_neq_struct, eqr30]; rfl
  rw [← hb]
  unfold execOp
  simp only [ho, hx, hy, Sem.run_bind, run_eqGuard_agg w .neq 30 (.tmp i) (.tmp j) _ _ Tryd.eqGuardType30, Result.andThen_ok, hn, Sem.run_pure]
theorem xl_eqf30 {o : Oper} {a : Act} {w : World} {i j : Nat} {C D : Cm} {t : TypeId} {b : Bool} (hb : (eq_pa C D) = b) (ho : o.op = .binOp .eql 30 (.tmp i) (.tmp j) t) (hx : a.tmps.toList.getD i undef = .agg (paV C)) (hy : a.tmps.toList.getD j undef = .agg (paV D)) : (execOp a.eval o).run Tryd.prog w = .ok (.value (.bool b)) w := by
  have hx := (evf a i).trans hx
  have hy := (evf a j).trans hy
  have hn : (binOp .eql 30 (.agg (paV C)) (.agg (paV D))).run Tryd.prog w = .ok (.bool (eq_pa C D)) w := by rw [run_eql_struct, eqr30]; rfl
  rw [← hb]
  unfold execOp
  simp only [ho, hx, hy, Sem.run_bind, run_eqGuard_agg w .eql 30 (.tmp i) (.tmp j) _ _ Tryd.eqGuardType30, Result.andThen_ok, hn, Sem.run_pure]
end Go.Proofs.YtamjnekdfhocdaaDoor
