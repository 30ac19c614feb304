/- The laws of single operations, their slots looked up in the list. No condition. -/
import Derived.Test.YtamjnekdfhocdaaDoorCwB
namespace Go.Proofs.YtamjnekdfhocdaaDoor
open Go.ChangeShapes Go.WideShapes Go.Deep Go.RowKit
set_option linter.unusedVariables false
set_option linter.unusedSimpArgs false
theorem evf (a : Act) (i : Nat) : a.eval (.tmp i) = a.tmps.toList.getD i undef := by
  show a.tmps.getD i undef = _
  simp [List.getD]
section
variable {P : Program} {ops : Array Oper} {rest : List Oper} {o : Oper} {a : Act} {w : World} {Q : Exit → Act → World → Prop}
theorem at_list (h : wpList P ops Q (o :: rest) a w) : wpList P ops Q (o :: rest) a w := h
theorem wl_loadf (ty : TypeId) {i B k n : Nat} {c cs : Array Value} {t : TypeId} {d : TypeDesc} (hB : Box w B c t) (hgd : o.guard = none) (ho : o.op = .load ty (.tmp i)) (hx : a.tmps.toList.getD i undef = .pointer (some ⟨B, k, none⟩))
    (hu : P.underlying ty = some d) (hd : d.isRow = true) (hi : (P.info? ty).map (·.size) = some n) (hs : k + n ≤ c.size) (hc : c.extract k (k + n) = cs)
    (h : wpList P ops Q rest (a.put o.dst (.agg cs)) w) : wpList P ops Q (o :: rest) a w := wl_load ty hB hgd ho ((evf a i).trans hx) hu hd hi hs hc h
theorem wl_storef (ty : TypeId) {i j B k n : Nat} {c vs c' : Array Value} {t : TypeId} (hB : Box w B c t) (hgd : o.guard = none) (ho : o.op = .store ty (.tmp i) (.tmp j)) (hx : a.tmps.toList.getD i undef = .pointer (some ⟨B, k, none⟩)) (hy : a.tmps.toList.getD j undef = .agg vs)
    (hi : (P.info? ty).map (·.size) = some n) (hn : vs.size = n) (hs : k + n ≤ c.size) (h1 : vs.all (·.oneCell') = true) (hc : spl c k vs.toList = c')
    (h : ∀ w', Box w' B c' t → But B w w' → wpList P ops Q rest (a.put o.dst undef) w') : wpList P ops Q (o :: rest) a w := wl_store ty hB hgd ho ((evf a i).trans hx) ((evf a j).trans hy) hi hn hs h1 hc h
theorem xl_loadf (ty : TypeId) {i B k n : Nat} {c cs : Array Value} {t : TypeId} {d : TypeDesc} (hB : Box w B c t) (ho : o.op = .load ty (.tmp i)) (hx : a.tmps.toList.getD i undef = .pointer (some ⟨B, k, none⟩))
    (hu : P.underlying ty = some d) (hd : d.isRow = true) (hi : (P.info? ty).map (·.size) = some n) (hs : k + n ≤ c.size) (hc : c.extract k (k + n) = cs) : (execOp a.eval o).run P w = .ok (.value (.agg cs)) w := xl_load ty hB ho ((evf a i).trans hx) hu hd hi hs hc
theorem wanted_f {g t : Nat} {b : Bool} {oj : Oper} (hg : o.guard = some (g, b)) (hj : ops.toList[g]? = some oj) (hd : oj.dst = some t) (hv : a.tmps.toList[t]? = some (.bool b)) : Region.wanted o (yielded ops a.tmps) = true := by
  unfold Region.wanted
  rw [hg]
  simp only [yielded]
  rw [← Array.getElem?_toList, hj]
  simp only [Option.bind_some, hd]
  rw [← Array.getElem?_toList, hv]
  simp
end
theorem xl_nef32 {o : Oper} {a : Act} {w : World} {i j : Nat} {C D : Cm} {t : TypeId} {b : Bool} (hb : (!decide (C = D)) = b) (ho : o.op = .binOp .neq 32 (.tmp i) (.tmp j) t) (hx : a.tmps.toList.getD i undef = .agg (cmV C)) (hy : a.tmps.toList.getD j undef = .agg (cmV D)) : (execOp a.eval o).run Tryd.prog w = .ok (.value (.bool b)) w := xl_neb32 hb ho ((evf a i).trans hx) ((evf a j).trans hy)
theorem xl_eqf32 {o : Oper} {a : Act} {w : World} {i j : Nat} {C D : Cm} {t : TypeId} {b : Bool} (hb : (decide (C = D)) = b) (ho : o.op = .binOp .eql 32 (.tmp i) (.tmp j) t) (hx : a.tmps.toList.getD i undef = .agg (cmV C)) (hy : a.tmps.toList.getD j undef = .agg (cmV D)) : (execOp a.eval o).run Tryd.prog w = .ok (.value (.bool b)) w := xl_eqb32 hb ho ((evf a i).trans hx) ((evf a j).trans hy)
theorem xl_nef37 {o : Oper} {a : Act} {w : World} {i j : Nat} {C D : Rp} {t : TypeId} {b : Bool} (hb : (!decide (C = D)) = b) (ho : o.op = .binOp .neq 37 (.tmp i) (.tmp j) t) (hx : a.tmps.toList.getD i undef = .agg (rpV C)) (hy : a.tmps.toList.getD j undef = .agg (rpV D)) : (execOp a.eval o).run Tryd.prog w = .ok (.value (.bool b)) w := xl_neb37 hb ho ((evf a i).trans hx) ((evf a j).trans hy)
theorem xl_eqf37 {o : Oper} {a : Act} {w : World} {i j : Nat} {C D : Rp} {t : TypeId} {b : Bool} (hb : (decide (C = D)) = b) (ho : o.op = .binOp .eql 37 (.tmp i) (.tmp j) t) (hx : a.tmps.toList.getD i undef = .agg (rpV C)) (hy : a.tmps.toList.getD j undef = .agg (rpV D)) : (execOp a.eval o).run Tryd.prog w = .ok (.value (.bool b)) w := xl_eqb37 hb ho ((evf a i).trans hx) ((evf a j).trans hy)
end Go.Proofs.YtamjnekdfhocdaaDoor
