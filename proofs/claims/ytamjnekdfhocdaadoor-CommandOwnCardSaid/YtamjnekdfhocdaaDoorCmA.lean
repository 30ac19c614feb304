/- Whole rows in and out of blocks, in laws that name the new worlds by letters; the cells of a command, of its parts, of a reply. No condition. -/
import Derived.Test.YtamjnekdfhocdaaDoorCmM
import Derived.Test.YtamjnekdfhocdaaDoorObP
import Derived.Deep.MidRow
import Derived.Deep.WholeRow
import Derived.Laws.StructEq
namespace Go.Proofs.YtamjnekdfhocdaaDoor
open Go.ChangeShapes Go.WideShapes Go.Deep Go.RowKit
set_option linter.unusedVariables false
/-! ### Rows -/
/-- c with the cells from o on replaced by vs. -/
def spl (c : Array Value) (o : Nat) : List Value → Array Value
  | [] => c
  | v :: r => spl (c.setIfInBounds o v) (o + 1) r
theorem Box.setCells {W : World} {B : Nat} {t : TypeId} : ∀ (vs : List Value) (o : Nat) (W : World) (c : Array Value), Box W B c t → Box (W.setCells B o vs) B (spl c o vs) t
  | [], _, _, _, h => h
  | v :: r, o, W, c, h => Box.setCells (W := W) r (o + 1) _ _ (h.set o v)
theorem But.setCells {B : Nat} : ∀ (vs : List Value) (o : Nat) (w w' : World), But B w w' → But B w (w'.setCells B o vs)
  | [], _, _, _, h => h
  | v :: r, o, w, w', h => But.setCells r (o + 1) _ _ (h.set o v)
theorem Box.range {W : World} {B : Nat} {c : Array Value} {t : TypeId} (h : Box W B c t) (o n : Nat) : W.rangeAt B o (c.extract o (o + n)).toList := World.rangeAt_of_block h o n
theorem Box.there {W : World} {B : Nat} {c : Array Value} {t : TypeId} (h : Box W B c t) {o n : Nat} (hn : o + n ≤ c.size) : W.there B o n := fun j hj => by
  refine ⟨?_, h.thaw _⟩
  rw [h.cell, Array.getElem?_eq_getElem (by omega)]
  rfl
section
variable {P : Program} {ops : Array Oper} {rest : List Oper} {o : Oper} {a : Act} {w : World} {Q : Exit → Act → World → Prop}
/-- A row is loaded from a block, from offset k on. -/
theorem wl_load (ty : TypeId) {x : Operand} {B k n : Nat} {c cs : Array Value} {t : TypeId} {d : TypeDesc} (hB : Box w B c t) (hgd : o.guard = none) (ho : o.op = .load ty x) (hx : a.eval x = .pointer (some ⟨B, k, none⟩))
    (hu : P.underlying ty = some d) (hd : d.isRow = true) (hi : (P.info? ty).map (·.size) = some n) (hs : k + n ≤ c.size) (hc : c.extract k (k + n) = cs)
    (h : wpList P ops Q rest (a.put o.dst (.agg cs)) w) : wpList P ops Q (o :: rest) a w := by
  refine wpList_load_mid hgd ty x ho B k hx (c.extract k (k + n)).toList d (hB.range k n) hu hd ?_ ?_
  · rw [hi, Array.length_toList, Array.size_extract]
    congr 1
    omega
  · rw [Array.toArray_toList, hc]
    exact h
/-- A row is stored in a block, from offset k on. -/
theorem wl_store (ty : TypeId) {x y : Operand} {B k n : Nat} {c vs c' : Array Value} {t : TypeId} (hB : Box w B c t) (hgd : o.guard = none) (ho : o.op = .store ty x y) (hx : a.eval x = .pointer (some ⟨B, k, none⟩)) (hy : a.eval y = .agg vs)
    (hi : (P.info? ty).map (·.size) = some n) (hn : vs.size = n) (hs : k + n ≤ c.size) (h1 : vs.all (·.oneCell') = true) (hc : spl c k vs.toList = c')
    (h : ∀ w', Box w' B c' t → But B w w' → wpList P ops Q rest (a.put o.dst undef) w') : wpList P ops Q (o :: rest) a w := by
  subst hn
  refine wpList_store_mid hgd ty x y ho B k vs hx hy (hB.there hs) hi h1 (h _ ?_ ?_)
  · rw [← hc]
    exact Box.setCells (W := w) vs.toList k w c hB
  · exact But.setCells vs.toList k w w (But.refl B w)
/-- A new variable that holds a value. -/
theorem wl_box (t : TypeId) {x : Operand} {c : Array Value} (hgd : o.guard = none) (ho : o.op = .box t x) (hx : a.eval x = .agg c)
    (h : ∀ w', Box w' w.heap.size c t → Below w.heap.size w w' → wpList P ops Q rest (a.put o.dst (.pointer (some ⟨w.heap.size, 0, none⟩))) w') : wpList P ops Q (o :: rest) a w := by
  refine wpList_plain hgd fun K hK => ?_
  unfold Oper.wp execOp
  simp only [ho, hx, Sem.run_bind, Instr.box, newVar, newRow, run_newObj_alloc, Sem.run_pure, Result.andThen_ok, Value.cells]
  exact hK _ _ (h _ (Box.new w t c) (up1 w _))
/-- A new variable that holds zero. -/
theorem wl_alloc (t : TypeId) {c : Array Value} (hgd : o.guard = none) (ho : o.op = .alloc t) (hz : (P.info? t).map (fun i => i.zero) = some (some (.agg c)))
    (h : ∀ w', Box w' w.heap.size c t → Below w.heap.size w w' → wpList P ops Q rest (a.put o.dst (.pointer (some ⟨w.heap.size, 0, none⟩))) w') : wpList P ops Q (o :: rest) a w := by
  refine wpList_plain hgd fun K hK => ?_
  cases hq : P.info? t with
  | none => simp [hq] at hz
  | some i =>
    have hz' : i.zero = some (.agg c) := by simpa [hq] using hz
    unfold Oper.wp execOp
    simp only [ho, Sem.run_bind, Instr.alloc, zeroValue, typeInfo, hq, hz', newVar, newRow, run_newObj_alloc, Sem.run_pure, Result.andThen_ok, Value.cells, run_program]
    exact hK _ _ (h _ (Box.new w t c) (up1 w _))
/-- A value of parts. -/
theorem wl_build (t : TypeId) {parts : List (Nat × Operand)} {c : Array Value} (hgd : o.guard = none) (ho : o.op = .build t parts.toArray) (hc : P.built t (parts.map fun x => (x.1, a.eval x.2)) = some c)
    (h : wpList P ops Q rest (a.put o.dst (.agg c)) w) : wpList P ops Q (o :: rest) a w := by
  have e : P.built t (parts.toArray.map fun x => (x.1, a.eval x.2)).toList = some c := by
    rw [← hc]
    congr 1
    simp
  refine wpList_build hgd t parts.toArray ho (by rw [show P.built t (parts.toArray.map fun x => (x.1, a.eval x.2)).toList = some c from e]; rfl) ?_
  rw [show P.built t (parts.toArray.map fun x => (x.1, a.eval x.2)).toList = some c from e]
  exact h
end
/-- In a region that draws its order: a row is loaded. -/
theorem xl_load {P : Program} (ty : TypeId) {o : Oper} {a : Act} {w : World} {x : Operand} {B k n : Nat} {c cs : Array Value} {t : TypeId} {d : TypeDesc} (hB : Box w B c t) (ho : o.op = .load ty x) (hx : a.eval x = .pointer (some ⟨B, k, none⟩))
    (hu : P.underlying ty = some d) (hd : d.isRow = true) (hi : (P.info? ty).map (·.size) = some n) (hs : k + n ≤ c.size) (hc : c.extract k (k + n) = cs) : (execOp a.eval o).run P w = .ok (.value (.agg cs)) w := by
  unfold execOp
  have h := run_loadVar_mid (P := P) w B k ty (c.extract k (k + n)).toList d (hB.range k n) hu hd (by rw [hi, Array.length_toList, Array.size_extract]; congr 1; omega)
  rw [Array.toArray_toList, hc] at h
  simp only [ho, hx, Instr.loadAt, Instr.sureAddr, Sem.run_bind, Sem.run_pure, Result.andThen_ok, h]
/-! ### The cells of a command -/
def cmV (C : Cm) : Array Value := #[.int .u8 (C.k : Int), .int .u64 (C.rate : Int), .int .i64 C.most, .int .u64 (C.hor : Int), .int .i64 C.si, .int .i64 C.sq, .bool C.lf, .int .u64 (C.r0 : Int), .int .u64 (C.r1 : Int), .int .u64 (C.r2 : Int), .int .u64 (C.s0 : Int), .int .u64 (C.s1 : Int), .int .u64 (C.s2 : Int), .int .u64 (C.u0 : Int), .int .u64 (C.u1 : Int), .int .u64 (C.u2 : Int), .int .i64 C.pk, .int .i64 C.bt, .int .i64 C.id, .int .u64 (C.pid : Int), .int .i64 C.pc, .int .i64 C.pl, .int .u64 (C.pa : Int), .int .u64 (C.to : Int)]
def cfV (C : Cm) : Array Value := #[.int .u64 (C.rate : Int), .int .i64 C.most, .int .u64 (C.hor : Int)]
def sdV (C : Cm) : Array Value := #[.int .i64 C.si, .int .i64 C.sq, .bool C.lf, .int .u64 (C.r0 : Int), .int .u64 (C.r1 : Int), .int .u64 (C.r2 : Int), .int .u64 (C.s0 : Int), .int .u64 (C.s1 : Int), .int .u64 (C.s2 : Int), .int .u64 (C.u0 : Int), .int .u64 (C.u1 : Int), .int .u64 (C.u2 : Int), .int .i64 C.pk, .int .i64 C.bt]
def paV (C : Cm) : Array Value := #[.int .u64 (C.pid : Int), .int .i64 C.pc, .int .i64 C.pl, .int .u64 (C.pa : Int)]
def c0V (C : Cm) : Array Value := #[.int .u64 (C.r0 : Int), .int .u64 (C.r1 : Int), .int .u64 (C.r2 : Int)]
def c1V (C : Cm) : Array Value := #[.int .u64 (C.s0 : Int), .int .u64 (C.s1 : Int), .int .u64 (C.s2 : Int)]
def c2V (C : Cm) : Array Value := #[.int .u64 (C.u0 : Int), .int .u64 (C.u1 : Int), .int .u64 (C.u2 : Int)]
theorem cmV_size (C : Cm) : (cmV C).size = 24 := rfl
theorem sdV_size (C : Cm) : (sdV C).size = 14 := rfl
theorem cmV_cf (C : Cm) : (cmV C).extract 1 (1 + 3) = cfV C := by kernel_rfl
theorem cmV_sd (C : Cm) : (cmV C).extract 4 (4 + 14) = sdV C := by kernel_rfl
theorem cmV_pa (C : Cm) : (cmV C).extract 19 (19 + 4) = paV C := by kernel_rfl
theorem cmV_c0 (C : Cm) : (cmV C).extract 7 (7 + 3) = c0V C := by kernel_rfl
theorem cmV_c1 (C : Cm) : (cmV C).extract 10 (10 + 3) = c1V C := by kernel_rfl
theorem cmV_c2 (C : Cm) : (cmV C).extract 13 (13 + 3) = c2V C := by kernel_rfl
theorem sdV_c0 (C : Cm) : (sdV C).extract 3 (3 + 3) = c0V C := by kernel_rfl
theorem sdV_c1 (C : Cm) : (sdV C).extract 6 (6 + 3) = c1V C := by kernel_rfl
theorem sdV_c2 (C : Cm) : (sdV C).extract 9 (9 + 3) = c2V C := by kernel_rfl
theorem cmV_all (C : Cm) : (cmV C).extract 0 (0 + 24) = cmV C := by kernel_rfl
theorem sdV_all (C : Cm) : (sdV C).extract 0 (0 + 14) = sdV C := by kernel_rfl
theorem cmV_0 (C : Cm) : (cmV C)[0]? = some (.int .u8 (C.k : Int)) := rfl
theorem cmV_1 (C : Cm) : (cmV C)[1]? = some (.int .u64 (C.rate : Int)) := rfl
theorem cmV_2 (C : Cm) : (cmV C)[2]? = some (.int .i64 C.most) := rfl
theorem cmV_3 (C : Cm) : (cmV C)[3]? = some (.int .u64 (C.hor : Int)) := rfl
theorem cmV_4 (C : Cm) : (cmV C)[4]? = some (.int .i64 C.si) := rfl
theorem cmV_5 (C : Cm) : (cmV C)[5]? = some (.int .i64 C.sq) := rfl
theorem cmV_6 (C : Cm) : (cmV C)[6]? = some (.bool C.lf) := rfl
theorem cmV_7 (C : Cm) : (cmV C)[7]? = some (.int .u64 (C.r0 : Int)) := rfl
theorem cmV_8 (C : Cm) : (cmV C)[8]? = some (.int .u64 (C.r1 : Int)) := rfl
theorem cmV_9 (C : Cm) : (cmV C)[9]? = some (.int .u64 (C.r2 : Int)) := rfl
theorem cmV_10 (C : Cm) : (cmV C)[10]? = some (.int .u64 (C.s0 : Int)) := rfl
theorem cmV_11 (C : Cm) : (cmV C)[11]? = some (.int .u64 (C.s1 : Int)) := rfl
theorem cmV_12 (C : Cm) : (cmV C)[12]? = some (.int .u64 (C.s2 : Int)) := rfl
theorem cmV_13 (C : Cm) : (cmV C)[13]? = some (.int .u64 (C.u0 : Int)) := rfl
theorem cmV_14 (C : Cm) : (cmV C)[14]? = some (.int .u64 (C.u1 : Int)) := rfl
theorem cmV_15 (C : Cm) : (cmV C)[15]? = some (.int .u64 (C.u2 : Int)) := rfl
theorem cmV_16 (C : Cm) : (cmV C)[16]? = some (.int .i64 C.pk) := rfl
theorem cmV_17 (C : Cm) : (cmV C)[17]? = some (.int .i64 C.bt) := rfl
theorem cmV_18 (C : Cm) : (cmV C)[18]? = some (.int .i64 C.id) := rfl
theorem cmV_19 (C : Cm) : (cmV C)[19]? = some (.int .u64 (C.pid : Int)) := rfl
theorem cmV_20 (C : Cm) : (cmV C)[20]? = some (.int .i64 C.pc) := rfl
theorem cmV_21 (C : Cm) : (cmV C)[21]? = some (.int .i64 C.pl) := rfl
theorem cmV_22 (C : Cm) : (cmV C)[22]? = some (.int .u64 (C.pa : Int)) := rfl
theorem cmV_23 (C : Cm) : (cmV C)[23]? = some (.int .u64 (C.to : Int)) := rfl
theorem sdV_0 (C : Cm) : (sdV C)[0]? = some (.int .i64 C.si) := rfl
theorem sdV_1 (C : Cm) : (sdV C)[1]? = some (.int .i64 C.sq) := rfl
theorem sdV_2 (C : Cm) : (sdV C)[2]? = some (.bool C.lf) := rfl
theorem sdV_3 (C : Cm) : (sdV C)[3]? = some (.int .u64 (C.r0 : Int)) := rfl
theorem sdV_4 (C : Cm) : (sdV C)[4]? = some (.int .u64 (C.r1 : Int)) := rfl
theorem sdV_5 (C : Cm) : (sdV C)[5]? = some (.int .u64 (C.r2 : Int)) := rfl
theorem sdV_6 (C : Cm) : (sdV C)[6]? = some (.int .u64 (C.s0 : Int)) := rfl
theorem sdV_7 (C : Cm) : (sdV C)[7]? = some (.int .u64 (C.s1 : Int)) := rfl
theorem sdV_8 (C : Cm) : (sdV C)[8]? = some (.int .u64 (C.s2 : Int)) := rfl
theorem sdV_9 (C : Cm) : (sdV C)[9]? = some (.int .u64 (C.u0 : Int)) := rfl
theorem sdV_10 (C : Cm) : (sdV C)[10]? = some (.int .u64 (C.u1 : Int)) := rfl
theorem sdV_11 (C : Cm) : (sdV C)[11]? = some (.int .u64 (C.u2 : Int)) := rfl
theorem sdV_12 (C : Cm) : (sdV C)[12]? = some (.int .i64 C.pk) := rfl
theorem sdV_13 (C : Cm) : (sdV C)[13]? = some (.int .i64 C.bt) := rfl
theorem cmV_one (C : Cm) : (cmV C).all (·.oneCell') = true := by kernel_rfl
theorem sdV_one (C : Cm) : (sdV C).all (·.oneCell') = true := by kernel_rfl
theorem zero32 : (Tryd.prog.info? 32).map (fun i => i.zero) = some (some (.agg (cmV (Cm.zero 0)))) := by kernel_rfl
theorem size32 : (Tryd.prog.info? 32).map (·.size) = some 24 := by kernel_rfl
theorem size28 : (Tryd.prog.info? 28).map (·.size) = some 14 := by kernel_rfl
theorem size110 : (Tryd.prog.info? 110).map (·.size) = some 14 := by kernel_rfl
theorem size24 : (Tryd.prog.info? 24).map (·.size) = some 3 := by kernel_rfl
theorem size26 : (Tryd.prog.info? 26).map (·.size) = some 3 := by kernel_rfl
theorem size30 : (Tryd.prog.info? 30).map (·.size) = some 4 := by kernel_rfl
theorem built32 (C : Cm) : Tryd.prog.built 32 [(0, .int .u8 (C.k : Int))] = some (cmV (Cm.zero C.k)) := by kernel_rfl
theorem built28 (C : Cm) : Tryd.prog.built 28 [(0, .int .i64 C.si)] = some (sdV { Cm.zero 0 with si := C.si }) := by kernel_rfl
end Go.Proofs.YtamjnekdfhocdaaDoor
