/- Further laws of single operations; the document's own command. No condition. -/
import Derived.Test.YtamjnekdfhocdaaDoorCmL
namespace Go.Proofs.YtamjnekdfhocdaaDoor
open Go.ChangeShapes Go.WideShapes Go.Deep Go.RowKit
set_option linter.unusedVariables false
set_option linter.unusedSimpArgs false
section
variable {P : Program} {ops : Array Oper} {rest : List Oper} {o : Oper} {a : Act} {w : World} {Q : Exit → Act → World → Prop}
/-- One cell is stored in a block. -/
theorem wl_put (ty : TypeId) {x y : Operand} {B k : Nat} {c c' : Array Value} {t : TypeId} {v : Value} (hB : Box w B c t) (hgd : o.guard = none) (ho : o.op = .store ty x y) (hx : a.eval x = .pointer (some ⟨B, k, none⟩)) (hy : a.eval y = v)
    (hv : v.cells = #[v]) (h1 : v.oneCell' = true) (hi : (P.info? ty).map (·.size) = some 1) (hs : k < c.size) (hc : c.setIfInBounds k v = c')
    (h : ∀ w', Box w' B c' t → But B w w' → wpList P ops Q rest (a.put o.dst undef) w') : wpList P ops Q (o :: rest) a w := by
  have hst : (storeVar ty ⟨B, k, none⟩ v).run P w = .ok () (w.setCell ⟨B, k, none⟩ v) := by
    have := run_storeCells_cells (P := P) B k [v] 0 w (fun j hj => by simpa using ((hB.there (o := k) (n := 1) (by omega)) j (by simpa using hj)).1) (fun j hj => by simpa using ((hB.there (o := k) (n := 1) (by omega)) j (by simpa using hj)).2)
      (fun u hu => by
        have e : u = v := by simpa using hu
        rw [e]; exact h1)
    cases hq : P.info? ty with
    | none => simp [hq] at hi
    | some i =>
      have hs : i.size = 1 := by simpa [hq] using hi
      simp only [Nat.add_zero] at this
      simp [storeVar, sizeOf, typeInfo, hq, hv, hs, this, World.setCells]
  refine wpList_plain hgd fun K hK => ?_
  unfold Oper.wp execOp
  simp only [ho, hx, hy, Instr.storeAt, Instr.sureAddr, Sem.run_bind, Sem.run_pure, Result.andThen_ok, hst]
  exact hK _ _ (h _ (by rw [← hc]; exact hB.set k v) ((But.refl B w).set k v))
/-- One cell is loaded from a block. -/
theorem xl_cell (ty : TypeId) {x : Operand} {B k : Nat} {c : Array Value} {t : TypeId} {v : Value} {d : TypeDesc} (hB : Box w B c t) (ho : o.op = .load ty x) (hx : a.eval x = .pointer (some ⟨B, k, none⟩))
    (hu : P.underlying ty = some d) (hd : d.isRow = false) (hc : c[k]? = some v) : (execOp a.eval o).run P w = .ok (.value v) w := by
  have hl : (loadVar ty ⟨B, k, none⟩).run P w = .ok v w := by
    have hagg : (isAgg ty).run P w = .ok false w := by
      unfold isAgg
      rw [Sem.run_bind, run_underlying hu w]
      cases d <;> simp_all
    have hcell : w.cell? ⟨B, k, none⟩ = some v := (hB.cell k).trans hc
    simp [loadVar, Sem.run_bind, hagg, run_load, hcell]
  unfold execOp
  simp only [ho, hx, Instr.loadAt, Instr.sureAddr, Sem.run_bind, Sem.run_pure, Result.andThen_ok, hl]
/-- Two strings, one behind the other. -/
theorem xl_add {x y : Operand} {A B : List UInt8} {t : TypeId} (hl : A.length + B.length < 1000000) (ho : o.op = .binOp .add 9 x y t) (hx : a.eval x = .string (bs A)) (hy : a.eval y = .string (bs B)) : (execOp a.eval o).run P w = .ok (.value (.string (bs (A ++ B)))) w := by
  have h := run_string_add_sum (P := P) (w := w) (bs A) (bs B) (by rw [bs_size, bs_size]; omega)
  rw [bs_append] at h
  unfold execOp
  simp only [ho, hx, hy, Sem.run_bind, eqGuard, binOp, Sem.run_pure, Result.andThen_ok, h, Bool.not_false, if_true]
end
theorem size3 : (Tryd.prog.info? 3).map (·.size) = some 1 := by kernel_rfl
theorem size22 : (Tryd.prog.info? 22).map (·.size) = some 1 := by kernel_rfl
theorem size4 : (Tryd.prog.info? 4).map (·.size) = some 1 := by kernel_rfl
set_option maxHeartbeats 16000000 in
set_option maxRecDepth 100000 in
theorem rown_1 {C : Cm} (hk : C.k = 1) (w : World) : Calls Tryd.prog 18 #[.agg (cmV C)] w fun e w' => e = .returned (.agg (cmV (ownC C))) ∧ Below w.heap.size w w' := by
  have hown : spl (cmV (Cm.zero 1)) 1 (cfV C).toList = cmV (ownC C) := by obtain ⟨a0, a1, a2, a3, a4, a5, a6, a7, a8, a9, a10, a11, a12, a13, a14, a15, a16, a17, a18, a19, a20, a21, a22, a23⟩ := C; simp only at hk; subst hk; kernel_rfl
  have hone : (cfV C).all (·.oneCell') = true := by kernel_rfl
  go_enter Tryd.func18, Tryd.ntmps18
  go_upto_region 1 with (first
    | (refine wl_box 32 rfl rfl rfl ?_; intro w1 X1 T1)
    | (refine wl_alloc 32 rfl rfl zero32 ?_; intro w2 R2 T2; have X2 := X1.below T2))
  have hc := (X2.cell 0).trans (cmV_0 C)
  rw [hk] at hc
  go_upto_region 2 with (first
    | (refine wl_build 32 rfl rfl (builtk C.k) ?_)
    | (refine wl_build 32 rfl rfl (builtk 1) ?_)
    | (refine wl_alloc 32 rfl rfl zero32 ?_; intro w3 Z3 T3; have X3 := X2.below T3; have R3 := R2.below T3)
    | (refine wl_store 32 Z3 rfl rfl rfl rfl size32 rfl (by omega : 0 + 24 ≤ 24) (cmV_one _) (spl24 _ _) ?_; intro w4 Z4 K4; have X4 := K4.box X3 (Nat.ne_of_lt X2.lt); have R4 := K4.box R3 (Nat.ne_of_lt R2.lt)))
  have L1 := T1.size
  have L2 := T2.size
  have n1 : w.heap.size < w2.heap.size := X2.lt
  have n2 : w1.heap.size < w2.heap.size := R2.lt
  have T4 : Below w.heap.size w w4 := K4.up (ups (ups T1 T2 T1.size) T3 (Nat.le_trans T1.size T2.size)) (Nat.le_trans T1.size T2.size)
  clear hc X1 T1 X2 R2 T2 X3 R3 Z3 T3 K4
  have hc := (X4.cell 0).trans (cmV_0 C)
  rw [hk] at hc
  go_wp2_with (first
    | (refine wl_load 24 X4 rfl rfl rfl Tryd.underlying24 rfl size24 (by omega : 1 + 3 ≤ 24) (cmV_cf C) ?_)
    | (refine wl_store 24 Z4 rfl rfl rfl rfl size24 rfl (by omega : 1 + 3 ≤ 24) hone hown ?_; intro w6 Z6 K6; have R6 := K6.box R4 (Nat.ne_of_lt n2))
    | (refine wl_load 32 Z6 rfl rfl rfl Tryd.underlying32 rfl size32 (by omega : 0 + 24 ≤ 24) (cmV_all _) ?_)
    | (refine wl_store 32 R6 rfl rfl rfl rfl size32 rfl (by omega : 0 + 24 ≤ 24) (cmV_one _) (spl24 _ _) ?_; intro w7 R7 K7))
  refine bodyPost_ret (v := .agg (cmV (ownC C))) ?_ rfl ⟨rfl, K7.up (K6.up T4 (Nat.le_trans L1 L2)) L1⟩
  exact results_cell_row rfl _ _ _ _ _ _ _ rfl R7 Tryd.underlying32 rfl size32
set_option maxHeartbeats 16000000 in
set_option maxRecDepth 100000 in
theorem rown_2 {C : Cm} (hk : C.k = 2) (w : World) : Calls Tryd.prog 18 #[.agg (cmV C)] w fun e w' => e = .returned (.agg (cmV (ownC C))) ∧ Below w.heap.size w w' := by
  have hown : spl (cmV (Cm.zero 2)) 4 (sdV C).toList = cmV (ownC C) := by obtain ⟨a0, a1, a2, a3, a4, a5, a6, a7, a8, a9, a10, a11, a12, a13, a14, a15, a16, a17, a18, a19, a20, a21, a22, a23⟩ := C; simp only at hk; subst hk; kernel_rfl
  have hone : (sdV C).all (·.oneCell') = true := by kernel_rfl
  go_enter Tryd.func18, Tryd.ntmps18
  go_upto_region 1 with (first
    | (refine wl_box 32 rfl rfl rfl ?_; intro w1 X1 T1)
    | (refine wl_alloc 32 rfl rfl zero32 ?_; intro w2 R2 T2; have X2 := X1.below T2))
  have hc := (X2.cell 0).trans (cmV_0 C)
  rw [hk] at hc
  go_upto_region 2 with (first
    | (refine wl_build 32 rfl rfl (builtk C.k) ?_)
    | (refine wl_build 32 rfl rfl (builtk 2) ?_)
    | (refine wl_alloc 32 rfl rfl zero32 ?_; intro w3 Z3 T3; have X3 := X2.below T3; have R3 := R2.below T3)
    | (refine wl_store 32 Z3 rfl rfl rfl rfl size32 rfl (by omega : 0 + 24 ≤ 24) (cmV_one _) (spl24 _ _) ?_; intro w4 Z4 K4; have X4 := K4.box X3 (Nat.ne_of_lt X2.lt); have R4 := K4.box R3 (Nat.ne_of_lt R2.lt)))
  have L1 := T1.size
  have L2 := T2.size
  have n1 : w.heap.size < w2.heap.size := X2.lt
  have n2 : w1.heap.size < w2.heap.size := R2.lt
  have T4 : Below w.heap.size w w4 := K4.up (ups (ups T1 T2 T1.size) T3 (Nat.le_trans T1.size T2.size)) (Nat.le_trans T1.size T2.size)
  clear hc X1 T1 X2 R2 T2 X3 R3 Z3 T3 K4
  have hc := (X4.cell 0).trans (cmV_0 C)
  rw [hk] at hc
  go_wp2_with (first
    | (refine wl_load 28 X4 rfl rfl rfl Tryd.underlying28 rfl size28 (by omega : 4 + 14 ≤ 24) (cmV_sd C) ?_)
    | (refine wl_store 28 Z4 rfl rfl rfl rfl size28 rfl (by omega : 4 + 14 ≤ 24) hone hown ?_; intro w6 Z6 K6; have R6 := K6.box R4 (Nat.ne_of_lt n2))
    | (refine wl_load 32 Z6 rfl rfl rfl Tryd.underlying32 rfl size32 (by omega : 0 + 24 ≤ 24) (cmV_all _) ?_)
    | (refine wl_store 32 R6 rfl rfl rfl rfl size32 rfl (by omega : 0 + 24 ≤ 24) (cmV_one _) (spl24 _ _) ?_; intro w7 R7 K7))
  refine bodyPost_ret (v := .agg (cmV (ownC C))) ?_ rfl ⟨rfl, K7.up (K6.up T4 (Nat.le_trans L1 L2)) L1⟩
  exact results_cell_row rfl _ _ _ _ _ _ _ rfl R7 Tryd.underlying32 rfl size32
set_option maxHeartbeats 16000000 in
set_option maxRecDepth 100000 in
theorem rown_5 {C : Cm} (hk : C.k = 5) (w : World) : Calls Tryd.prog 18 #[.agg (cmV C)] w fun e w' => e = .returned (.agg (cmV (ownC C))) ∧ Below w.heap.size w w' := by
  have hown : spl (cmV (Cm.zero 5)) 19 (paV C).toList = cmV (ownC C) := by obtain ⟨a0, a1, a2, a3, a4, a5, a6, a7, a8, a9, a10, a11, a12, a13, a14, a15, a16, a17, a18, a19, a20, a21, a22, a23⟩ := C; simp only at hk; subst hk; kernel_rfl
  have hone : (paV C).all (·.oneCell') = true := by kernel_rfl
  go_enter Tryd.func18, Tryd.ntmps18
  go_upto_region 1 with (first
    | (refine wl_box 32 rfl rfl rfl ?_; intro w1 X1 T1)
    | (refine wl_alloc 32 rfl rfl zero32 ?_; intro w2 R2 T2; have X2 := X1.below T2))
  have hc := (X2.cell 0).trans (cmV_0 C)
  rw [hk] at hc
  go_upto_region 2 with (first
    | (refine wl_build 32 rfl rfl (builtk C.k) ?_)
    | (refine wl_build 32 rfl rfl (builtk 5) ?_)
    | (refine wl_alloc 32 rfl rfl zero32 ?_; intro w3 Z3 T3; have X3 := X2.below T3; have R3 := R2.below T3)
    | (refine wl_store 32 Z3 rfl rfl rfl rfl size32 rfl (by omega : 0 + 24 ≤ 24) (cmV_one _) (spl24 _ _) ?_; intro w4 Z4 K4; have X4 := K4.box X3 (Nat.ne_of_lt X2.lt); have R4 := K4.box R3 (Nat.ne_of_lt R2.lt)))
  have L1 := T1.size
  have L2 := T2.size
  have n1 : w.heap.size < w2.heap.size := X2.lt
  have n2 : w1.heap.size < w2.heap.size := R2.lt
  have T4 : Below w.heap.size w w4 := K4.up (ups (ups T1 T2 T1.size) T3 (Nat.le_trans T1.size T2.size)) (Nat.le_trans T1.size T2.size)
  clear hc X1 T1 X2 R2 T2 X3 R3 Z3 T3 K4
  have hc := (X4.cell 0).trans (cmV_0 C)
  rw [hk] at hc
  go_wp2_with (first
    | (refine wl_load 30 X4 rfl rfl rfl Tryd.underlying30 rfl size30 (by omega : 19 + 4 ≤ 24) (cmV_pa C) ?_)
    | (refine wl_store 30 Z4 rfl rfl rfl rfl size30 rfl (by omega : 19 + 4 ≤ 24) hone hown ?_; intro w6 Z6 K6; have R6 := K6.box R4 (Nat.ne_of_lt n2))
    | (refine wl_load 32 Z6 rfl rfl rfl Tryd.underlying32 rfl size32 (by omega : 0 + 24 ≤ 24) (cmV_all _) ?_)
    | (refine wl_store 32 R6 rfl rfl rfl rfl size32 rfl (by omega : 0 + 24 ≤ 24) (cmV_one _) (spl24 _ _) ?_; intro w7 R7 K7))
  refine bodyPost_ret (v := .agg (cmV (ownC C))) ?_ rfl ⟨rfl, K7.up (K6.up T4 (Nat.le_trans L1 L2)) L1⟩
  exact results_cell_row rfl _ _ _ _ _ _ _ rfl R7 Tryd.underlying32 rfl size32
set_option maxHeartbeats 16000000 in
set_option maxRecDepth 100000 in
theorem rown_4 {C : Cm} (hk : C.k = 4) (w : World) : Calls Tryd.prog 18 #[.agg (cmV C)] w fun e w' => e = .returned (.agg (cmV (ownC C))) ∧ Below w.heap.size w w' := by
  have hown : (cmV (Cm.zero 4)).setIfInBounds 18 (.int .i64 C.id) = cmV (ownC C) := by obtain ⟨a0, a1, a2, a3, a4, a5, a6, a7, a8, a9, a10, a11, a12, a13, a14, a15, a16, a17, a18, a19, a20, a21, a22, a23⟩ := C; simp only at hk; subst hk; kernel_rfl
  go_enter Tryd.func18, Tryd.ntmps18
  go_upto_region 1 with (first
    | (refine wl_box 32 rfl rfl rfl ?_; intro w1 X1 T1)
    | (refine wl_alloc 32 rfl rfl zero32 ?_; intro w2 R2 T2; have X2 := X1.below T2))
  have hc := (X2.cell 0).trans (cmV_0 C)
  rw [hk] at hc
  go_upto_region 2 with (first
    | (refine wl_build 32 rfl rfl (builtk C.k) ?_)
    | (refine wl_build 32 rfl rfl (builtk 4) ?_)
    | (refine wl_alloc 32 rfl rfl zero32 ?_; intro w3 Z3 T3; have X3 := X2.below T3; have R3 := R2.below T3)
    | (refine wl_store 32 Z3 rfl rfl rfl rfl size32 rfl (by omega : 0 + 24 ≤ 24) (cmV_one _) (spl24 _ _) ?_; intro w4 Z4 K4; have X4 := K4.box X3 (Nat.ne_of_lt X2.lt); have R4 := K4.box R3 (Nat.ne_of_lt R2.lt)))
  have L1 := T1.size
  have L2 := T2.size
  have n1 : w.heap.size < w2.heap.size := X2.lt
  have n2 : w1.heap.size < w2.heap.size := R2.lt
  have T4 : Below w.heap.size w w4 := K4.up (ups (ups T1 T2 T1.size) T3 (Nat.le_trans T1.size T2.size)) (Nat.le_trans T1.size T2.size)
  clear hc X1 T1 X2 R2 T2 X3 R3 Z3 T3 K4
  have hc := (X4.cell 0).trans (cmV_0 C)
  rw [hk] at hc
  have hd := (X4.cell 18).trans (cmV_18 C)
  go_wp2_with (first
    | (refine wl_put 3 Z4 rfl rfl rfl rfl rfl rfl size3 (by omega : 18 < 24) hown ?_; intro w6 Z6 K6; have R6 := K6.box R4 (Nat.ne_of_lt n2))
    | (refine wl_load 32 Z6 rfl rfl rfl Tryd.underlying32 rfl size32 (by omega : 0 + 24 ≤ 24) (cmV_all _) ?_)
    | (refine wl_store 32 R6 rfl rfl rfl rfl size32 rfl (by omega : 0 + 24 ≤ 24) (cmV_one _) (spl24 _ _) ?_; intro w7 R7 K7))
  refine bodyPost_ret (v := .agg (cmV (ownC C))) ?_ rfl ⟨rfl, K7.up (K6.up T4 (Nat.le_trans L1 L2)) L1⟩
  exact results_cell_row rfl _ _ _ _ _ _ _ rfl R7 Tryd.underlying32 rfl size32
set_option maxHeartbeats 16000000 in
set_option maxRecDepth 100000 in
theorem rown_7 {C : Cm} (hk : C.k = 7) (w : World) : Calls Tryd.prog 18 #[.agg (cmV C)] w fun e w' => e = .returned (.agg (cmV (ownC C))) ∧ Below w.heap.size w w' := by
  have hown : (cmV (Cm.zero 7)).setIfInBounds 18 (.int .i64 C.id) = cmV (ownC C) := by obtain ⟨a0, a1, a2, a3, a4, a5, a6, a7, a8, a9, a10, a11, a12, a13, a14, a15, a16, a17, a18, a19, a20, a21, a22, a23⟩ := C; simp only at hk; subst hk; kernel_rfl
  go_enter Tryd.func18, Tryd.ntmps18
  go_upto_region 1 with (first
    | (refine wl_box 32 rfl rfl rfl ?_; intro w1 X1 T1)
    | (refine wl_alloc 32 rfl rfl zero32 ?_; intro w2 R2 T2; have X2 := X1.below T2))
  have hc := (X2.cell 0).trans (cmV_0 C)
  rw [hk] at hc
  go_upto_region 2 with (first
    | (refine wl_build 32 rfl rfl (builtk C.k) ?_)
    | (refine wl_build 32 rfl rfl (builtk 7) ?_)
    | (refine wl_alloc 32 rfl rfl zero32 ?_; intro w3 Z3 T3; have X3 := X2.below T3; have R3 := R2.below T3)
    | (refine wl_store 32 Z3 rfl rfl rfl rfl size32 rfl (by omega : 0 + 24 ≤ 24) (cmV_one _) (spl24 _ _) ?_; intro w4 Z4 K4; have X4 := K4.box X3 (Nat.ne_of_lt X2.lt); have R4 := K4.box R3 (Nat.ne_of_lt R2.lt)))
  have L1 := T1.size
  have L2 := T2.size
  have n1 : w.heap.size < w2.heap.size := X2.lt
  have n2 : w1.heap.size < w2.heap.size := R2.lt
  have T4 : Below w.heap.size w w4 := K4.up (ups (ups T1 T2 T1.size) T3 (Nat.le_trans T1.size T2.size)) (Nat.le_trans T1.size T2.size)
  clear hc X1 T1 X2 R2 T2 X3 R3 Z3 T3 K4
  have hc := (X4.cell 0).trans (cmV_0 C)
  rw [hk] at hc
  have hd := (X4.cell 18).trans (cmV_18 C)
  go_wp2_with (first
    | (refine wl_put 3 Z4 rfl rfl rfl rfl rfl rfl size3 (by omega : 18 < 24) hown ?_; intro w6 Z6 K6; have R6 := K6.box R4 (Nat.ne_of_lt n2))
    | (refine wl_load 32 Z6 rfl rfl rfl Tryd.underlying32 rfl size32 (by omega : 0 + 24 ≤ 24) (cmV_all _) ?_)
    | (refine wl_store 32 R6 rfl rfl rfl rfl size32 rfl (by omega : 0 + 24 ≤ 24) (cmV_one _) (spl24 _ _) ?_; intro w7 R7 K7))
  refine bodyPost_ret (v := .agg (cmV (ownC C))) ?_ rfl ⟨rfl, K7.up (K6.up T4 (Nat.le_trans L1 L2)) L1⟩
  exact results_cell_row rfl _ _ _ _ _ _ _ rfl R7 Tryd.underlying32 rfl size32
set_option maxHeartbeats 16000000 in
set_option maxRecDepth 100000 in
theorem rown_6 {C : Cm} (hk : C.k = 6) (w : World) : Calls Tryd.prog 18 #[.agg (cmV C)] w fun e w' => e = .returned (.agg (cmV (ownC C))) ∧ Below w.heap.size w w' := by
  have hown : (cmV (Cm.zero 6)).setIfInBounds 23 (.int .u64 (C.to : Int)) = cmV (ownC C) := by obtain ⟨a0, a1, a2, a3, a4, a5, a6, a7, a8, a9, a10, a11, a12, a13, a14, a15, a16, a17, a18, a19, a20, a21, a22, a23⟩ := C; simp only at hk; subst hk; kernel_rfl
  go_enter Tryd.func18, Tryd.ntmps18
  go_upto_region 1 with (first
    | (refine wl_box 32 rfl rfl rfl ?_; intro w1 X1 T1)
    | (refine wl_alloc 32 rfl rfl zero32 ?_; intro w2 R2 T2; have X2 := X1.below T2))
  have hc := (X2.cell 0).trans (cmV_0 C)
  rw [hk] at hc
  go_upto_region 2 with (first
    | (refine wl_build 32 rfl rfl (builtk C.k) ?_)
    | (refine wl_build 32 rfl rfl (builtk 6) ?_)
    | (refine wl_alloc 32 rfl rfl zero32 ?_; intro w3 Z3 T3; have X3 := X2.below T3; have R3 := R2.below T3)
    | (refine wl_store 32 Z3 rfl rfl rfl rfl size32 rfl (by omega : 0 + 24 ≤ 24) (cmV_one _) (spl24 _ _) ?_; intro w4 Z4 K4; have X4 := K4.box X3 (Nat.ne_of_lt X2.lt); have R4 := K4.box R3 (Nat.ne_of_lt R2.lt)))
  have L1 := T1.size
  have L2 := T2.size
  have n1 : w.heap.size < w2.heap.size := X2.lt
  have n2 : w1.heap.size < w2.heap.size := R2.lt
  have T4 : Below w.heap.size w w4 := K4.up (ups (ups T1 T2 T1.size) T3 (Nat.le_trans T1.size T2.size)) (Nat.le_trans T1.size T2.size)
  clear hc X1 T1 X2 R2 T2 X3 R3 Z3 T3 K4
  have hc := (X4.cell 0).trans (cmV_0 C)
  rw [hk] at hc
  have hd := (X4.cell 23).trans (cmV_23 C)
  go_wp2_with (first
    | (refine wl_put 22 Z4 rfl rfl rfl rfl rfl rfl size22 (by omega : 23 < 24) hown ?_; intro w6 Z6 K6; have R6 := K6.box R4 (Nat.ne_of_lt n2))
    | (refine wl_load 32 Z6 rfl rfl rfl Tryd.underlying32 rfl size32 (by omega : 0 + 24 ≤ 24) (cmV_all _) ?_)
    | (refine wl_store 32 R6 rfl rfl rfl rfl size32 rfl (by omega : 0 + 24 ≤ 24) (cmV_one _) (spl24 _ _) ?_; intro w7 R7 K7))
  refine bodyPost_ret (v := .agg (cmV (ownC C))) ?_ rfl ⟨rfl, K7.up (K6.up T4 (Nat.le_trans L1 L2)) L1⟩
  exact results_cell_row rfl _ _ _ _ _ _ _ rfl R7 Tryd.underlying32 rfl size32
set_option maxHeartbeats 16000000 in
set_option maxRecDepth 100000 in
theorem rown_3 {C : Cm} (hk : C.k = 3) (w : World) : Calls Tryd.prog 18 #[.agg (cmV C)] w fun e w' => e = .returned (.agg (cmV (ownC C))) ∧ Below w.heap.size w w' := by
  obtain ⟨q1, hq1⟩ : ∃ q, (cmV (Cm.zero 3)).setIfInBounds 4 (.int .i64 C.si) = q := ⟨_, rfl⟩
  obtain ⟨q2, hq2⟩ : ∃ q, spl q1 7 (c0V C).toList = q := ⟨_, rfl⟩
  obtain ⟨q3, hq3⟩ : ∃ q, spl q2 10 (c1V C).toList = q := ⟨_, rfl⟩
  have s1 : q1.size = 24 := by rw [← hq1]; rfl
  have s2 : q2.size = 24 := by rw [← hq2, ← hq1]; rfl
  have s3 : q3.size = 24 := by rw [← hq3, ← hq2, ← hq1]; rfl
  have hq4 : spl q3 13 (c2V C).toList = cmV (ownC C) := by subst hq3 hq2 hq1; obtain ⟨a0, a1, a2, a3, a4, a5, a6, a7, a8, a9, a10, a11, a12, a13, a14, a15, a16, a17, a18, a19, a20, a21, a22, a23⟩ := C; simp only at hk; subst hk; kernel_rfl
  have o0 : (c0V C).all (·.oneCell') = true := by kernel_rfl
  have o1 : (c1V C).all (·.oneCell') = true := by kernel_rfl
  have o2 : (c2V C).all (·.oneCell') = true := by kernel_rfl
  replace hq1 := Lib.hid hq1
  replace hq2 := Lib.hid hq2
  replace hq3 := Lib.hid hq3
  replace hq4 := Lib.hid hq4
  go_enter Tryd.func18, Tryd.ntmps18
  go_upto_region 1 with (first
    | (refine wl_box 32 rfl rfl rfl ?_; intro w1 X1 T1)
    | (refine wl_alloc 32 rfl rfl zero32 ?_; intro w2 R2 T2; have X2 := X1.below T2))
  have hc := (X2.cell 0).trans (cmV_0 C)
  rw [hk] at hc
  go_upto_region 2 with (first
    | (refine wl_build 32 rfl rfl (builtk C.k) ?_)
    | (refine wl_build 32 rfl rfl (builtk 3) ?_)
    | (refine wl_alloc 32 rfl rfl zero32 ?_; intro w3 Z3 T3; have X3 := X2.below T3; have R3 := R2.below T3)
    | (refine wl_store 32 Z3 rfl rfl rfl rfl size32 rfl (by omega : 0 + 24 ≤ 24) (cmV_one _) (spl24 _ _) ?_; intro w4 Z4 K4; have X4 := K4.box X3 (Nat.ne_of_lt X2.lt); have R4 := K4.box R3 (Nat.ne_of_lt R2.lt)))
  have L1 := T1.size
  have L2 := T2.size
  have n1 : w.heap.size < w2.heap.size := X2.lt
  have n2 : w1.heap.size < w2.heap.size := R2.lt
  have T4 : Below w.heap.size w w4 := K4.up (ups (ups T1 T2 T1.size) T3 (Nat.le_trans T1.size T2.size)) (Nat.le_trans T1.size T2.size)
  clear hc X1 T1 X2 R2 T2 X3 R3 Z3 T3 K4
  have hc := (X4.cell 0).trans (cmV_0 C)
  rw [hk] at hc
  have hd := (X4.cell 4).trans (cmV_4 C)
  go_upto_region 9 with (first
    | (refine wl_put 3 Z4 rfl rfl rfl rfl rfl rfl size3 (by omega : 4 < 24) hq1.out ?_; intro w6 Z6 K6; have R6 := K6.box R4 (Nat.ne_of_lt n2); have X6 := K6.box X4 (Nat.ne_of_lt n1); have T6 := K6.up T4 (Nat.le_trans L1 L2)))
  go_upto_region 10 with (first
    | (refine wl_load 26 X6 rfl rfl rfl Tryd.underlying26 rfl size26 (by omega : 7 + 3 ≤ 24) (cmV_c0 C) ?_)
    | (refine wl_store 26 Z6 rfl rfl rfl rfl size26 rfl (by omega) o0 hq2.out ?_; intro w7 Z7 K7; have R7 := K7.box R6 (Nat.ne_of_lt n2); have X7 := K7.box X6 (Nat.ne_of_lt n1); have T7 := K7.up T6 (Nat.le_trans L1 L2)))
  go_upto_region 11 with (first
    | (refine wl_load 26 X7 rfl rfl rfl Tryd.underlying26 rfl size26 (by omega : 10 + 3 ≤ 24) (cmV_c1 C) ?_)
    | (refine wl_store 26 Z7 rfl rfl rfl rfl size26 rfl (by omega) o1 hq3.out ?_; intro w8 Z8 K8; have R8 := K8.box R7 (Nat.ne_of_lt n2); have X8 := K8.box X7 (Nat.ne_of_lt n1); have T8 := K8.up T7 (Nat.le_trans L1 L2)))
  go_upto_region 19 with (first
    | (refine wl_load 26 X8 rfl rfl rfl Tryd.underlying26 rfl size26 (by omega : 13 + 3 ≤ 24) (cmV_c2 C) ?_)
    | (refine wl_store 26 Z8 rfl rfl rfl rfl size26 rfl (by omega) o2 hq4.out ?_; intro w9 Z9 K9; have R9 := K9.box R8 (Nat.ne_of_lt n2); have T9 := K9.up T8 (Nat.le_trans L1 L2)))
  go_wp2_with (first
    | (refine wl_load 32 Z9 rfl rfl rfl Tryd.underlying32 rfl size32 (by omega : 0 + 24 ≤ 24) (cmV_all _) ?_)
    | (refine wl_store 32 R9 rfl rfl rfl rfl size32 rfl (by omega : 0 + 24 ≤ 24) (cmV_one _) (spl24 _ _) ?_; intro wA RA KA))
  refine bodyPost_ret (v := .agg (cmV (ownC C))) ?_ rfl ⟨rfl, KA.up T9 L1⟩
  exact results_cell_row rfl _ _ _ _ _ _ _ rfl RA Tryd.underlying32 rfl size32
set_option maxHeartbeats 16000000 in
set_option maxRecDepth 100000 in
theorem rown_no {C : Cm} {k : Nat} (hk : C.k = k) (hn : ¬ (1 ≤ k ∧ k ≤ 7)) (w : World) : Calls Tryd.prog 18 #[.agg (cmV C)] w fun e w' => e = .returned (.agg (cmV (ownC C))) ∧ Below w.heap.size w w' := by
  have hown : ownC C = Cm.zero k := by
    unfold ownC
    rw [hk, if_neg (by omega), if_neg (by omega), if_neg (by omega), if_neg (by omega), if_neg (by omega), if_neg (by omega)]
  rw [hown]
  have j1 : ((k : Int) == 1) = false := beq_eq_false_iff_ne.2 (by omega)
  have j2 : ((k : Int) == 2) = false := beq_eq_false_iff_ne.2 (by omega)
  have j3 : ((k : Int) == 3) = false := beq_eq_false_iff_ne.2 (by omega)
  have j4 : ((k : Int) == 4) = false := beq_eq_false_iff_ne.2 (by omega)
  have j5 : ((k : Int) == 5) = false := beq_eq_false_iff_ne.2 (by omega)
  have j6 : ((k : Int) == 6) = false := beq_eq_false_iff_ne.2 (by omega)
  have j7 : ((k : Int) == 7) = false := beq_eq_false_iff_ne.2 (by omega)
  clear hown
  go_enter Tryd.func18, Tryd.ntmps18
  go_upto_region 1 with (first
    | (refine wl_box 32 rfl rfl rfl ?_; intro w1 X1 T1)
    | (refine wl_alloc 32 rfl rfl zero32 ?_; intro w2 R2 T2; have X2 := X1.below T2))
  have hc := (X2.cell 0).trans (cmV_0 C)
  rw [hk] at hc
  go_upto_region 2 with (first
    | (refine wl_build 32 rfl rfl (builtk C.k) ?_)
    | (refine wl_build 32 rfl rfl (builtk k) ?_)
    | (refine wl_alloc 32 rfl rfl zero32 ?_; intro w3 Z3 T3; have X3 := X2.below T3; have R3 := R2.below T3)
    | (refine wl_store 32 Z3 rfl rfl rfl rfl size32 rfl (by omega : 0 + 24 ≤ 24) (cmV_one _) (spl24 _ _) ?_; intro w4 Z4 K4; have X4 := K4.box X3 (Nat.ne_of_lt X2.lt); have R4 := K4.box R3 (Nat.ne_of_lt R2.lt)))
  have L1 := T1.size
  have L2 := T2.size
  have n1 : w.heap.size < w2.heap.size := X2.lt
  have n2 : w1.heap.size < w2.heap.size := R2.lt
  have T4 : Below w.heap.size w w4 := K4.up (ups (ups T1 T2 T1.size) T3 (Nat.le_trans T1.size T2.size)) (Nat.le_trans T1.size T2.size)
  clear hc X1 T1 X2 R2 T2 X3 R3 Z3 T3 K4
  have hc := (X4.cell 0).trans (cmV_0 C)
  rw [hk] at hc
  go_wp2_with (first
    | (refine wl_load 32 Z4 rfl rfl rfl Tryd.underlying32 rfl size32 (by omega : 0 + 24 ≤ 24) (cmV_all _) ?_)
    | (refine wl_store 32 R4 rfl rfl rfl rfl size32 rfl (by omega : 0 + 24 ≤ 24) (cmV_one _) (spl24 _ _) ?_; intro w7 R7 K7))
  refine bodyPost_ret (v := .agg (cmV (Cm.zero k))) ?_ rfl ⟨rfl, K7.up T4 L1⟩
  exact results_cell_row rfl _ _ _ _ _ _ _ rfl R7 Tryd.underlying32 rfl size32
theorem ROwn_any (C : Cm) (w : World) : Calls Tryd.prog 18 #[.agg (cmV C)] w fun e w' => e = .returned (.agg (cmV (ownC C))) ∧ Below w.heap.size w w' := by
  by_cases h : 1 ≤ C.k ∧ C.k ≤ 7
  · rcases seven h.1 h.2 with e | e | e | e | e | e | e
    · exact rown_1 e w
    · exact rown_2 e w
    · exact rown_3 e w
    · exact rown_4 e w
    · exact rown_5 e w
    · exact rown_6 e w
    · exact rown_7 e w
  · exact rown_no rfl h w
end Go.Proofs.YtamjnekdfhocdaaDoor
