/- CommandBack: its walk. No condition but those of the row. -/
import Derived.Test.YtamjnekdfhocdaaDoorCwF
namespace Go.Proofs.YtamjnekdfhocdaaDoor
open Go.ChangeShapes Go.WideShapes Go.Deep Go.RowKit
set_option linter.unusedVariables false
set_option linter.unusedSimpArgs false
set_option maxRecDepth 100000 in
theorem xl_index0 {o : Oper} {a : Act} {w : World} {x : Operand} {Z : ByteArray} {b : UInt8} {L : List UInt8} (hZ : Z = bs (b :: L)) (ho : o.op = .index 9 x (.const (.int .i64 0))) (hx : a.eval x = .string Z) : (execOp a.eval o).run Tryd.prog w = .ok (.value (.int .u8 (b.toNat : Int))) w := by
  subst hZ
  have h := run_index_string (P := Tryd.prog) (w := w) 9 (bs (b :: L)) .i64 0 Tryd.underlying9
  rw [dif_pos ⟨by omega, by rw [bs_size, List.length_cons]; omega⟩] at h
  unfold execOp
  have hc : a.eval (.const (.int .i64 0)) = .int .i64 0 := rfl
  simp only [ho, hx, hc, Sem.run_bind, Sem.run_pure, h, Result.andThen_ok]
  rfl
theorem encL_ge : ∀ (l : List Fv), l.length ≤ (encL l).length
  | [] => Nat.le_refl _
  | f :: l => by
    have h1 := encL_ge l
    have h2 : 1 ≤ (encF f).length := by
      cases f with
      | u n => exact numL_pos n
      | i z => exact numL_pos (zg z)
      | b x => exact Nat.le_refl _
    rw [encL, List.length_append, List.length_cons]
    omega
theorem hasC_pos (C : Cm) : 1 ≤ (hasC C).length := by
  have : 1 ≤ ((hasC C).map Fv.ty).length := by
    rw [hasC_ty]
    unfold tyC
    repeat' split
    all_goals decide
  simpa using this
theorem bytC_two (C : Cm) : 2 ≤ (bytC C).length := by
  have := hasC_pos C
  have := encL_ge (hasC C)
  unfold bytC
  rw [List.length_cons]
  omega
theorem bytR_eleven (r : Rp) : 11 ≤ (bytR r).length := by
  have := encL_ge (hasR r)
  unfold bytR
  rw [List.length_cons]
  have h : (hasR r).length = 10 := rfl
  omega
theorem rdrV_byt {r : Rp} (h : r.ok) : rdrV (bytR r) = .tuple #[.agg (rpV r), .int .i64 0] := by
  unfold rdrV
  rw [rdR_byt h]
theorem rdcV_byt {C : Cm} (h : mayC C) (ho : C.ok) : rdcV (bytC C) = .tuple #[.agg (cmV C), .int .i64 0] := by
  unfold rdcV
  rw [rdC_byt h ho]
set_option maxHeartbeats 16000000 in
set_option maxRecDepth 100000 in
theorem back_low (C : Cm) (r : Rp) (w : World) (hN : Names w) (ho : C.ok) (hr : r.ok) (hk : C.k = 0) : Calls Tryd.prog 5 #[.agg (cmV C), .agg (rpV r)] w fun e w' => e = .returned (.bool true) ∧ Below w.heap.size w w' := by
  have hk2 := hk
  have aw := fun W hN => awake_any W hN
  have p9 := fun W hN => Command_any C W hN ho
  have p11 := fun W => Reply_any r W hr
  have p21 : ∀ W, Calls Tryd.prog 21 #[.string (bs (bytR r))] W fun e w' => e = .returned (.tuple #[.agg (rpV r), .int .i64 0]) ∧ Below W.heap.size W w' := fun W => by
    have h := ReadReply_any (bytR r) W (by have : (encL (hasR r)).length ≤ 100 := encL_len (hasR r) hr; unfold bytR; rw [List.length_cons]; omega)
    rw [rdrV_byt hr] at h
    exact h
  unfold repV at p11
  have hlr := bytR_eleven r
  have hzr : (bs (bytR r)).size = (bytR r).length := bs_size _
  obtain ⟨Y, hY⟩ : ∃ Y, bs (bytR r) = Y := ⟨_, rfl⟩
  rw [hY] at p11 p21 hzr
  generalize (bytR r).length = m at *
  clear hY
  have jm : (11 : Int) ≤ (m : Int) := by omega
  rw [show cmdV C = .tuple #[.string ⟨#[]⟩, .int .i64 2] from if_neg (fun h => by have := h.1; omega)] at p9
  go_enter Tryd.func5, Tryd.ntmps5
  go_upto_region 1 with (first
    | (with_reducible refine at_list ?_; refine wl_box 32 rfl rfl rfl ?_; intro w1 X1 T1; (try simp only [Act.put, List.setIfInBounds_toArray, List.set_cons_zero, List.set_cons_succ]))
    | (with_reducible refine at_list ?_; refine wl_box 37 rfl rfl rfl ?_; intro w2 Y2 T2; (try simp only [Act.put, List.setIfInBounds_toArray, List.set_cons_zero, List.set_cons_succ]); have X2 := X1.below T2; have S2 := ups T1 T2 T1.size; have a1 := aw w2 (hN.up S2)))
  have l1 : w.heap.size < w1.heap.size := X1.lt
  obtain ⟨A, hA⟩ : ∃ A, w.heap.size = A := ⟨_, rfl⟩
  obtain ⟨B, hB⟩ : ∃ A, w1.heap.size = A := ⟨_, rfl⟩
  rw [hA] at X2 l1 ⊢
  rw [hB] at Y2 l1 ⊢
  clear hB X1 T1
  go_upto_region 3 with (go_at_call 23; (with_reducible refine a1.mono ?_); rintro e w3 ⟨rfl, U3⟩; have X3 := X2.below U3; have Y3 := Y2.below U3; have S3 := ups S2 U3 S2.size; have a2 := p9 w3 (hN.up S3))
  clear a1 aw X2 Y2 T2 S2 U3
  go_upto_region 4 with (first
    | (with_reducible refine at_list ?_; refine wl_loadf 32 X3 rfl rfl rfl Tryd.underlying32 rfl size32 (by omega : 0 + 24 ≤ 24) (cmV_all C) ?_; (try simp only [Act.put, List.setIfInBounds_toArray, List.set_cons_zero, List.set_cons_succ]))
    | (go_at_call 9; (with_reducible refine a2.mono ?_); rintro e w4 ⟨rfl, U4⟩))
  clear a2 p9
  replace X3 := X3.below U4
  replace Y3 := Y3.below U4
  replace S3 := ups S3 U4 S3.size
  clear U4 w3
  rename World => w3
  refine wp_region_held_drew (S := fun W => Box W A (cmV C) 32) (by kernel_rfl) X3.drew (fun hHeld => ?_)
  replace X3 := X3.drew
  replace Y3 := Y3.drew
  replace S3 := S3.drew
  generalize w3.drew = w4 at *
  refine wpAnyH_take (i := 0) (v := ?_) (by simp only [List.getElem?_toArray, List.getElem?_cons_zero]; rfl) (by kernel_rfl) (by kernel_rfl) (by kernel_rfl) (by exact fun _ _ _ h => h) (Or.inl ⟨by rfl, ?_⟩) (by assumption) ?_
  rotate_left
  · (intro w hSw; (try dsimp only at hSw); go_simp; (try with_reducible rfl))
  try simp only [Act.put, List.setIfInBounds_toArray, List.set_cons_zero, List.set_cons_succ]
  refine wpAnyH_take (i := 1) (v := .int .u8 ((0 : Nat) : Int)) (by simp only [List.getElem?_toArray, List.getElem?_cons_zero, List.getElem?_cons_succ]; rfl) (by kernel_rfl) (by kernel_rfl) (by kernel_rfl) (by exact fun _ _ _ h => h) (Or.inl ⟨by rfl, fun w hSw => xl_cell 5 hSw rfl rfl Tryd.underlying5 rfl (by have h := cmV_0 C; rw [hk] at h; exact h)⟩) (by assumption) ?_
  try simp only [Act.put, List.setIfInBounds_toArray, List.set_cons_zero, List.set_cons_succ]
  refine wpAnyH_take (i := 2) (v := ?_) (by simp only [List.getElem?_toArray, List.getElem?_cons_zero, List.getElem?_cons_succ]; rfl) (by kernel_rfl) (by kernel_rfl) (by kernel_rfl) (by exact fun _ _ _ h => h) (Or.inl ⟨by rfl, ?_⟩) (by assumption) ?_
  rotate_left
  · (intro w hSw; (try dsimp only at hSw); go_simp; (try with_reducible rfl))
  try simp only [Act.put, List.setIfInBounds_toArray, List.set_cons_zero, List.set_cons_succ]
  refine wpAnyH_take (i := 3) (v := ?_) (by simp only [List.getElem?_toArray, List.getElem?_cons_zero, List.getElem?_cons_succ]; rfl) (by kernel_rfl) (by kernel_rfl) (by kernel_rfl) (by exact fun _ _ _ h => h) (Or.inl ⟨by rfl, ?_⟩) (by assumption) ?_
  rotate_left
  · (intro w hSw; (try dsimp only at hSw); go_simp; (try with_reducible rfl))
  try simp only [Act.put, List.setIfInBounds_toArray, List.set_cons_zero, List.set_cons_succ]
  refine wpAnyH_take (i := 4) (v := undef) (by simp only [List.getElem?_toArray, List.getElem?_cons_zero, List.getElem?_cons_succ]; rfl) (by kernel_rfl) (by kernel_rfl) (by kernel_rfl) (by exact fun _ _ _ h => h) (Or.inr ⟨by rfl, rfl⟩) (by assumption) ?_
  try simp only [Act.put, List.setIfInBounds_toArray, List.set_cons_zero, List.set_cons_succ]
  refine wpAnyH_take (i := 5) (v := undef) (by simp only [List.getElem?_toArray, List.getElem?_cons_zero, List.getElem?_cons_succ]; rfl) (by kernel_rfl) (by kernel_rfl) (by kernel_rfl) (by exact fun _ _ _ h => h) (Or.inr ⟨by rfl, rfl⟩) (by assumption) ?_
  try simp only [Act.put, List.setIfInBounds_toArray, List.set_cons_zero, List.set_cons_succ]
  refine wpAnyH_take (i := 6) (v := undef) (by simp only [List.getElem?_toArray, List.getElem?_cons_zero, List.getElem?_cons_succ]; rfl) (by kernel_rfl) (by kernel_rfl) (by kernel_rfl) (by exact fun _ _ _ h => h) (Or.inr ⟨by rfl, rfl⟩) (by assumption) ?_
  try simp only [Act.put, List.setIfInBounds_toArray, List.set_cons_zero, List.set_cons_succ]
  refine wpAnyH_take (i := 7) (v := ?_) (by simp only [List.getElem?_toArray, List.getElem?_cons_zero, List.getElem?_cons_succ]; rfl) (by kernel_rfl) (by kernel_rfl) (by kernel_rfl) (by exact fun _ _ _ h => h) (Or.inl ⟨by rfl, ?_⟩) (by assumption) ?_
  rotate_left
  · (intro w hSw; (try dsimp only at hSw); go_simp; (try with_reducible rfl))
  try simp only [Act.put, List.setIfInBounds_toArray, List.set_cons_zero, List.set_cons_succ]
  refine wpAnyH_take (i := 8) (v := ?_) (by simp only [List.getElem?_toArray, List.getElem?_cons_zero, List.getElem?_cons_succ]; rfl) (by kernel_rfl) (by kernel_rfl) (by kernel_rfl) (by exact fun _ _ _ h => h) (Or.inl ⟨by rfl, ?_⟩) (by assumption) ?_
  rotate_left
  · (intro w hSw; (try dsimp only at hSw); go_simp; (try with_reducible rfl))
  try simp only [Act.put, List.setIfInBounds_toArray, List.set_cons_zero, List.set_cons_succ]
  refine wpAnyH_take (i := 9) (v := undef) (by simp only [List.getElem?_toArray, List.getElem?_cons_zero, List.getElem?_cons_succ]; rfl) (by kernel_rfl) (by kernel_rfl) (by kernel_rfl) (by exact fun _ _ _ h => h) (Or.inr ⟨by rfl, rfl⟩) (by assumption) ?_
  try simp only [Act.put, List.setIfInBounds_toArray, List.set_cons_zero, List.set_cons_succ]
  refine wpAnyH_take (i := 10) (v := undef) (by simp only [List.getElem?_toArray, List.getElem?_cons_zero, List.getElem?_cons_succ]; rfl) (by kernel_rfl) (by kernel_rfl) (by kernel_rfl) (by exact fun _ _ _ h => h) (Or.inr ⟨by rfl, rfl⟩) (by assumption) ?_
  try simp only [Act.put, List.setIfInBounds_toArray, List.set_cons_zero, List.set_cons_succ]
  refine wpAnyH_take (i := 11) (v := undef) (by simp only [List.getElem?_toArray, List.getElem?_cons_zero, List.getElem?_cons_succ]; rfl) (by kernel_rfl) (by kernel_rfl) (by kernel_rfl) (by exact fun _ _ _ h => h) (Or.inr ⟨by rfl, rfl⟩) (by assumption) ?_
  try simp only [Act.put, List.setIfInBounds_toArray, List.set_cons_zero, List.set_cons_succ]
  refine wpAnyH_take (i := 12) (v := undef) (by simp only [List.getElem?_toArray, List.getElem?_cons_zero, List.getElem?_cons_succ]; rfl) (by kernel_rfl) (by kernel_rfl) (by kernel_rfl) (by exact fun _ _ _ h => h) (Or.inr ⟨by rfl, rfl⟩) (by assumption) ?_
  try simp only [Act.put, List.setIfInBounds_toArray, List.set_cons_zero, List.set_cons_succ]
  refine wpAnyH_take (i := 13) (v := ?_) (by simp only [List.getElem?_toArray, List.getElem?_cons_zero, List.getElem?_cons_succ]; rfl) (by kernel_rfl) (by kernel_rfl) (by kernel_rfl) (by exact fun _ _ _ h => h) (Or.inl ⟨by rfl, ?_⟩) (by assumption) ?_
  rotate_left
  · (intro w hSw; (try dsimp only at hSw); go_simp; (try with_reducible rfl))
  try simp only [Act.put, List.setIfInBounds_toArray, List.set_cons_zero, List.set_cons_succ]
  refine wpAnyH_take (i := 14) (v := ?_) (by simp only [List.getElem?_toArray, List.getElem?_cons_zero, List.getElem?_cons_succ]; rfl) (by kernel_rfl) (by kernel_rfl) (by kernel_rfl) (by exact fun _ _ _ h => h) (Or.inl ⟨by rfl, ?_⟩) (by assumption) ?_
  rotate_left
  · (intro w hSw; (try dsimp only at hSw); go_simp; (try with_reducible rfl))
  try simp only [Act.put, List.setIfInBounds_toArray, List.set_cons_zero, List.set_cons_succ]
  refine wpAnyH_done (by kernel_rfl) ?_ _
  have a5 := p11 w4
  go_wp2_with (first
    | (with_reducible refine at_list ?_; refine wl_loadf 37 Y3 rfl rfl rfl Tryd.underlying37 rfl size37 (by omega : 0 + 10 ≤ 10) (rpV_all r) ?_; (try simp only [Act.put, List.setIfInBounds_toArray, List.set_cons_zero, List.set_cons_succ]))
    | (go_at_call 11; (with_reducible refine a5.mono ?_); rintro e wb ⟨rfl, Ub⟩; have Yb := Y3.below Ub; have Sb := ups S3 Ub S3.size; have a6 := p21 wb)
    | (go_at_call 21; (with_reducible refine a6.mono ?_); rintro e wc ⟨rfl, Uc⟩; have Yc := Yb.below Uc; have Sc := ups Sb Uc Sb.size)
    | (with_reducible refine at_list ?_; with_reducible refine wl_alloc 37 rfl rfl zero37 ?_; intro wd Vd Ud; (try simp only [Act.put, List.setIfInBounds_toArray, List.set_cons_zero, List.set_cons_succ]); have Yd := Yc.below Ud; have Sd := ups Sc Ud Sc.size)
    | (with_reducible refine at_list ?_; refine wl_storef 37 Vd rfl rfl rfl rfl size37 rfl (by omega : 0 + 10 ≤ 10) (rpV_one _) (spl10 _ _) ?_; intro we Ve Ke; (try simp only [Act.put, List.setIfInBounds_toArray, List.set_cons_zero, List.set_cons_succ]); have Ye := Ke.box Yd (Nat.ne_of_lt Yc.lt); have Se := Ke.up Sd Sc.size)
    | (with_reducible refine at_list ?_; refine wl_run (xl_loadf 37 Ve rfl rfl Tryd.underlying37 rfl size37 (by omega : 0 + 10 ≤ 10) (rpV_all _)) (wanted_f rfl rfl rfl rfl) ?_; (try simp only [Act.put, List.setIfInBounds_toArray, List.set_cons_zero, List.set_cons_succ]))
    | (with_reducible refine at_list ?_; refine wl_run (xl_loadf 37 Ye rfl rfl Tryd.underlying37 rfl size37 (by omega : 0 + 10 ≤ 10) (rpV_all _)) (wanted_f rfl rfl rfl rfl) ?_; (try simp only [Act.put, List.setIfInBounds_toArray, List.set_cons_zero, List.set_cons_succ]))
    | (with_reducible refine at_list ?_; refine wl_run (xl_eqf37 (decide_eq_true rfl) rfl rfl rfl) (wanted_f rfl rfl rfl rfl) ?_; (try simp only [Act.put, List.setIfInBounds_toArray, List.set_cons_zero, List.set_cons_succ])))
  go_ret
  exact ⟨by simp, Se⟩
set_option maxHeartbeats 16000000 in
set_option maxRecDepth 100000 in
theorem back_high (C : Cm) (r : Rp) (w : World) (hN : Names w) (ho : C.ok) (hr : r.ok) (hk : 7 < C.k) : Calls Tryd.prog 5 #[.agg (cmV C), .agg (rpV r)] w fun e w' => e = .returned (.bool true) ∧ Below w.heap.size w w' := by
  have j1 : (1 : Int) ≤ (C.k : Int) := by omega
  have j2 : 7 < (C.k : Int) := by omega
  have j3 : decide ((C.k : Int) ≤ 7) = false := decide_eq_false (by omega)
  have aw := fun W hN => awake_any W hN
  have p9 := fun W hN => Command_any C W hN ho
  have p11 := fun W => Reply_any r W hr
  have p21 : ∀ W, Calls Tryd.prog 21 #[.string (bs (bytR r))] W fun e w' => e = .returned (.tuple #[.agg (rpV r), .int .i64 0]) ∧ Below W.heap.size W w' := fun W => by
    have h := ReadReply_any (bytR r) W (by have : (encL (hasR r)).length ≤ 100 := encL_len (hasR r) hr; unfold bytR; rw [List.length_cons]; omega)
    rw [rdrV_byt hr] at h
    exact h
  unfold repV at p11
  have hlr := bytR_eleven r
  have hzr : (bs (bytR r)).size = (bytR r).length := bs_size _
  obtain ⟨Y, hY⟩ : ∃ Y, bs (bytR r) = Y := ⟨_, rfl⟩
  rw [hY] at p11 p21 hzr
  generalize (bytR r).length = m at *
  clear hY
  have jm : (11 : Int) ≤ (m : Int) := by omega
  rw [show cmdV C = .tuple #[.string ⟨#[]⟩, .int .i64 2] from if_neg (fun h => by have := h.2.1; omega)] at p9
  go_enter Tryd.func5, Tryd.ntmps5
  go_upto_region 1 with (first
    | (with_reducible refine at_list ?_; refine wl_box 32 rfl rfl rfl ?_; intro w1 X1 T1; (try simp only [Act.put, List.setIfInBounds_toArray, List.set_cons_zero, List.set_cons_succ]))
    | (with_reducible refine at_list ?_; refine wl_box 37 rfl rfl rfl ?_; intro w2 Y2 T2; (try simp only [Act.put, List.setIfInBounds_toArray, List.set_cons_zero, List.set_cons_succ]); have X2 := X1.below T2; have S2 := ups T1 T2 T1.size; have a1 := aw w2 (hN.up S2)))
  have l1 : w.heap.size < w1.heap.size := X1.lt
  obtain ⟨A, hA⟩ : ∃ A, w.heap.size = A := ⟨_, rfl⟩
  obtain ⟨B, hB⟩ : ∃ A, w1.heap.size = A := ⟨_, rfl⟩
  rw [hA] at X2 l1 ⊢
  rw [hB] at Y2 l1 ⊢
  clear hB X1 T1
  go_upto_region 3 with (go_at_call 23; (with_reducible refine a1.mono ?_); rintro e w3 ⟨rfl, U3⟩; have X3 := X2.below U3; have Y3 := Y2.below U3; have S3 := ups S2 U3 S2.size; have a2 := p9 w3 (hN.up S3))
  clear a1 aw X2 Y2 T2 S2 U3
  go_upto_region 4 with (first
    | (with_reducible refine at_list ?_; refine wl_loadf 32 X3 rfl rfl rfl Tryd.underlying32 rfl size32 (by omega : 0 + 24 ≤ 24) (cmV_all C) ?_; (try simp only [Act.put, List.setIfInBounds_toArray, List.set_cons_zero, List.set_cons_succ]))
    | (go_at_call 9; (with_reducible refine a2.mono ?_); rintro e w4 ⟨rfl, U4⟩))
  clear a2 p9
  replace X3 := X3.below U4
  replace Y3 := Y3.below U4
  replace S3 := ups S3 U4 S3.size
  clear U4 w3
  rename World => w3
  refine wp_region_held_drew (S := fun W => Box W A (cmV C) 32) (by kernel_rfl) X3.drew (fun hHeld => ?_)
  replace X3 := X3.drew
  replace Y3 := Y3.drew
  replace S3 := S3.drew
  generalize w3.drew = w4 at *
  refine wpAnyH_take (i := 0) (v := ?_) (by simp only [List.getElem?_toArray, List.getElem?_cons_zero]; rfl) (by kernel_rfl) (by kernel_rfl) (by kernel_rfl) (by exact fun _ _ _ h => h) (Or.inl ⟨by rfl, ?_⟩) (by assumption) ?_
  rotate_left
  · (intro w hSw; (try dsimp only at hSw); go_simp; (try with_reducible rfl))
  try simp only [Act.put, List.setIfInBounds_toArray, List.set_cons_zero, List.set_cons_succ]
  refine wpAnyH_take (i := 1) (v := .int .u8 (C.k : Int)) (by simp only [List.getElem?_toArray, List.getElem?_cons_zero, List.getElem?_cons_succ]; rfl) (by kernel_rfl) (by kernel_rfl) (by kernel_rfl) (by exact fun _ _ _ h => h) (Or.inl ⟨by rfl, fun w hSw => xl_cell 5 hSw rfl rfl Tryd.underlying5 rfl (cmV_0 C)⟩) (by assumption) ?_
  try simp only [Act.put, List.setIfInBounds_toArray, List.set_cons_zero, List.set_cons_succ]
  refine wpAnyH_take (i := 2) (v := ?_) (by simp only [List.getElem?_toArray, List.getElem?_cons_zero, List.getElem?_cons_succ]; rfl) (by kernel_rfl) (by kernel_rfl) (by kernel_rfl) (by exact fun _ _ _ h => h) (Or.inl ⟨by rfl, ?_⟩) (by assumption) ?_
  rotate_left
  · (intro w hSw; (try dsimp only at hSw); go_simp; (try with_reducible rfl))
  try simp only [Act.put, List.setIfInBounds_toArray, List.set_cons_zero, List.set_cons_succ]
  refine wpAnyH_take (i := 3) (v := ?_) (by simp only [List.getElem?_toArray, List.getElem?_cons_zero, List.getElem?_cons_succ]; rfl) (by kernel_rfl) (by kernel_rfl) (by kernel_rfl) (by exact fun _ _ _ h => h) (Or.inl ⟨by rfl, ?_⟩) (by assumption) ?_
  rotate_left
  · (intro w hSw; (try dsimp only at hSw); go_simp; (try with_reducible rfl))
  try simp only [Act.put, List.setIfInBounds_toArray, List.set_cons_zero, List.set_cons_succ]
  refine wpAnyH_take (i := 4) (v := ?_) (by simp only [List.getElem?_toArray, List.getElem?_cons_zero, List.getElem?_cons_succ]; rfl) (by kernel_rfl) (by kernel_rfl) (by kernel_rfl) (by exact fun _ _ _ h => h) (Or.inl ⟨by rfl, ?_⟩) (by assumption) ?_
  rotate_left
  · (intro w hSw; (try dsimp only at hSw); go_simp; (try with_reducible rfl))
  try simp only [Act.put, List.setIfInBounds_toArray, List.set_cons_zero, List.set_cons_succ]
  refine wpAnyH_take (i := 5) (v := .int .u8 (C.k : Int)) (by simp only [List.getElem?_toArray, List.getElem?_cons_zero, List.getElem?_cons_succ]; rfl) (by kernel_rfl) (by kernel_rfl) (by kernel_rfl) (by exact fun _ _ _ h => h) (Or.inl ⟨by rfl, fun w hSw => xl_cell 5 hSw rfl rfl Tryd.underlying5 rfl (cmV_0 C)⟩) (by assumption) ?_
  try simp only [Act.put, List.setIfInBounds_toArray, List.set_cons_zero, List.set_cons_succ]
  refine wpAnyH_take (i := 6) (v := ?_) (by simp only [List.getElem?_toArray, List.getElem?_cons_zero, List.getElem?_cons_succ]; rfl) (by kernel_rfl) (by kernel_rfl) (by kernel_rfl) (by exact fun _ _ _ h => h) (Or.inl ⟨by rfl, ?_⟩) (by assumption) ?_
  rotate_left
  · (intro w hSw; (try dsimp only at hSw); go_simp; (try with_reducible rfl))
  try simp only [Act.put, List.setIfInBounds_toArray, List.set_cons_zero, List.set_cons_succ]
  refine wpAnyH_take (i := 7) (v := ?_) (by simp only [List.getElem?_toArray, List.getElem?_cons_zero, List.getElem?_cons_succ]; rfl) (by kernel_rfl) (by kernel_rfl) (by kernel_rfl) (by exact fun _ _ _ h => h) (Or.inl ⟨by rfl, ?_⟩) (by assumption) ?_
  rotate_left
  · (intro w hSw; (try dsimp only at hSw); go_simp; (try with_reducible rfl))
  try simp only [Act.put, List.setIfInBounds_toArray, List.set_cons_zero, List.set_cons_succ]
  refine wpAnyH_take (i := 8) (v := ?_) (by simp only [List.getElem?_toArray, List.getElem?_cons_zero, List.getElem?_cons_succ]; rfl) (by kernel_rfl) (by kernel_rfl) (by kernel_rfl) (by exact fun _ _ _ h => h) (Or.inl ⟨by rfl, ?_⟩) (by assumption) ?_
  rotate_left
  · (intro w hSw; (try dsimp only at hSw); go_simp; (try with_reducible rfl))
  try simp only [Act.put, List.setIfInBounds_toArray, List.set_cons_zero, List.set_cons_succ]
  refine wpAnyH_take (i := 9) (v := undef) (by simp only [List.getElem?_toArray, List.getElem?_cons_zero, List.getElem?_cons_succ]; rfl) (by kernel_rfl) (by kernel_rfl) (by kernel_rfl) (by exact fun _ _ _ h => h) (Or.inr ⟨by rfl, rfl⟩) (by assumption) ?_
  try simp only [Act.put, List.setIfInBounds_toArray, List.set_cons_zero, List.set_cons_succ]
  refine wpAnyH_take (i := 10) (v := undef) (by simp only [List.getElem?_toArray, List.getElem?_cons_zero, List.getElem?_cons_succ]; rfl) (by kernel_rfl) (by kernel_rfl) (by kernel_rfl) (by exact fun _ _ _ h => h) (Or.inr ⟨by rfl, rfl⟩) (by assumption) ?_
  try simp only [Act.put, List.setIfInBounds_toArray, List.set_cons_zero, List.set_cons_succ]
  refine wpAnyH_take (i := 11) (v := undef) (by simp only [List.getElem?_toArray, List.getElem?_cons_zero, List.getElem?_cons_succ]; rfl) (by kernel_rfl) (by kernel_rfl) (by kernel_rfl) (by exact fun _ _ _ h => h) (Or.inr ⟨by rfl, rfl⟩) (by assumption) ?_
  try simp only [Act.put, List.setIfInBounds_toArray, List.set_cons_zero, List.set_cons_succ]
  refine wpAnyH_take (i := 12) (v := undef) (by simp only [List.getElem?_toArray, List.getElem?_cons_zero, List.getElem?_cons_succ]; rfl) (by kernel_rfl) (by kernel_rfl) (by kernel_rfl) (by exact fun _ _ _ h => h) (Or.inr ⟨by rfl, rfl⟩) (by assumption) ?_
  try simp only [Act.put, List.setIfInBounds_toArray, List.set_cons_zero, List.set_cons_succ]
  refine wpAnyH_take (i := 13) (v := ?_) (by simp only [List.getElem?_toArray, List.getElem?_cons_zero, List.getElem?_cons_succ]; rfl) (by kernel_rfl) (by kernel_rfl) (by kernel_rfl) (by exact fun _ _ _ h => h) (Or.inl ⟨by rfl, ?_⟩) (by assumption) ?_
  rotate_left
  · (intro w hSw; (try dsimp only at hSw); go_simp; (try with_reducible rfl))
  try simp only [Act.put, List.setIfInBounds_toArray, List.set_cons_zero, List.set_cons_succ]
  refine wpAnyH_take (i := 14) (v := ?_) (by simp only [List.getElem?_toArray, List.getElem?_cons_zero, List.getElem?_cons_succ]; rfl) (by kernel_rfl) (by kernel_rfl) (by kernel_rfl) (by exact fun _ _ _ h => h) (Or.inl ⟨by rfl, ?_⟩) (by assumption) ?_
  rotate_left
  · (intro w hSw; (try dsimp only at hSw); go_simp; (try with_reducible rfl))
  try simp only [Act.put, List.setIfInBounds_toArray, List.set_cons_zero, List.set_cons_succ]
  refine wpAnyH_done (by kernel_rfl) ?_ _
  have a5 := p11 w4
  go_wp2_with (first
    | (with_reducible refine at_list ?_; refine wl_loadf 37 Y3 rfl rfl rfl Tryd.underlying37 rfl size37 (by omega : 0 + 10 ≤ 10) (rpV_all r) ?_; (try simp only [Act.put, List.setIfInBounds_toArray, List.set_cons_zero, List.set_cons_succ]))
    | (go_at_call 11; (with_reducible refine a5.mono ?_); rintro e wb ⟨rfl, Ub⟩; have Yb := Y3.below Ub; have Sb := ups S3 Ub S3.size; have a6 := p21 wb)
    | (go_at_call 21; (with_reducible refine a6.mono ?_); rintro e wc ⟨rfl, Uc⟩; have Yc := Yb.below Uc; have Sc := ups Sb Uc Sb.size)
    | (with_reducible refine at_list ?_; with_reducible refine wl_alloc 37 rfl rfl zero37 ?_; intro wd Vd Ud; (try simp only [Act.put, List.setIfInBounds_toArray, List.set_cons_zero, List.set_cons_succ]); have Yd := Yc.below Ud; have Sd := ups Sc Ud Sc.size)
    | (with_reducible refine at_list ?_; refine wl_storef 37 Vd rfl rfl rfl rfl size37 rfl (by omega : 0 + 10 ≤ 10) (rpV_one _) (spl10 _ _) ?_; intro we Ve Ke; (try simp only [Act.put, List.setIfInBounds_toArray, List.set_cons_zero, List.set_cons_succ]); have Ye := Ke.box Yd (Nat.ne_of_lt Yc.lt); have Se := Ke.up Sd Sc.size)
    | (with_reducible refine at_list ?_; refine wl_run (xl_loadf 37 Ve rfl rfl Tryd.underlying37 rfl size37 (by omega : 0 + 10 ≤ 10) (rpV_all _)) (wanted_f rfl rfl rfl rfl) ?_; (try simp only [Act.put, List.setIfInBounds_toArray, List.set_cons_zero, List.set_cons_succ]))
    | (with_reducible refine at_list ?_; refine wl_run (xl_loadf 37 Ye rfl rfl Tryd.underlying37 rfl size37 (by omega : 0 + 10 ≤ 10) (rpV_all _)) (wanted_f rfl rfl rfl rfl) ?_; (try simp only [Act.put, List.setIfInBounds_toArray, List.set_cons_zero, List.set_cons_succ]))
    | (with_reducible refine at_list ?_; refine wl_run (xl_eqf37 (decide_eq_true rfl) rfl rfl rfl) (wanted_f rfl rfl rfl rfl) ?_; (try simp only [Act.put, List.setIfInBounds_toArray, List.set_cons_zero, List.set_cons_succ])))
  go_ret
  exact ⟨by simp, Se⟩
set_option maxHeartbeats 16000000 in
set_option maxRecDepth 100000 in
theorem back_other (C : Cm) (r : Rp) (w : World) (hN : Names w) (ho : C.ok) (hr : r.ok) (hk : 1 ≤ C.k ∧ C.k ≤ 7) (hown : ownC C ≠ C) : Calls Tryd.prog 5 #[.agg (cmV C), .agg (rpV r)] w fun e w' => e = .returned (.bool true) ∧ Below w.heap.size w w' := by
  have j1 : (1 : Int) ≤ (C.k : Int) := by omega
  have j2 : (C.k : Int) ≤ 7 := by omega
  have aw := fun W hN => awake_any W hN
  have p9 := fun W hN => Command_any C W hN ho
  have p11 := fun W => Reply_any r W hr
  have p21 : ∀ W, Calls Tryd.prog 21 #[.string (bs (bytR r))] W fun e w' => e = .returned (.tuple #[.agg (rpV r), .int .i64 0]) ∧ Below W.heap.size W w' := fun W => by
    have h := ReadReply_any (bytR r) W (by have : (encL (hasR r)).length ≤ 100 := encL_len (hasR r) hr; unfold bytR; rw [List.length_cons]; omega)
    rw [rdrV_byt hr] at h
    exact h
  unfold repV at p11
  have hlr := bytR_eleven r
  have hzr : (bs (bytR r)).size = (bytR r).length := bs_size _
  obtain ⟨Y, hY⟩ : ∃ Y, bs (bytR r) = Y := ⟨_, rfl⟩
  rw [hY] at p11 p21 hzr
  generalize (bytR r).length = m at *
  clear hY
  have jm : (11 : Int) ≤ (m : Int) := by omega
  rw [show cmdV C = .tuple #[.string ⟨#[]⟩, .int .i64 2] from if_neg (fun h => hown h.2.2)] at p9
  go_enter Tryd.func5, Tryd.ntmps5
  go_upto_region 1 with (first
    | (with_reducible refine at_list ?_; refine wl_box 32 rfl rfl rfl ?_; intro w1 X1 T1; (try simp only [Act.put, List.setIfInBounds_toArray, List.set_cons_zero, List.set_cons_succ]))
    | (with_reducible refine at_list ?_; refine wl_box 37 rfl rfl rfl ?_; intro w2 Y2 T2; (try simp only [Act.put, List.setIfInBounds_toArray, List.set_cons_zero, List.set_cons_succ]); have X2 := X1.below T2; have S2 := ups T1 T2 T1.size; have a1 := aw w2 (hN.up S2)))
  have l1 : w.heap.size < w1.heap.size := X1.lt
  obtain ⟨A, hA⟩ : ∃ A, w.heap.size = A := ⟨_, rfl⟩
  obtain ⟨B, hB⟩ : ∃ A, w1.heap.size = A := ⟨_, rfl⟩
  rw [hA] at X2 l1 ⊢
  rw [hB] at Y2 l1 ⊢
  clear hB X1 T1
  go_upto_region 3 with (go_at_call 23; (with_reducible refine a1.mono ?_); rintro e w3 ⟨rfl, U3⟩; have X3 := X2.below U3; have Y3 := Y2.below U3; have S3 := ups S2 U3 S2.size; have a2 := p9 w3 (hN.up S3))
  clear a1 aw X2 Y2 T2 S2 U3
  go_upto_region 4 with (first
    | (with_reducible refine at_list ?_; refine wl_loadf 32 X3 rfl rfl rfl Tryd.underlying32 rfl size32 (by omega : 0 + 24 ≤ 24) (cmV_all C) ?_; (try simp only [Act.put, List.setIfInBounds_toArray, List.set_cons_zero, List.set_cons_succ]))
    | (go_at_call 9; (with_reducible refine a2.mono ?_); rintro e w4 ⟨rfl, U4⟩))
  clear a2 p9
  replace X3 := X3.below U4
  replace Y3 := Y3.below U4
  replace S3 := ups S3 U4 S3.size
  clear U4 w3
  rename World => w3
  refine wp_region_held_drew (S := fun W => Box W A (cmV C) 32) (by kernel_rfl) X3.drew (fun hHeld => ?_)
  replace X3 := X3.drew
  replace Y3 := Y3.drew
  replace S3 := S3.drew
  generalize w3.drew = w4 at *
  refine wpAnyH_take (i := 0) (v := ?_) (by simp only [List.getElem?_toArray, List.getElem?_cons_zero]; rfl) (by kernel_rfl) (by kernel_rfl) (by kernel_rfl) (by exact fun _ _ _ h => h) (Or.inl ⟨by rfl, ?_⟩) (by assumption) ?_
  rotate_left
  · (intro w hSw; (try dsimp only at hSw); go_simp; (try with_reducible rfl))
  try simp only [Act.put, List.setIfInBounds_toArray, List.set_cons_zero, List.set_cons_succ]
  refine wpAnyH_take (i := 1) (v := .int .u8 (C.k : Int)) (by simp only [List.getElem?_toArray, List.getElem?_cons_zero, List.getElem?_cons_succ]; rfl) (by kernel_rfl) (by kernel_rfl) (by kernel_rfl) (by exact fun _ _ _ h => h) (Or.inl ⟨by rfl, fun w hSw => xl_cell 5 hSw rfl rfl Tryd.underlying5 rfl (cmV_0 C)⟩) (by assumption) ?_
  try simp only [Act.put, List.setIfInBounds_toArray, List.set_cons_zero, List.set_cons_succ]
  refine wpAnyH_take (i := 2) (v := ?_) (by simp only [List.getElem?_toArray, List.getElem?_cons_zero, List.getElem?_cons_succ]; rfl) (by kernel_rfl) (by kernel_rfl) (by kernel_rfl) (by exact fun _ _ _ h => h) (Or.inl ⟨by rfl, ?_⟩) (by assumption) ?_
  rotate_left
  · (intro w hSw; (try dsimp only at hSw); go_simp; (try with_reducible rfl))
  try simp only [Act.put, List.setIfInBounds_toArray, List.set_cons_zero, List.set_cons_succ]
  refine wpAnyH_take (i := 3) (v := ?_) (by simp only [List.getElem?_toArray, List.getElem?_cons_zero, List.getElem?_cons_succ]; rfl) (by kernel_rfl) (by kernel_rfl) (by kernel_rfl) (by exact fun _ _ _ h => h) (Or.inl ⟨by rfl, ?_⟩) (by assumption) ?_
  rotate_left
  · (intro w hSw; (try dsimp only at hSw); go_simp; (try with_reducible rfl))
  try simp only [Act.put, List.setIfInBounds_toArray, List.set_cons_zero, List.set_cons_succ]
  refine wpAnyH_take (i := 4) (v := ?_) (by simp only [List.getElem?_toArray, List.getElem?_cons_zero, List.getElem?_cons_succ]; rfl) (by kernel_rfl) (by kernel_rfl) (by kernel_rfl) (by exact fun _ _ _ h => h) (Or.inl ⟨by rfl, ?_⟩) (by assumption) ?_
  rotate_left
  · (intro w hSw; (try dsimp only at hSw); go_simp; (try with_reducible rfl))
  try simp only [Act.put, List.setIfInBounds_toArray, List.set_cons_zero, List.set_cons_succ]
  refine wpAnyH_take (i := 5) (v := .int .u8 (C.k : Int)) (by simp only [List.getElem?_toArray, List.getElem?_cons_zero, List.getElem?_cons_succ]; rfl) (by kernel_rfl) (by kernel_rfl) (by kernel_rfl) (by exact fun _ _ _ h => h) (Or.inl ⟨by rfl, fun w hSw => xl_cell 5 hSw rfl rfl Tryd.underlying5 rfl (cmV_0 C)⟩) (by assumption) ?_
  try simp only [Act.put, List.setIfInBounds_toArray, List.set_cons_zero, List.set_cons_succ]
  refine wpAnyH_take (i := 6) (v := ?_) (by simp only [List.getElem?_toArray, List.getElem?_cons_zero, List.getElem?_cons_succ]; rfl) (by kernel_rfl) (by kernel_rfl) (by kernel_rfl) (by exact fun _ _ _ h => h) (Or.inl ⟨by rfl, ?_⟩) (by assumption) ?_
  rotate_left
  · (intro w hSw; (try dsimp only at hSw); go_simp; (try with_reducible rfl))
  try simp only [Act.put, List.setIfInBounds_toArray, List.set_cons_zero, List.set_cons_succ]
  refine wpAnyH_take (i := 7) (v := ?_) (by simp only [List.getElem?_toArray, List.getElem?_cons_zero, List.getElem?_cons_succ]; rfl) (by kernel_rfl) (by kernel_rfl) (by kernel_rfl) (by exact fun _ _ _ h => h) (Or.inl ⟨by rfl, ?_⟩) (by assumption) ?_
  rotate_left
  · (intro w hSw; (try dsimp only at hSw); go_simp; (try with_reducible rfl))
  try simp only [Act.put, List.setIfInBounds_toArray, List.set_cons_zero, List.set_cons_succ]
  refine wpAnyH_take (i := 8) (v := ?_) (by simp only [List.getElem?_toArray, List.getElem?_cons_zero, List.getElem?_cons_succ]; rfl) (by kernel_rfl) (by kernel_rfl) (by kernel_rfl) (by exact fun _ _ _ h => h) (Or.inl ⟨by rfl, ?_⟩) (by assumption) ?_
  rotate_left
  · (intro w hSw; (try dsimp only at hSw); go_simp; (try with_reducible rfl))
  try simp only [Act.put, List.setIfInBounds_toArray, List.set_cons_zero, List.set_cons_succ]
  refine wpAnyH_take (i := 9) (v := .agg (cmV C)) (by simp only [List.getElem?_toArray, List.getElem?_cons_zero, List.getElem?_cons_succ]; rfl) (by kernel_rfl) (by kernel_rfl) (by kernel_rfl) (by exact fun _ _ _ h => h) (Or.inl ⟨by rfl, fun w hSw => xl_load 32 hSw rfl rfl Tryd.underlying32 rfl size32 (by omega : 0 + 24 ≤ 24) (cmV_all C)⟩) (by assumption) ?_
  try simp only [Act.put, List.setIfInBounds_toArray, List.set_cons_zero, List.set_cons_succ]
  refine wpAnyH_take (i := 11) (v := .agg (cmV C)) (by simp only [List.getElem?_toArray, List.getElem?_cons_zero, List.getElem?_cons_succ]; rfl) (by kernel_rfl) (by kernel_rfl) (by kernel_rfl) (by exact fun _ _ _ h => h) (Or.inl ⟨by rfl, fun w hSw => xl_load 32 hSw rfl rfl Tryd.underlying32 rfl size32 (by omega : 0 + 24 ≤ 24) (cmV_all C)⟩) (by assumption) ?_
  try simp only [Act.put, List.setIfInBounds_toArray, List.set_cons_zero, List.set_cons_succ]
  refine wpAnyH_ready (rs := [10]) (by kernel_rfl) (by simp) ?_
  refine AllReadyH.cons (by simp only [List.getElem?_toArray, List.getElem?_cons_zero, List.getElem?_cons_succ]; rfl) (fun K hK => ?_) AllReadyH.nil
  go_simp
  go_at_call 17
  (with_reducible refine (Own_any C _).mono ?_)
  rintro e w5 ⟨rfl, U⟩
  replace X3 := X3.below U
  replace Y3 := Y3.below U
  replace S3 := ups S3 U S3.size
  clear U
  refine hK.out _ _ X3 (fun hHeld => ?_)
  clear hK K
  try simp only [Act.put, List.setIfInBounds_toArray, List.set_cons_zero, List.set_cons_succ]
  refine wpAnyH_take (i := 12) (v := .bool false) (by simp only [List.getElem?_toArray, List.getElem?_cons_zero, List.getElem?_cons_succ]; rfl) (by kernel_rfl) (by kernel_rfl) (by kernel_rfl) (by exact fun _ _ _ h => h) (Or.inl ⟨by rfl, fun w hSw => xl_eqb32 (decide_eq_false hown) rfl rfl rfl⟩) (by assumption) ?_
  try simp only [Act.put, List.setIfInBounds_toArray, List.set_cons_zero, List.set_cons_succ]
  refine wpAnyH_take (i := 13) (v := ?_) (by simp only [List.getElem?_toArray, List.getElem?_cons_zero, List.getElem?_cons_succ]; rfl) (by kernel_rfl) (by kernel_rfl) (by kernel_rfl) (by exact fun _ _ _ h => h) (Or.inl ⟨by rfl, ?_⟩) (by assumption) ?_
  rotate_left
  · (intro w hSw; (try dsimp only at hSw); go_simp; (try with_reducible rfl))
  try simp only [Act.put, List.setIfInBounds_toArray, List.set_cons_zero, List.set_cons_succ]
  refine wpAnyH_take (i := 14) (v := ?_) (by simp only [List.getElem?_toArray, List.getElem?_cons_zero, List.getElem?_cons_succ]; rfl) (by kernel_rfl) (by kernel_rfl) (by kernel_rfl) (by exact fun _ _ _ h => h) (Or.inl ⟨by rfl, ?_⟩) (by assumption) ?_
  rotate_left
  · (intro w hSw; (try dsimp only at hSw); go_simp; (try with_reducible rfl))
  try simp only [Act.put, List.setIfInBounds_toArray, List.set_cons_zero, List.set_cons_succ]
  refine wpAnyH_done (by kernel_rfl) ?_ _
  have a5 := p11 w5
  go_wp2_with (first
    | (with_reducible refine at_list ?_; refine wl_loadf 37 Y3 rfl rfl rfl Tryd.underlying37 rfl size37 (by omega : 0 + 10 ≤ 10) (rpV_all r) ?_; (try simp only [Act.put, List.setIfInBounds_toArray, List.set_cons_zero, List.set_cons_succ]))
    | (go_at_call 11; (with_reducible refine a5.mono ?_); rintro e wb ⟨rfl, Ub⟩; have Yb := Y3.below Ub; have Sb := ups S3 Ub S3.size; have a6 := p21 wb)
    | (go_at_call 21; (with_reducible refine a6.mono ?_); rintro e wc ⟨rfl, Uc⟩; have Yc := Yb.below Uc; have Sc := ups Sb Uc Sb.size)
    | (with_reducible refine at_list ?_; with_reducible refine wl_alloc 37 rfl rfl zero37 ?_; intro wd Vd Ud; (try simp only [Act.put, List.setIfInBounds_toArray, List.set_cons_zero, List.set_cons_succ]); have Yd := Yc.below Ud; have Sd := ups Sc Ud Sc.size)
    | (with_reducible refine at_list ?_; refine wl_storef 37 Vd rfl rfl rfl rfl size37 rfl (by omega : 0 + 10 ≤ 10) (rpV_one _) (spl10 _ _) ?_; intro we Ve Ke; (try simp only [Act.put, List.setIfInBounds_toArray, List.set_cons_zero, List.set_cons_succ]); have Ye := Ke.box Yd (Nat.ne_of_lt Yc.lt); have Se := Ke.up Sd Sc.size)
    | (with_reducible refine at_list ?_; refine wl_run (xl_loadf 37 Ve rfl rfl Tryd.underlying37 rfl size37 (by omega : 0 + 10 ≤ 10) (rpV_all _)) (wanted_f rfl rfl rfl rfl) ?_; (try simp only [Act.put, List.setIfInBounds_toArray, List.set_cons_zero, List.set_cons_succ]))
    | (with_reducible refine at_list ?_; refine wl_run (xl_loadf 37 Ye rfl rfl Tryd.underlying37 rfl size37 (by omega : 0 + 10 ≤ 10) (rpV_all _)) (wanted_f rfl rfl rfl rfl) ?_; (try simp only [Act.put, List.setIfInBounds_toArray, List.set_cons_zero, List.set_cons_succ]))
    | (with_reducible refine at_list ?_; refine wl_run (xl_eqf37 (decide_eq_true rfl) rfl rfl rfl) (wanted_f rfl rfl rfl rfl) ?_; (try simp only [Act.put, List.setIfInBounds_toArray, List.set_cons_zero, List.set_cons_succ])))
  go_ret
  exact ⟨by simp, Se⟩
set_option maxHeartbeats 16000000 in
set_option maxRecDepth 100000 in
theorem back_yes (C : Cm) (r : Rp) (w : World) (hN : Names w) (ho : C.ok) (hr : r.ok) (hk : 1 ≤ C.k ∧ C.k ≤ 7) (hown : ownC C = C) : Calls Tryd.prog 5 #[.agg (cmV C), .agg (rpV r)] w fun e w' => e = .returned (.bool true) ∧ Below w.heap.size w w' := by
  have j1 : (1 : Int) ≤ (C.k : Int) := by omega
  have j2 : (C.k : Int) ≤ 7 := by omega
  have aw := fun W hN => awake_any W hN
  have p9 := fun W hN => Command_any C W hN ho
  have p11 := fun W => Reply_any r W hr
  have p21 : ∀ W, Calls Tryd.prog 21 #[.string (bs (bytR r))] W fun e w' => e = .returned (.tuple #[.agg (rpV r), .int .i64 0]) ∧ Below W.heap.size W w' := fun W => by
    have h := ReadReply_any (bytR r) W (by have : (encL (hasR r)).length ≤ 100 := encL_len (hasR r) hr; unfold bytR; rw [List.length_cons]; omega)
    rw [rdrV_byt hr] at h
    exact h
  unfold repV at p11
  have hlr := bytR_eleven r
  have hzr : (bs (bytR r)).size = (bytR r).length := bs_size _
  obtain ⟨Y, hY⟩ : ∃ Y, bs (bytR r) = Y := ⟨_, rfl⟩
  rw [hY] at p11 p21 hzr
  generalize (bytR r).length = m at *
  clear hY
  have jm : (11 : Int) ≤ (m : Int) := by omega
  rw [show cmdV C = .tuple #[.string (bs (bytC C)), .int .i64 0] from if_pos ⟨hk.1, hk.2, hown⟩] at p9
  have p19 : ∀ W, Names W → Calls Tryd.prog 19 #[.string (bs (bytC C))] W fun e w' => e = .returned (.tuple #[.agg (cmV C), .int .i64 0]) ∧ Below W.heap.size W w' := fun W hN => by
    have h := ReadCommand_any (bytC C) W hN (by have := bytC_len ho; unfold bytC; rw [List.length_cons]; omega)
    rw [rdcV_byt ⟨hk.1, hk.2, hown⟩ ho] at h
    exact h
  have hl2 := bytC_two C
  have hzc : (bs (bytC C)).size = (bytC C).length := bs_size _
  obtain ⟨X, hX⟩ : ∃ X, bs (bytC C) = X := ⟨_, rfl⟩
  rw [hX] at p9 p19 hzc
  generalize (bytC C).length = n at *
  have hXb : X = bs (UInt8.ofNat C.k :: encL (hasC C)) := hX.symm
  clear hX
  replace hXb := Lib.hid hXb
  have jn : decide ((n : Int) < 2) = false := decide_eq_false (by omega)
  have hkb : ((UInt8.ofNat C.k).toNat : Int) = (C.k : Int) := by rw [UInt8.toNat_ofNat', Nat.mod_eq_of_lt ho.1]
  go_enter Tryd.func5, Tryd.ntmps5
  go_upto_region 1 with (first
    | (with_reducible refine at_list ?_; refine wl_box 32 rfl rfl rfl ?_; intro w1 X1 T1; (try simp only [Act.put, List.setIfInBounds_toArray, List.set_cons_zero, List.set_cons_succ]))
    | (with_reducible refine at_list ?_; refine wl_box 37 rfl rfl rfl ?_; intro w2 Y2 T2; (try simp only [Act.put, List.setIfInBounds_toArray, List.set_cons_zero, List.set_cons_succ]); have X2 := X1.below T2; have S2 := ups T1 T2 T1.size; have a1 := aw w2 (hN.up S2)))
  have l1 : w.heap.size < w1.heap.size := X1.lt
  obtain ⟨A, hA⟩ : ∃ A, w.heap.size = A := ⟨_, rfl⟩
  obtain ⟨B, hB⟩ : ∃ A, w1.heap.size = A := ⟨_, rfl⟩
  rw [hA] at X2 l1 ⊢
  rw [hB] at Y2 l1 ⊢
  clear hB X1 T1
  go_upto_region 3 with (go_at_call 23; (with_reducible refine a1.mono ?_); rintro e w3 ⟨rfl, U3⟩; have X3 := X2.below U3; have Y3 := Y2.below U3; have S3 := ups S2 U3 S2.size; have a2 := p9 w3 (hN.up S3))
  clear a1 aw X2 Y2 T2 S2 U3
  go_upto_region 4 with (first
    | (with_reducible refine at_list ?_; refine wl_loadf 32 X3 rfl rfl rfl Tryd.underlying32 rfl size32 (by omega : 0 + 24 ≤ 24) (cmV_all C) ?_; (try simp only [Act.put, List.setIfInBounds_toArray, List.set_cons_zero, List.set_cons_succ]))
    | (go_at_call 9; (with_reducible refine a2.mono ?_); rintro e w4 ⟨rfl, U4⟩))
  clear a2 p9
  replace X3 := X3.below U4
  replace Y3 := Y3.below U4
  replace S3 := ups S3 U4 S3.size
  clear U4 w3
  rename World => w3
  refine wp_region_held_drew (S := fun W => Box W A (cmV C) 32) (by kernel_rfl) X3.drew (fun hHeld => ?_)
  replace X3 := X3.drew
  replace Y3 := Y3.drew
  replace S3 := S3.drew
  generalize w3.drew = w4 at *
  refine wpAnyH_take (i := 0) (v := ?_) (by simp only [List.getElem?_toArray, List.getElem?_cons_zero]; rfl) (by kernel_rfl) (by kernel_rfl) (by kernel_rfl) (by exact fun _ _ _ h => h) (Or.inl ⟨by rfl, ?_⟩) (by assumption) ?_
  rotate_left
  · (intro w hSw; (try dsimp only at hSw); go_simp; (try with_reducible rfl))
  try simp only [Act.put, List.setIfInBounds_toArray, List.set_cons_zero, List.set_cons_succ]
  refine wpAnyH_take (i := 1) (v := .int .u8 (C.k : Int)) (by simp only [List.getElem?_toArray, List.getElem?_cons_zero, List.getElem?_cons_succ]; rfl) (by kernel_rfl) (by kernel_rfl) (by kernel_rfl) (by exact fun _ _ _ h => h) (Or.inl ⟨by rfl, fun w hSw => xl_cell 5 hSw rfl rfl Tryd.underlying5 rfl (cmV_0 C)⟩) (by assumption) ?_
  try simp only [Act.put, List.setIfInBounds_toArray, List.set_cons_zero, List.set_cons_succ]
  refine wpAnyH_take (i := 2) (v := ?_) (by simp only [List.getElem?_toArray, List.getElem?_cons_zero, List.getElem?_cons_succ]; rfl) (by kernel_rfl) (by kernel_rfl) (by kernel_rfl) (by exact fun _ _ _ h => h) (Or.inl ⟨by rfl, ?_⟩) (by assumption) ?_
  rotate_left
  · (intro w hSw; (try dsimp only at hSw); go_simp; (try with_reducible rfl))
  try simp only [Act.put, List.setIfInBounds_toArray, List.set_cons_zero, List.set_cons_succ]
  refine wpAnyH_take (i := 3) (v := ?_) (by simp only [List.getElem?_toArray, List.getElem?_cons_zero, List.getElem?_cons_succ]; rfl) (by kernel_rfl) (by kernel_rfl) (by kernel_rfl) (by exact fun _ _ _ h => h) (Or.inl ⟨by rfl, ?_⟩) (by assumption) ?_
  rotate_left
  · (intro w hSw; (try dsimp only at hSw); go_simp; (try with_reducible rfl))
  try simp only [Act.put, List.setIfInBounds_toArray, List.set_cons_zero, List.set_cons_succ]
  refine wpAnyH_take (i := 4) (v := ?_) (by simp only [List.getElem?_toArray, List.getElem?_cons_zero, List.getElem?_cons_succ]; rfl) (by kernel_rfl) (by kernel_rfl) (by kernel_rfl) (by exact fun _ _ _ h => h) (Or.inl ⟨by rfl, ?_⟩) (by assumption) ?_
  rotate_left
  · (intro w hSw; (try dsimp only at hSw); go_simp; (try with_reducible rfl))
  try simp only [Act.put, List.setIfInBounds_toArray, List.set_cons_zero, List.set_cons_succ]
  refine wpAnyH_take (i := 5) (v := .int .u8 (C.k : Int)) (by simp only [List.getElem?_toArray, List.getElem?_cons_zero, List.getElem?_cons_succ]; rfl) (by kernel_rfl) (by kernel_rfl) (by kernel_rfl) (by exact fun _ _ _ h => h) (Or.inl ⟨by rfl, fun w hSw => xl_cell 5 hSw rfl rfl Tryd.underlying5 rfl (cmV_0 C)⟩) (by assumption) ?_
  try simp only [Act.put, List.setIfInBounds_toArray, List.set_cons_zero, List.set_cons_succ]
  refine wpAnyH_take (i := 6) (v := ?_) (by simp only [List.getElem?_toArray, List.getElem?_cons_zero, List.getElem?_cons_succ]; rfl) (by kernel_rfl) (by kernel_rfl) (by kernel_rfl) (by exact fun _ _ _ h => h) (Or.inl ⟨by rfl, ?_⟩) (by assumption) ?_
  rotate_left
  · (intro w hSw; (try dsimp only at hSw); go_simp; (try with_reducible rfl))
  try simp only [Act.put, List.setIfInBounds_toArray, List.set_cons_zero, List.set_cons_succ]
  refine wpAnyH_take (i := 7) (v := ?_) (by simp only [List.getElem?_toArray, List.getElem?_cons_zero, List.getElem?_cons_succ]; rfl) (by kernel_rfl) (by kernel_rfl) (by kernel_rfl) (by exact fun _ _ _ h => h) (Or.inl ⟨by rfl, ?_⟩) (by assumption) ?_
  rotate_left
  · (intro w hSw; (try dsimp only at hSw); go_simp; (try with_reducible rfl))
  try simp only [Act.put, List.setIfInBounds_toArray, List.set_cons_zero, List.set_cons_succ]
  refine wpAnyH_take (i := 8) (v := ?_) (by simp only [List.getElem?_toArray, List.getElem?_cons_zero, List.getElem?_cons_succ]; rfl) (by kernel_rfl) (by kernel_rfl) (by kernel_rfl) (by exact fun _ _ _ h => h) (Or.inl ⟨by rfl, ?_⟩) (by assumption) ?_
  rotate_left
  · (intro w hSw; (try dsimp only at hSw); go_simp; (try with_reducible rfl))
  try simp only [Act.put, List.setIfInBounds_toArray, List.set_cons_zero, List.set_cons_succ]
  refine wpAnyH_take (i := 9) (v := .agg (cmV C)) (by simp only [List.getElem?_toArray, List.getElem?_cons_zero, List.getElem?_cons_succ]; rfl) (by kernel_rfl) (by kernel_rfl) (by kernel_rfl) (by exact fun _ _ _ h => h) (Or.inl ⟨by rfl, fun w hSw => xl_load 32 hSw rfl rfl Tryd.underlying32 rfl size32 (by omega : 0 + 24 ≤ 24) (cmV_all C)⟩) (by assumption) ?_
  try simp only [Act.put, List.setIfInBounds_toArray, List.set_cons_zero, List.set_cons_succ]
  refine wpAnyH_take (i := 11) (v := .agg (cmV C)) (by simp only [List.getElem?_toArray, List.getElem?_cons_zero, List.getElem?_cons_succ]; rfl) (by kernel_rfl) (by kernel_rfl) (by kernel_rfl) (by exact fun _ _ _ h => h) (Or.inl ⟨by rfl, fun w hSw => xl_load 32 hSw rfl rfl Tryd.underlying32 rfl size32 (by omega : 0 + 24 ≤ 24) (cmV_all C)⟩) (by assumption) ?_
  try simp only [Act.put, List.setIfInBounds_toArray, List.set_cons_zero, List.set_cons_succ]
  refine wpAnyH_ready (rs := [10]) (by kernel_rfl) (by simp) ?_
  refine AllReadyH.cons (by simp only [List.getElem?_toArray, List.getElem?_cons_zero, List.getElem?_cons_succ]; rfl) (fun K hK => ?_) AllReadyH.nil
  go_simp
  go_at_call 17
  (with_reducible refine (Own_any C _).mono ?_)
  rintro e w5 ⟨rfl, U⟩
  replace X3 := X3.below U
  replace Y3 := Y3.below U
  replace S3 := ups S3 U S3.size
  clear U
  refine hK.out _ _ X3 (fun hHeld => ?_)
  clear hK K
  try simp only [Act.put, List.setIfInBounds_toArray, List.set_cons_zero, List.set_cons_succ]
  refine wpAnyH_take (i := 12) (v := .bool true) (by simp only [List.getElem?_toArray, List.getElem?_cons_zero, List.getElem?_cons_succ]; rfl) (by kernel_rfl) (by kernel_rfl) (by kernel_rfl) (by exact fun _ _ _ h => h) (Or.inl ⟨by rfl, fun w hSw => xl_eqb32 (decide_eq_true hown) rfl rfl rfl⟩) (by assumption) ?_
  try simp only [Act.put, List.setIfInBounds_toArray, List.set_cons_zero, List.set_cons_succ]
  refine wpAnyH_take (i := 13) (v := ?_) (by simp only [List.getElem?_toArray, List.getElem?_cons_zero, List.getElem?_cons_succ]; rfl) (by kernel_rfl) (by kernel_rfl) (by kernel_rfl) (by exact fun _ _ _ h => h) (Or.inl ⟨by rfl, ?_⟩) (by assumption) ?_
  rotate_left
  · (intro w hSw; (try dsimp only at hSw); go_simp; (try with_reducible rfl))
  try simp only [Act.put, List.setIfInBounds_toArray, List.set_cons_zero, List.set_cons_succ]
  refine wpAnyH_take (i := 14) (v := ?_) (by simp only [List.getElem?_toArray, List.getElem?_cons_zero, List.getElem?_cons_succ]; rfl) (by kernel_rfl) (by kernel_rfl) (by kernel_rfl) (by exact fun _ _ _ h => h) (Or.inl ⟨by rfl, ?_⟩) (by assumption) ?_
  rotate_left
  · (intro w hSw; (try dsimp only at hSw); go_simp; (try with_reducible rfl))
  try simp only [Act.put, List.setIfInBounds_toArray, List.set_cons_zero, List.set_cons_succ]
  refine wpAnyH_done (by kernel_rfl) ?_ _
  have a7 := p19 w5 (hN.up S3)
  go_upto_region 9 with (first
    | (go_at_call 19; (with_reducible refine a7.mono ?_); rintro e w6 ⟨rfl, U6⟩; have X6 := X3.below U6; have Y6 := Y3.below U6; have S6 := ups S3 U6 S3.size)
    | (with_reducible refine at_list ?_; with_reducible refine wl_alloc 32 rfl rfl zero32 ?_; intro w7 V7 U7; (try simp only [Act.put, List.setIfInBounds_toArray, List.set_cons_zero, List.set_cons_succ]); have X7 := X6.below U7; have Y7 := Y6.below U7; have S7 := ups S6 U7 S6.size)
    | (with_reducible refine at_list ?_; refine wl_storef 32 V7 rfl rfl rfl rfl size32 rfl (by omega : 0 + 24 ≤ 24) (cmV_one _) (spl24 _ _) ?_; intro w8 V8 K8; (try simp only [Act.put, List.setIfInBounds_toArray, List.set_cons_zero, List.set_cons_succ]); have X8 := K8.box X7 (Nat.ne_of_lt X6.lt); have Y8 := K8.box Y7 (Nat.ne_of_lt Y6.lt); have S8 := K8.up S7 S6.size; have hc8 := (X8.cell 0).trans (cmV_0 C)))
  clear X3 Y3 S3 a7 U6 X6 Y6 S6 V7 U7 X7 Y7 S7 K8
  obtain ⟨G8, hG8⟩ : ∃ g, w6.heap.size = g := ⟨_, rfl⟩
  rw [hG8] at V8 ⊢
  clear hG8
  refine wp_region_held_drew (S := fun W => Box W A (cmV C) 32 ∧ Box W G8 (cmV C) 32) (by kernel_rfl) ⟨X8.drew, V8.drew⟩ (fun hHeld => ?_)
  replace X8 := X8.drew
  replace V8 := V8.drew
  replace Y8 := Y8.drew
  replace S8 := S8.drew
  clear hc8
  generalize w8.drew = w9 at *
  refine wpAnyH_take (i := 0) (v := ?_) (by simp only [List.getElem?_toArray, List.getElem?_cons_zero]; rfl) (by kernel_rfl) (by kernel_rfl) (by kernel_rfl) (by exact fun _ _ _ h => h) (Or.inl ⟨by rfl, ?_⟩) (by assumption) ?_
  rotate_left
  · (intro w hSw; (try dsimp only at hSw); go_simp; (try with_reducible rfl))
  try simp only [Act.put, List.setIfInBounds_toArray, List.set_cons_zero, List.set_cons_succ]
  refine wpAnyH_take (i := 1) (v := ?_) (by simp only [List.getElem?_toArray, List.getElem?_cons_zero, List.getElem?_cons_succ]; rfl) (by kernel_rfl) (by kernel_rfl) (by kernel_rfl) (by exact fun _ _ _ h => h) (Or.inl ⟨by rfl, ?_⟩) (by assumption) ?_
  rotate_left
  · (intro w hSw; (try dsimp only at hSw); go_simp; (try with_reducible rfl))
  try simp only [Act.put, List.setIfInBounds_toArray, List.set_cons_zero, List.set_cons_succ]
  refine wpAnyH_take (i := 2) (v := ?_) (by simp only [List.getElem?_toArray, List.getElem?_cons_zero, List.getElem?_cons_succ]; rfl) (by kernel_rfl) (by kernel_rfl) (by kernel_rfl) (by exact fun _ _ _ h => h) (Or.inl ⟨by rfl, ?_⟩) (by assumption) ?_
  rotate_left
  · (intro w hSw; (try dsimp only at hSw); go_simp; (try with_reducible rfl))
  try simp only [Act.put, List.setIfInBounds_toArray, List.set_cons_zero, List.set_cons_succ]
  refine wpAnyH_take (i := 3) (v := .agg (cmV C)) (by simp only [List.getElem?_toArray, List.getElem?_cons_zero, List.getElem?_cons_succ]; rfl) (by kernel_rfl) (by kernel_rfl) (by kernel_rfl) (by exact fun _ _ _ h => h) (Or.inl ⟨by rfl, fun w hSw => (xl_loadf 32 hSw.2 rfl rfl Tryd.underlying32 rfl size32 (by omega : 0 + 24 ≤ 24) (cmV_all C))⟩) (by assumption) ?_
  try simp only [Act.put, List.setIfInBounds_toArray, List.set_cons_zero, List.set_cons_succ]
  refine wpAnyH_take (i := 4) (v := .agg (cmV C)) (by simp only [List.getElem?_toArray, List.getElem?_cons_zero, List.getElem?_cons_succ]; rfl) (by kernel_rfl) (by kernel_rfl) (by kernel_rfl) (by exact fun _ _ _ h => h) (Or.inl ⟨by rfl, fun w hSw => (xl_loadf 32 hSw.1 rfl rfl Tryd.underlying32 rfl size32 (by omega : 0 + 24 ≤ 24) (cmV_all C))⟩) (by assumption) ?_
  try simp only [Act.put, List.setIfInBounds_toArray, List.set_cons_zero, List.set_cons_succ]
  refine wpAnyH_take (i := 5) (v := .bool false) (by simp only [List.getElem?_toArray, List.getElem?_cons_zero, List.getElem?_cons_succ]; rfl) (by kernel_rfl) (by kernel_rfl) (by kernel_rfl) (by exact fun _ _ _ h => h) (Or.inl ⟨by rfl, fun w hSw => xl_nef32 (by rw [decide_eq_true rfl]; rfl) rfl rfl rfl⟩) (by assumption) ?_
  try simp only [Act.put, List.setIfInBounds_toArray, List.set_cons_zero, List.set_cons_succ]
  refine wpAnyH_take (i := 6) (v := ?_) (by simp only [List.getElem?_toArray, List.getElem?_cons_zero, List.getElem?_cons_succ]; rfl) (by kernel_rfl) (by kernel_rfl) (by kernel_rfl) (by exact fun _ _ _ h => h) (Or.inl ⟨by rfl, ?_⟩) (by assumption) ?_
  rotate_left
  · (intro w hSw; (try dsimp only at hSw); go_simp; (try with_reducible rfl))
  try simp only [Act.put, List.setIfInBounds_toArray, List.set_cons_zero, List.set_cons_succ]
  refine wpAnyH_take (i := 7) (v := ?_) (by simp only [List.getElem?_toArray, List.getElem?_cons_zero, List.getElem?_cons_succ]; rfl) (by kernel_rfl) (by kernel_rfl) (by kernel_rfl) (by exact fun _ _ _ h => h) (Or.inl ⟨by rfl, ?_⟩) (by assumption) ?_
  rotate_left
  · (intro w hSw; (try dsimp only at hSw); go_simp; (try with_reducible rfl))
  try simp only [Act.put, List.setIfInBounds_toArray, List.set_cons_zero, List.set_cons_succ]
  refine wpAnyH_take (i := 8) (v := ?_) (by simp only [List.getElem?_toArray, List.getElem?_cons_zero, List.getElem?_cons_succ]; rfl) (by kernel_rfl) (by kernel_rfl) (by kernel_rfl) (by exact fun _ _ _ h => h) (Or.inl ⟨by rfl, ?_⟩) (by assumption) ?_
  rotate_left
  · (intro w hSw; (try dsimp only at hSw); go_simp; (try with_reducible rfl))
  try simp only [Act.put, List.setIfInBounds_toArray, List.set_cons_zero, List.set_cons_succ]
  refine wpAnyH_take (i := 9) (v := ?_) (by simp only [List.getElem?_toArray, List.getElem?_cons_zero, List.getElem?_cons_succ]; rfl) (by kernel_rfl) (by kernel_rfl) (by kernel_rfl) (by exact fun _ _ _ h => h) (Or.inl ⟨by rfl, ?_⟩) (by assumption) ?_
  rotate_left
  · (intro w hSw; (try dsimp only at hSw); go_simp; (try with_reducible rfl))
  try simp only [Act.put, List.setIfInBounds_toArray, List.set_cons_zero, List.set_cons_succ]
  refine wpAnyH_take (i := 10) (v := ?_) (by simp only [List.getElem?_toArray, List.getElem?_cons_zero, List.getElem?_cons_succ]; rfl) (by kernel_rfl) (by kernel_rfl) (by kernel_rfl) (by exact fun _ _ _ h => h) (Or.inl ⟨by rfl, ?_⟩) (by assumption) ?_
  rotate_left
  · (intro w hSw; (try dsimp only at hSw); go_simp; (try with_reducible rfl))
  try simp only [Act.put, List.setIfInBounds_toArray, List.set_cons_zero, List.set_cons_succ]
  refine wpAnyH_take (i := 11) (v := ?_) (by simp only [List.getElem?_toArray, List.getElem?_cons_zero, List.getElem?_cons_succ]; rfl) (by kernel_rfl) (by kernel_rfl) (by kernel_rfl) (by exact fun _ _ _ h => h) (Or.inl ⟨by rfl, ?_⟩) (by assumption) ?_
  rotate_left
  · (intro w hSw; (try dsimp only at hSw); go_simp; (try with_reducible rfl))
  try simp only [Act.put, List.setIfInBounds_toArray, List.set_cons_zero, List.set_cons_succ]
  refine wpAnyH_take (i := 12) (v := ?_) (by simp only [List.getElem?_toArray, List.getElem?_cons_zero, List.getElem?_cons_succ]; rfl) (by kernel_rfl) (by kernel_rfl) (by kernel_rfl) (by exact fun _ _ _ h => h) (Or.inl ⟨by rfl, ?_⟩) (by assumption) ?_
  rotate_left
  · (intro w hSw; (try dsimp only at hSw); go_simp; (try with_reducible rfl))
  try simp only [Act.put, List.setIfInBounds_toArray, List.set_cons_zero, List.set_cons_succ]
  refine wpAnyH_take (i := 13) (v := ?_) (by simp only [List.getElem?_toArray, List.getElem?_cons_zero, List.getElem?_cons_succ]; rfl) (by kernel_rfl) (by kernel_rfl) (by kernel_rfl) (by exact fun _ _ _ h => h) (Or.inl ⟨by rfl, ?_⟩) (by assumption) ?_
  rotate_left
  · (intro w hSw; (try dsimp only at hSw); go_simp; (try with_reducible rfl))
  try simp only [Act.put, List.setIfInBounds_toArray, List.set_cons_zero, List.set_cons_succ]
  refine wpAnyH_take (i := 14) (v := .int .u8 (C.k : Int)) (by simp only [List.getElem?_toArray, List.getElem?_cons_zero, List.getElem?_cons_succ]; rfl) (by kernel_rfl) (by kernel_rfl) (by kernel_rfl) (by exact fun _ _ _ h => h) (Or.inl ⟨by rfl, fun w hSw => (by rw [← hkb]; exact xl_index0 hXb.out rfl rfl)⟩) (by assumption) ?_
  try simp only [Act.put, List.setIfInBounds_toArray, List.set_cons_zero, List.set_cons_succ]
  refine wpAnyH_take (i := 15) (v := ?_) (by simp only [List.getElem?_toArray, List.getElem?_cons_zero, List.getElem?_cons_succ]; rfl) (by kernel_rfl) (by kernel_rfl) (by kernel_rfl) (by exact fun _ _ _ h => h) (Or.inl ⟨by rfl, ?_⟩) (by assumption) ?_
  rotate_left
  · (intro w hSw; (try dsimp only at hSw); go_simp; (try with_reducible rfl))
  try simp only [Act.put, List.setIfInBounds_toArray, List.set_cons_zero, List.set_cons_succ]
  refine wpAnyH_take (i := 16) (v := .int .u8 (C.k : Int)) (by simp only [List.getElem?_toArray, List.getElem?_cons_zero, List.getElem?_cons_succ]; rfl) (by kernel_rfl) (by kernel_rfl) (by kernel_rfl) (by exact fun _ _ _ h => h) (Or.inl ⟨by rfl, fun w hSw => xl_cell 5 hSw.1 rfl rfl Tryd.underlying5 rfl (cmV_0 C)⟩) (by assumption) ?_
  try simp only [Act.put, List.setIfInBounds_toArray, List.set_cons_zero, List.set_cons_succ]
  refine wpAnyH_take (i := 17) (v := ?_) (by simp only [List.getElem?_toArray, List.getElem?_cons_zero, List.getElem?_cons_succ]; rfl) (by kernel_rfl) (by kernel_rfl) (by kernel_rfl) (by exact fun _ _ _ h => h) (Or.inl ⟨by rfl, ?_⟩) (by assumption) ?_
  rotate_left
  · (intro w hSw; (try dsimp only at hSw); go_simp; (try with_reducible rfl))
  try simp only [Act.put, List.setIfInBounds_toArray, List.set_cons_zero, List.set_cons_succ]
  refine wpAnyH_take (i := 18) (v := ?_) (by simp only [List.getElem?_toArray, List.getElem?_cons_zero, List.getElem?_cons_succ]; rfl) (by kernel_rfl) (by kernel_rfl) (by kernel_rfl) (by exact fun _ _ _ h => h) (Or.inl ⟨by rfl, ?_⟩) (by assumption) ?_
  rotate_left
  · (intro w hSw; (try dsimp only at hSw); go_simp; (try with_reducible rfl))
  try simp only [Act.put, List.setIfInBounds_toArray, List.set_cons_zero, List.set_cons_succ]
  refine wpAnyH_done (by kernel_rfl) ?_ _
  go_upto_region 11 with fail
  clear X8 V8 hHeld
  have a5 := p11 w9
  go_wp2_with (first
    | (with_reducible refine at_list ?_; refine wl_loadf 37 Y8 rfl rfl rfl Tryd.underlying37 rfl size37 (by omega : 0 + 10 ≤ 10) (rpV_all r) ?_; (try simp only [Act.put, List.setIfInBounds_toArray, List.set_cons_zero, List.set_cons_succ]))
    | (go_at_call 11; (with_reducible refine a5.mono ?_); rintro e wb ⟨rfl, Ub⟩; have Yb := Y8.below Ub; have Sb := ups S8 Ub S8.size; have a6 := p21 wb)
    | (go_at_call 21; (with_reducible refine a6.mono ?_); rintro e wc ⟨rfl, Uc⟩; have Yc := Yb.below Uc; have Sc := ups Sb Uc Sb.size)
    | (with_reducible refine at_list ?_; with_reducible refine wl_alloc 37 rfl rfl zero37 ?_; intro wd Vd Ud; (try simp only [Act.put, List.setIfInBounds_toArray, List.set_cons_zero, List.set_cons_succ]); have Yd := Yc.below Ud; have Sd := ups Sc Ud Sc.size)
    | (with_reducible refine at_list ?_; refine wl_storef 37 Vd rfl rfl rfl rfl size37 rfl (by omega : 0 + 10 ≤ 10) (rpV_one _) (spl10 _ _) ?_; intro we Ve Ke; (try simp only [Act.put, List.setIfInBounds_toArray, List.set_cons_zero, List.set_cons_succ]); have Ye := Ke.box Yd (Nat.ne_of_lt Yc.lt); have Se := Ke.up Sd Sc.size)
    | (with_reducible refine at_list ?_; refine wl_run (xl_loadf 37 Ve rfl rfl Tryd.underlying37 rfl size37 (by omega : 0 + 10 ≤ 10) (rpV_all _)) (wanted_f rfl rfl rfl rfl) ?_; (try simp only [Act.put, List.setIfInBounds_toArray, List.set_cons_zero, List.set_cons_succ]))
    | (with_reducible refine at_list ?_; refine wl_run (xl_loadf 37 Ye rfl rfl Tryd.underlying37 rfl size37 (by omega : 0 + 10 ≤ 10) (rpV_all _)) (wanted_f rfl rfl rfl rfl) ?_; (try simp only [Act.put, List.setIfInBounds_toArray, List.set_cons_zero, List.set_cons_succ]))
    | (with_reducible refine at_list ?_; refine wl_run (xl_eqf37 (decide_eq_true rfl) rfl rfl rfl) (wanted_f rfl rfl rfl rfl) ?_; (try simp only [Act.put, List.setIfInBounds_toArray, List.set_cons_zero, List.set_cons_succ])))
  go_ret
  exact ⟨by simp, Se⟩
theorem CommandBack_walk (C : Cm) (r : Rp) (w : World) (hN : Names w) (ho : C.ok) (hr : r.ok) : Calls Tryd.prog 5 #[.agg (cmV C), .agg (rpV r)] w fun e w' => e = .returned (.bool true) ∧ Below w.heap.size w w' := by
  by_cases hk : 1 ≤ C.k ∧ C.k ≤ 7
  · by_cases hown : ownC C = C
    · exact back_yes C r w hN ho hr hk hown
    · exact back_other C r w hN ho hr hk hown
  · by_cases h0 : C.k = 0
    · exact back_low C r w hN ho hr h0
    · exact back_high C r w hN ho hr (by omega)
end Go.Proofs.YtamjnekdfhocdaaDoor
