/- What a command's kind has, and the command that has just that. No condition. -/
import Derived.Test.YtamjnekdfhocdaaDoorCmTa
import Derived.BigRegion
import Derived.Deep.CutRange
import Derived.Deep.DeepCutAuto
namespace Go.Proofs.YtamjnekdfhocdaaDoor
open Go.ChangeShapes Go.WideShapes Go.Deep Go.RowKit
set_option linter.unusedVariables false
set_option linter.unusedSimpArgs false
attribute [local go_sem] ta105_yes ta105_no ta105_nil ta106_yes ta106_no ta106_nil ta107_yes ta107_no ta107_nil ta98_yes ta98_no ta98_nil ta108_yes ta108_no ta108_nil ta96_yes ta96_no ta96_nil ta116_yes ta116_no ta116_nil ta80_yes ta80_no ta80_nil ta117_yes ta117_no ta117_nil ta100_yes ta100_no ta100_nil ta101_yes ta101_no ta101_nil
def hadV (B k : Nat) : Value := if k = 1 then .iface 105 (ptrAt B 1) else if k = 2 then .iface 106 (ptrAt B 4) else if k = 3 then .iface 107 (ptrAt B 4) else if k = 4 then .iface 98 (ptrAt B 18) else if k = 5 then .iface 108 (ptrAt B 19)
  else if k = 6 then .iface 96 (ptrAt B 23) else if k = 7 then .iface 98 (ptrAt B 18) else .nilIface
theorem ck_cell {w : World} {B : Nat} {C : Cm} (h : Box w B (cmV C) 32) : w.cell? ⟨B, 0, none⟩ = some (.int .u8 (C.k : Int)) := (h.cell 0).trans (cmV_0 C)
set_option maxHeartbeats 16000000 in
set_option maxRecDepth 100000 in
theorem had_any {w : World} {B : Nat} {C : Cm} (h : Box w B (cmV C) 32) : Calls Tryd.prog 26 #[ptr B] w fun e w' => e = .returned (hadV B C.k) ∧ w = w' := by
  have hc := ck_cell h
  clear h
  obtain ⟨k, hk⟩ : ∃ k, C.k = k := ⟨_, rfl⟩
  rw [hk] at hc ⊢
  clear hk
  by_cases h1 : k = 1
  · subst h1; go_enter Tryd.func26, Tryd.ntmps26; go_wp2; go_ret; exact ⟨rfl, rfl⟩
  by_cases h2 : k = 2
  · subst h2; go_enter Tryd.func26, Tryd.ntmps26; go_wp2; go_ret; exact ⟨rfl, rfl⟩
  by_cases h3 : k = 3
  · subst h3; go_enter Tryd.func26, Tryd.ntmps26; go_wp2; go_ret; exact ⟨rfl, rfl⟩
  by_cases h4 : k = 4
  · subst h4; go_enter Tryd.func26, Tryd.ntmps26; go_wp2; go_ret; exact ⟨rfl, rfl⟩
  by_cases h5 : k = 5
  · subst h5; go_enter Tryd.func26, Tryd.ntmps26; go_wp2; go_ret; exact ⟨rfl, rfl⟩
  by_cases h6 : k = 6
  · subst h6; go_enter Tryd.func26, Tryd.ntmps26; go_wp2; go_ret; exact ⟨rfl, rfl⟩
  by_cases h7 : k = 7
  · subst h7; go_enter Tryd.func26, Tryd.ntmps26; go_wp2; go_ret; exact ⟨rfl, rfl⟩
  have j1 : ((k : Int) == 1) = false := beq_eq_false_iff_ne.2 (by omega)
  have j2 : ((k : Int) == 2) = false := beq_eq_false_iff_ne.2 (by omega)
  have j3 : ((k : Int) == 3) = false := beq_eq_false_iff_ne.2 (by omega)
  have j4 : ((k : Int) == 4) = false := beq_eq_false_iff_ne.2 (by omega)
  have j5 : ((k : Int) == 5) = false := beq_eq_false_iff_ne.2 (by omega)
  have j6 : ((k : Int) == 6) = false := beq_eq_false_iff_ne.2 (by omega)
  have j7 : ((k : Int) == 7) = false := beq_eq_false_iff_ne.2 (by omega)
  have hv : hadV B k = .nilIface := by unfold hadV; rw [if_neg h1, if_neg h2, if_neg h3, if_neg h4, if_neg h5, if_neg h6, if_neg h7]
  rw [hv]
  clear h1 h2 h3 h4 h5 h6 h7 hv
  go_enter Tryd.func26, Tryd.ntmps26
  go_wp2
  go_ret
  exact ⟨rfl, rfl⟩
theorem name_w {F : Act → World → Prop} {a : Act} {W : World} {P : World → Prop} (h : P W) (k : ∀ W', P W' → F a W') : F a W := k W h
def wiC (p q : Cm) : Cm := { p with r0 := q.r0, r1 := q.r1, r2 := q.r2, s0 := q.s0, s1 := q.s1, s2 := q.s2, u0 := q.u0, u1 := q.u1, u2 := q.u2 }
theorem spl14 (c d : Cm) : spl (sdV c) 0 (sdV d).toList = sdV d := by kernel_rfl
theorem spl24 (c d : Cm) : spl (cmV c) 0 (cmV d).toList = cmV d := by kernel_rfl
theorem zer28 : (Tryd.prog.info? 28).map (fun i => i.zero) = some (some (.agg (sdV (Cm.zero 0)))) := by kernel_rfl
set_option maxHeartbeats 16000000 in
set_option maxRecDepth 100000 in
theorem With_any (p q : Cm) (w : World) : Calls Tryd.prog 51 #[.agg (sdV p), .agg (sdV q)] w fun e w' => e = .returned (.agg (sdV (wiC p q))) ∧ Below w.heap.size w w' := by
  go_enter Tryd.func51, Tryd.ntmps51
  go_upto_region 0 with (fail)
  refine wp_region_lit ?_
  refine wl_box 28 rfl rfl rfl ?_
  intro w1 X1 T1
  refine wl_box 28 rfl rfl rfl ?_
  intro w2 X2 T2
  refine wl_alloc 28 rfl rfl zer28 ?_
  intro W3 X3 T3
  simp only [Act.put, List.setIfInBounds_toArray, List.set_cons_zero, List.set_cons_succ]
  have T := ups (ups T1 T2 T1.size) T3 (Nat.le_trans T1.size T2.size)
  have BP := (X1.below T2).below T3
  have BQ := X2.below T3
  have hn : w.heap.size < w1.heap.size := X1.lt
  have hm : w1.heap.size < w2.heap.size := X2.lt
  have BZ := X3
  have n1 : w1.heap.size ≠ w.heap.size := by omega
  have n2 : w.heap.size ≠ w1.heap.size := by omega
  have hz : w2.heap.size ≠ w.heap.size := by omega
  have he : (((((((((sdV p).setIfInBounds 3 (.int .u64 (q.r0 : Int))).setIfInBounds 4 (.int .u64 (q.r1 : Int))).setIfInBounds 5 (.int .u64 (q.r2 : Int))).setIfInBounds 6 (.int .u64 (q.s0 : Int))).setIfInBounds 7 (.int .u64 (q.s1 : Int))).setIfInBounds 8 (.int .u64 (q.s2 : Int))).setIfInBounds 9 (.int .u64 (q.u0 : Int))).setIfInBounds 10 (.int .u64 (q.u1 : Int))).setIfInBounds 11 (.int .u64 (q.u2 : Int)) = sdV (wiC p q) := by kernel_rfl
  have c3 := (BQ.cell 3).trans (sdV_3 _)
  have c4 := (BQ.cell 4).trans (sdV_4 _)
  have c5 := (BQ.cell 5).trans (sdV_5 _)
  have c6 := (BQ.cell 6).trans (sdV_6 _)
  have c7 := (BQ.cell 7).trans (sdV_7 _)
  have c8 := (BQ.cell 8).trans (sdV_8 _)
  have c9 := (BQ.cell 9).trans (sdV_9 _)
  have c10 := (BQ.cell 10).trans (sdV_10 _)
  have c11 := (BQ.cell 11).trans (sdV_11 _)
  have d3 := (BP.cell 3).trans (sdV_3 _)
  have d4 := (BP.cell 4).trans (sdV_4 _)
  have d5 := (BP.cell 5).trans (sdV_5 _)
  have d6 := (BP.cell 6).trans (sdV_6 _)
  have d7 := (BP.cell 7).trans (sdV_7 _)
  have d8 := (BP.cell 8).trans (sdV_8 _)
  have d9 := (BP.cell 9).trans (sdV_9 _)
  have d10 := (BP.cell 10).trans (sdV_10 _)
  have d11 := (BP.cell 11).trans (sdV_11 _)
  have f3 := BP.thaw 3
  have f4 := BP.thaw 4
  have f5 := BP.thaw 5
  have f6 := BP.thaw 6
  have f7 := BP.thaw 7
  have f8 := BP.thaw 8
  have f9 := BP.thaw 9
  have f10 := BP.thaw 10
  have f11 := BP.thaw 11
  go_upto_region 1 with (fail)
  go_cut [] (fun wx => Box wx w.heap.size (sdV (wiC p q)) 28 ∧ Box wx w2.heap.size (sdV (Cm.zero 0)) 28 ∧ Below w.heap.size w wx)
  case first =>
    go_region
    all_goals (go_wp2_with fail)
    all_goals go_meet
    all_goals exact ⟨by rw [← he]; exact (((((((((BP.set 3 (.int .u64 (q.r0 : Int))).set 4 (.int .u64 (q.r1 : Int))).set 5 (.int .u64 (q.r2 : Int))).set 6 (.int .u64 (q.s0 : Int))).set 7 (.int .u64 (q.s1 : Int))).set 8 (.int .u64 (q.s2 : Int))).set 9 (.int .u64 (q.u0 : Int))).set 10 (.int .u64 (q.u1 : Int))).set 11 (.int .u64 (q.u2 : Int))).drew, (((((((((BZ.setNe hz (.int .u64 (q.r0 : Int))).setNe hz (.int .u64 (q.r1 : Int))).setNe hz (.int .u64 (q.r2 : Int))).setNe hz (.int .u64 (q.s0 : Int))).setNe hz (.int .u64 (q.s1 : Int))).setNe hz (.int .u64 (q.s2 : Int))).setNe hz (.int .u64 (q.u0 : Int))).setNe hz (.int .u64 (q.u1 : Int))).setNe hz (.int .u64 (q.u2 : Int))).drew, (((((((((T.setCell (Nat.le_refl _) (.int .u64 (q.r0 : Int))).setCell (Nat.le_refl _) (.int .u64 (q.r1 : Int))).setCell (Nat.le_refl _) (.int .u64 (q.r2 : Int))).setCell (Nat.le_refl _) (.int .u64 (q.s0 : Int))).setCell (Nat.le_refl _) (.int .u64 (q.s1 : Int))).setCell (Nat.le_refl _) (.int .u64 (q.s2 : Int))).setCell (Nat.le_refl _) (.int .u64 (q.u0 : Int))).setCell (Nat.le_refl _) (.int .u64 (q.u1 : Int))).setCell (Nat.le_refl _) (.int .u64 (q.u2 : Int))).drew⟩
  case rest =>
    rename World => W4
    obtain ⟨B4, Z4, T4⟩ := hcut
    clear c3 c4 c5 c6 c7 c8 c9 c10 c11 d3 d4 d5 d6 d7 d8 d9 d10 d11 f3 f4 f5 f6 f7 f8 f9 f10 f11 he
    go_upto_region 2 with (fail)
    refine wp_region_lit ?_
    refine wl_load 28 B4 rfl rfl rfl Tryd.underlying28 rfl size28 (by omega : 0 + 14 ≤ 14) (sdV_all _) ?_
    refine wl_store 28 Z4 rfl rfl rfl rfl size28 rfl (by omega : 0 + 14 ≤ 14) (sdV_one _) (spl14 _ _) ?_
    intro w5 Z5 K5
    go_wp2
    refine bodyPost_ret (v := .agg (sdV (wiC p q))) ?_ rfl ⟨rfl, K5.up T4 (by omega)⟩
    exact results_cell_row rfl _ _ _ _ _ _ _ rfl Z5 Tryd.underlying28 rfl size28
set_option maxHeartbeats 16000000 in
set_option maxRecDepth 100000 in
theorem keep_1 {w : World} {B : Nat} {C : Cm} (hk : C.k = 1) (h : Box w B (cmV (Cm.zero C.k)) 32) : Calls Tryd.prog 33 #[.iface 105 (ptrAt B 1), .agg (cmV C)] w fun e w' => e = .returned unitV ∧ Box w' B (cmV (ownC C)) 32 ∧ But B w w' := by
  have hown : spl (cmV (Cm.zero C.k)) 1 (cfV C).toList = cmV (ownC C) := by obtain ⟨a0, a1, a2, a3, a4, a5, a6, a7, a8, a9, a10, a11, a12, a13, a14, a15, a16, a17, a18, a19, a20, a21, a22, a23⟩ := C; simp only at hk; subst hk; kernel_rfl
  have hone : (cfV C).all (·.oneCell') = true := by kernel_rfl
  clear hk
  go_enter Tryd.func33, Tryd.ntmps33
  go_wp2_with (first
    | (refine wl_box 32 rfl rfl rfl ?_; intro w1 X1 T1; have Y1 := h.below T1)
    | (refine wl_load 24 X1 rfl rfl rfl Tryd.underlying24 rfl size24 (by omega : 1 + 3 ≤ 24) (cmV_cf C) ?_)
    | (refine wl_store 24 Y1 rfl rfl rfl rfl size24 rfl (by omega : 1 + 3 ≤ 24) hone hown ?_; intro w2 Y2 K2))
  exact ⟨rfl, .tuple #[], by simp [results, Tryd.results33, go_sem], rfl, Y2, (But.of T1).trans K2⟩
set_option maxHeartbeats 16000000 in
set_option maxRecDepth 100000 in
theorem keep_2 {w : World} {B : Nat} {C : Cm} (hk : C.k = 2) (h : Box w B (cmV (Cm.zero C.k)) 32) : Calls Tryd.prog 33 #[.iface 106 (ptrAt B 4), .agg (cmV C)] w fun e w' => e = .returned unitV ∧ Box w' B (cmV (ownC C)) 32 ∧ But B w w' := by
  have hown : spl (cmV (Cm.zero C.k)) 4 (sdV C).toList = cmV (ownC C) := by obtain ⟨a0, a1, a2, a3, a4, a5, a6, a7, a8, a9, a10, a11, a12, a13, a14, a15, a16, a17, a18, a19, a20, a21, a22, a23⟩ := C; simp only at hk; subst hk; kernel_rfl
  have hone : (sdV C).all (·.oneCell') = true := by kernel_rfl
  clear hk
  go_enter Tryd.func33, Tryd.ntmps33
  go_wp2_with (first
    | (refine wl_box 32 rfl rfl rfl ?_; intro w1 X1 T1; have Y1 := h.below T1)
    | (refine wl_load 28 X1 rfl rfl rfl Tryd.underlying28 rfl size28 (by omega : 4 + 14 ≤ 24) (cmV_sd C) ?_)
    | (refine wl_store 28 Y1 rfl rfl rfl rfl size28 rfl (by omega : 4 + 14 ≤ 24) hone hown ?_; intro w2 Y2 K2))
  exact ⟨rfl, .tuple #[], by simp [results, Tryd.results33, go_sem], rfl, Y2, (But.of T1).trans K2⟩
set_option maxHeartbeats 16000000 in
set_option maxRecDepth 100000 in
theorem keep_5 {w : World} {B : Nat} {C : Cm} (hk : C.k = 5) (h : Box w B (cmV (Cm.zero C.k)) 32) : Calls Tryd.prog 33 #[.iface 108 (ptrAt B 19), .agg (cmV C)] w fun e w' => e = .returned unitV ∧ Box w' B (cmV (ownC C)) 32 ∧ But B w w' := by
  have hown : spl (cmV (Cm.zero C.k)) 19 (paV C).toList = cmV (ownC C) := by obtain ⟨a0, a1, a2, a3, a4, a5, a6, a7, a8, a9, a10, a11, a12, a13, a14, a15, a16, a17, a18, a19, a20, a21, a22, a23⟩ := C; simp only at hk; subst hk; kernel_rfl
  have hone : (paV C).all (·.oneCell') = true := by kernel_rfl
  clear hk
  go_enter Tryd.func33, Tryd.ntmps33
  go_wp2_with (first
    | (refine wl_box 32 rfl rfl rfl ?_; intro w1 X1 T1; have Y1 := h.below T1)
    | (refine wl_load 30 X1 rfl rfl rfl Tryd.underlying30 rfl size30 (by omega : 19 + 4 ≤ 24) (cmV_pa C) ?_)
    | (refine wl_store 30 Y1 rfl rfl rfl rfl size30 rfl (by omega : 19 + 4 ≤ 24) hone hown ?_; intro w2 Y2 K2))
  exact ⟨rfl, .tuple #[], by simp [results, Tryd.results33, go_sem], rfl, Y2, (But.of T1).trans K2⟩
set_option maxHeartbeats 16000000 in
set_option maxRecDepth 100000 in
theorem keep_4 {w : World} {B : Nat} {C : Cm} (hk : C.k = 4) (h : Box w B (cmV (Cm.zero C.k)) 32) : Calls Tryd.prog 33 #[.iface 98 (ptrAt B 18), .agg (cmV C)] w fun e w' => e = .returned unitV ∧ Box w' B (cmV (ownC C)) 32 ∧ But B w w' := by
  have hown : (cmV (Cm.zero C.k)).setIfInBounds 18 (.int .i64 C.id) = cmV (ownC C) := by obtain ⟨a0, a1, a2, a3, a4, a5, a6, a7, a8, a9, a10, a11, a12, a13, a14, a15, a16, a17, a18, a19, a20, a21, a22, a23⟩ := C; simp only at hk; subst hk; kernel_rfl
  clear hk
  have hc0 := (h.cell 18).trans (cmV_18 _)
  have hf0 := h.thaw 18
  go_enter Tryd.func33, Tryd.ntmps33
  go_wp2_with (first
    | (refine wl_box 32 rfl rfl rfl ?_; intro w1 X1 T1; have Y1 := h.below T1; have hc1 := (X1.cell 18).trans (cmV_18 C); have hd1 := (Y1.cell 18).trans (cmV_18 _); have hf1 := Y1.thaw 18))
  refine ⟨rfl, .tuple #[], by simp [results, Tryd.results33, go_sem], rfl, ?_, ((But.of T1).set 18 _)⟩
  have := Y1.set 18 (.int .i64 C.id)
  rw [hown] at this
  exact this
set_option maxHeartbeats 16000000 in
set_option maxRecDepth 100000 in
theorem keep_7 {w : World} {B : Nat} {C : Cm} (hk : C.k = 7) (h : Box w B (cmV (Cm.zero C.k)) 32) : Calls Tryd.prog 33 #[.iface 98 (ptrAt B 18), .agg (cmV C)] w fun e w' => e = .returned unitV ∧ Box w' B (cmV (ownC C)) 32 ∧ But B w w' := by
  have hown : (cmV (Cm.zero C.k)).setIfInBounds 18 (.int .i64 C.id) = cmV (ownC C) := by obtain ⟨a0, a1, a2, a3, a4, a5, a6, a7, a8, a9, a10, a11, a12, a13, a14, a15, a16, a17, a18, a19, a20, a21, a22, a23⟩ := C; simp only at hk; subst hk; kernel_rfl
  clear hk
  have hc0 := (h.cell 18).trans (cmV_18 _)
  have hf0 := h.thaw 18
  go_enter Tryd.func33, Tryd.ntmps33
  go_wp2_with (first
    | (refine wl_box 32 rfl rfl rfl ?_; intro w1 X1 T1; have Y1 := h.below T1; have hc1 := (X1.cell 18).trans (cmV_18 C); have hd1 := (Y1.cell 18).trans (cmV_18 _); have hf1 := Y1.thaw 18))
  refine ⟨rfl, .tuple #[], by simp [results, Tryd.results33, go_sem], rfl, ?_, ((But.of T1).set 18 _)⟩
  have := Y1.set 18 (.int .i64 C.id)
  rw [hown] at this
  exact this
set_option maxHeartbeats 16000000 in
set_option maxRecDepth 100000 in
theorem keep_6 {w : World} {B : Nat} {C : Cm} (hk : C.k = 6) (h : Box w B (cmV (Cm.zero C.k)) 32) : Calls Tryd.prog 33 #[.iface 96 (ptrAt B 23), .agg (cmV C)] w fun e w' => e = .returned unitV ∧ Box w' B (cmV (ownC C)) 32 ∧ But B w w' := by
  have hown : (cmV (Cm.zero C.k)).setIfInBounds 23 (.int .u64 (C.to : Int)) = cmV (ownC C) := by obtain ⟨a0, a1, a2, a3, a4, a5, a6, a7, a8, a9, a10, a11, a12, a13, a14, a15, a16, a17, a18, a19, a20, a21, a22, a23⟩ := C; simp only at hk; subst hk; kernel_rfl
  clear hk
  have hc0 := (h.cell 23).trans (cmV_23 _)
  have hf0 := h.thaw 23
  go_enter Tryd.func33, Tryd.ntmps33
  go_wp2_with (first
    | (refine wl_box 32 rfl rfl rfl ?_; intro w1 X1 T1; have Y1 := h.below T1; have hc1 := (X1.cell 23).trans (cmV_23 C); have hd1 := (Y1.cell 23).trans (cmV_23 _); have hf1 := Y1.thaw 23))
  refine ⟨rfl, .tuple #[], by simp [results, Tryd.results33, go_sem], rfl, ?_, ((But.of T1).set 23 _)⟩
  have := Y1.set 23 (.int .u64 (C.to : Int))
  rw [hown] at this
  exact this
end Go.Proofs.YtamjnekdfhocdaaDoor
