/- The command that has just what its kind has. No condition. -/
import Derived.Test.YtamjnekdfhocdaaDoorCmB
namespace Go.Proofs.YtamjnekdfhocdaaDoor
open Go.ChangeShapes Go.WideShapes Go.Deep Go.RowKit
set_option linter.unusedVariables false
set_option linter.unusedSimpArgs false
attribute [local go_sem] ta105_yes ta105_no ta105_nil ta106_yes ta106_no ta106_nil ta107_yes ta107_no ta107_nil ta98_yes ta98_no ta98_nil ta108_yes ta108_no ta108_nil ta96_yes ta96_no ta96_nil ta116_yes ta116_no ta116_nil ta80_yes ta80_no ta80_nil ta117_yes ta117_no ta117_nil ta100_yes ta100_no ta100_nil ta101_yes ta101_no ta101_nil
set_option maxHeartbeats 16000000 in
set_option maxRecDepth 100000 in
theorem keep_3 {w : World} {B : Nat} {C : Cm} (hk : C.k = 3) (h : Box w B (cmV (Cm.zero C.k)) 32) : Calls Tryd.prog 33 #[.iface 107 (ptrAt B 4), .agg (cmV C)] w fun e w' => e = .returned unitV ∧ Box w' B (cmV (ownC C)) 32 ∧ But B w w' := by
  have hown : spl (cmV (Cm.zero C.k)) 4 (sdV (wiC { Cm.zero 0 with si := C.si } C)).toList = cmV (ownC C) := by obtain ⟨a0, a1, a2, a3, a4, a5, a6, a7, a8, a9, a10, a11, a12, a13, a14, a15, a16, a17, a18, a19, a20, a21, a22, a23⟩ := C; simp only at hk; subst hk; kernel_rfl
  have hone : (sdV (wiC { Cm.zero 0 with si := C.si } C)).all (·.oneCell') = true := by kernel_rfl
  clear hk
  go_enter Tryd.func33, Tryd.ntmps33
  go_wp2_with (first
    | (refine wl_box 32 rfl rfl rfl ?_; intro w1 X1 T1; have Y1 := h.below T1; have hc1 := (X1.cell 4).trans (cmV_4 C))
    | (refine wl_load 28 X1 rfl rfl rfl Tryd.underlying28 rfl size28 (by omega : 4 + 14 ≤ 24) (cmV_sd C) ?_)
    | (refine wl_build 28 rfl rfl (built28 C) ?_)
    | (go_at_call 51; (with_reducible refine (With_any { Cm.zero 0 with si := C.si } C _).mono ?_); rintro e w2 ⟨rfl, T2⟩; have Y2 := Y1.below (T2.mono (Nat.le_refl _)))
    | (refine wl_store 110 Y2 rfl rfl rfl rfl size110 rfl (by omega : 4 + 14 ≤ 24) hone hown ?_; intro w3 Y3 K3))
  exact ⟨rfl, .tuple #[], by simp [results, Tryd.results33, go_sem], rfl, Y3, ((But.of T1).trans ((But.of T2))).trans K3⟩
set_option maxHeartbeats 16000000 in
set_option maxRecDepth 100000 in
theorem keep_no {w : World} {B : Nat} {C : Cm} (hk : ownC C = Cm.zero C.k) (h : Box w B (cmV (Cm.zero C.k)) 32) : Calls Tryd.prog 33 #[.nilIface, .agg (cmV C)] w fun e w' => e = .returned unitV ∧ Box w' B (cmV (ownC C)) 32 ∧ But B w w' := by
  rw [hk]
  clear hk
  go_enter Tryd.func33, Tryd.ntmps33
  go_wp2_with (first
    | (refine wl_box 32 rfl rfl rfl ?_; intro w1 X1 T1; have Y1 := h.below T1))
  exact ⟨rfl, .tuple #[], by simp [results, Tryd.results33, go_sem], rfl, Y1, But.of T1⟩
theorem keep_any {w : World} {B : Nat} {C : Cm} (h : Box w B (cmV (Cm.zero C.k)) 32) : Calls Tryd.prog 33 #[hadV B C.k, .agg (cmV C)] w fun e w' => e = .returned unitV ∧ Box w' B (cmV (ownC C)) 32 ∧ But B w w' := by
  by_cases h1 : C.k = 1
  · have e : hadV B C.k = .iface 105 (ptrAt B 1) := by rw [h1]; rfl
    rw [e]; exact keep_1 h1 h
  by_cases h2 : C.k = 2
  · have e : hadV B C.k = .iface 106 (ptrAt B 4) := by rw [h2]; rfl
    rw [e]; exact keep_2 h2 h
  by_cases h3 : C.k = 3
  · have e : hadV B C.k = .iface 107 (ptrAt B 4) := by rw [h3]; rfl
    rw [e]; exact keep_3 h3 h
  by_cases h4 : C.k = 4
  · have e : hadV B C.k = .iface 98 (ptrAt B 18) := by rw [h4]; rfl
    rw [e]; exact keep_4 h4 h
  by_cases h5 : C.k = 5
  · have e : hadV B C.k = .iface 108 (ptrAt B 19) := by rw [h5]; rfl
    rw [e]; exact keep_5 h5 h
  by_cases h6 : C.k = 6
  · have e : hadV B C.k = .iface 96 (ptrAt B 23) := by rw [h6]; rfl
    rw [e]; exact keep_6 h6 h
  by_cases h7 : C.k = 7
  · have e : hadV B C.k = .iface 98 (ptrAt B 18) := by rw [h7]; rfl
    rw [e]; exact keep_7 h7 h
  have e : hadV B C.k = .nilIface := by unfold hadV; rw [if_neg h1, if_neg h2, if_neg h3, if_neg h4, if_neg h5, if_neg h6, if_neg h7]
  rw [e]
  refine keep_no ?_ h
  unfold ownC
  rw [if_neg h1, if_neg h2, if_neg h3, if_neg (fun h => by rcases h with h | h; exact h4 h; exact h7 h), if_neg h5, if_neg h6]
set_option maxHeartbeats 16000000 in
set_option maxRecDepth 100000 in
theorem Own_any (C : Cm) (w : World) : Calls Tryd.prog 17 #[.agg (cmV C)] w fun e w' => e = .returned (.agg (cmV (ownC C))) ∧ Below w.heap.size w w' := by
  go_enter Tryd.func17, Tryd.ntmps17
  go_upto_region 1 with (first
    | (refine wl_box 32 rfl rfl rfl ?_; intro w1 X1 T1)
    | (refine wl_alloc 32 rfl rfl zero32 ?_; intro w2 X2 T2; have Z2 := X1.below T2))
  have hc := (Z2.cell 0).trans (cmV_0 C)
  go_upto_region 2 with (first
    | (refine wl_build 32 rfl rfl (built32 C) ?_)
    | (refine wl_alloc 32 rfl rfl zero32 ?_; intro w3 X3 T3; have Y3 := Z2.below T3)
    | (refine wl_store 32 X3 rfl rfl rfl rfl size32 rfl (by omega : 0 + 24 ≤ 24) (cmV_one _) (spl24 _ _) ?_; intro w4 X4 K4))
  have T4 : Below w.heap.size w w4 := K4.up (ups (ups T1 T2 T1.size) T3 (Nat.le_trans T1.size T2.size)) (Nat.le_trans T1.size T2.size)
  have n1 : w.heap.size ≠ w2.heap.size := Nat.ne_of_lt Z2.lt
  have n2 : w1.heap.size ≠ w2.heap.size := Nat.ne_of_lt X2.lt
  have Y4 := K4.box Y3 n1
  have R4 := K4.box (X2.below T3) n2
  have L1 := T1.size
  have L2 := T2.size
  clear X1 T1 X2 T2 Z2 hc X3 T3 Y3 K4
  simp only [Act.put, List.setIfInBounds_toArray, List.set_cons_zero, List.set_cons_succ]
  refine wp_region_held_drew (S := fun W => Box W w.heap.size (cmV C) 32) (by kernel_rfl) Y4.drew (fun hHeld => ?_)
  have X5 := X4.drew
  have R5 := R4.drew
  have T5 := T4.drew
  clear X4 R4 T4 Y4
  generalize w4.drew = W5 at *
  have hA : Calls Tryd.prog 26 #[ptr w2.heap.size] W5 fun e w' => e = .returned (hadV w2.heap.size C.k) ∧ W5 = w' := had_any (C := Cm.zero C.k) X5
  refine wpAnyH_take (i := 1) (v := .agg (cmV C)) (by simp only [List.getElem?_toArray, List.getElem?_cons_zero, List.getElem?_cons_succ]; rfl) (by kernel_rfl) (by kernel_rfl) (by kernel_rfl) (by exact fun _ _ _ h => h) (Or.inl ⟨by rfl, fun w hSw => xl_load 32 hSw rfl rfl Tryd.underlying32 rfl size32 (by omega : 0 + 24 ≤ 24) (cmV_all C)⟩) (by assumption) ?_
  try simp only [Act.put, List.setIfInBounds_toArray, List.set_cons_zero, List.set_cons_succ]
  refine wpAnyH_ready (rs := [0]) (by kernel_rfl) (by simp) ?_
  refine AllReadyH.cons (by simp only [List.getElem?_toArray, List.getElem?_cons_zero]; rfl) (fun K hK => ?_) AllReadyH.nil
  go_simp
  go_at_call 26
  (with_reducible refine hA.mono ?_)
  rintro e w5 ⟨rfl, rfl⟩
  refine hK.out _ _ hHeld (fun hHeld => ?_)
  clear hK K
  try simp only [Act.put, List.setIfInBounds_toArray, List.set_cons_zero, List.set_cons_succ]
  refine wpAnyH_ready (rs := [2]) (by kernel_rfl) (by simp) ?_
  refine AllReadyH.cons (by simp only [List.getElem?_toArray, List.getElem?_cons_zero, List.getElem?_cons_succ]; rfl) (fun K hK => ?_) AllReadyH.nil
  go_simp
  go_at_call 33
  (with_reducible refine (keep_any X5).mono ?_)
  rintro e w6 ⟨rfl, X6, K6⟩
  have Y6 := K6.box hHeld n1
  have R6 := K6.box R5 n2
  have T6 := K6.up T5 (Nat.le_trans L1 L2)
  clear K6 X5 R5 T5
  refine hK.out _ _ Y6 (fun hHeld => ?_)
  clear hK K
  try simp only [Act.put, List.setIfInBounds_toArray, List.set_cons_zero, List.set_cons_succ]
  refine wpAnyH_done (by kernel_rfl) ?_ _
  go_upto_region 3 with (fail)
  refine wp_region_lit ?_
  refine wl_load 32 X6 rfl rfl rfl Tryd.underlying32 rfl size32 (by omega : 0 + 24 ≤ 24) (cmV_all _) ?_
  refine wl_store 32 R6 rfl rfl rfl rfl size32 rfl (by omega : 0 + 24 ≤ 24) (cmV_one _) (spl24 _ _) ?_
  intro w7 R7 K7
  go_wp2
  refine bodyPost_ret (v := .agg (cmV (ownC C))) ?_ rfl ⟨rfl, K7.up T6 L1⟩
  exact results_cell_row rfl _ _ _ _ _ _ _ rfl R7 Tryd.underlying32 rfl size32
end Go.Proofs.YtamjnekdfhocdaaDoor
