/- What is refused changes nothing; what came can go; what is changed can be changed back: at every row of acts and spec. Condition: numbers are what the fields can hold. -/
import Derived.Test.YtpopcnebndgblaaGreatHlE
namespace Go.Proofs.YtpopcnebndgblaaGreat.H
open Go.ChangeShapes Go.WideShapes Go.Deep Go.RowKit
set_option linter.unusedVariables false
set_option linter.unusedSimpArgs false
theorem Hx.put2 {w0 w w' w2 : World} {t b : Nat} {L L2 : List Sp} {bs : List (Nat × Sp)} {rs : List (Value × List Int)} {p q : Sp} (h0 : Hx w0 w2 t L2 bs rs) (hb2 : w2.heap.size ≤ b) (h : Hx w0 w t L ((b, p) :: bs) rs) (hK : But b w w') (hB : Box w' b (sV q) 34) : Hx w0 w' t L ((b, q) :: bs) rs :=
  h.put hK hB (fun x hx e => by obtain ⟨χ, _, _, h2, _⟩ := h0; have := (h2 x hx).1.lt; omega) (fun x hx e => by obtain ⟨χ, _, _, _, h3⟩ := h0; have := ((h3 x hx).1.lt _ e).2; omega)
theorem ids_len (L : List Sp) : (idsL L).length = L.length := List.length_map _
set_option maxHeartbeats 40000000 in
set_option maxRecDepth 100000 in
theorem HierRefused_walk (a : Option Addr) (n c : Nat) (xs : Nat → Ac) (s : Sp) (w0 : World) (hI : IsRow aV 15 w0 a n c xs) (hok : ∀ i, (xs i).ok) (hcm : c ≤ maxLen) (hs : s.ok) :
    Calls Tryz.prog 8 #[.slice a n c, .agg (sV s)] w0 fun e w' => e = .returned (.bool true) ∧ Below w0.heap.size w0 w' := by
  have hLg := fun W => long_any (a := a) hI.1 W
  by_cases hn : 150 < n
  · rw [decide_eq_true hn] at hLg
    go_enter Tryz.func8, Tryz.ntmps8
    go_wp2_with (first
      | (refine wl_box 34 rfl rfl rfl ?_; intro w1 X1 T1; have hA := awake_any w1)
      | (go_at_call 26; (with_reducible refine hA.mono ?_); rintro e w2 ⟨rfl, T2⟩)
      | (go_at_call 9; (with_reducible refine (hLg _).mono ?_); rintro e w3 ⟨rfl, rfl⟩))
    go_ret
    exact ⟨rfl, ups T1 T2 T1.size⟩
  rw [decide_eq_false hn] at hLg
  go_enter Tryz.func8, Tryz.ntmps8
  go_upto_region 8 with (first
    | (refine wl_box 34 rfl rfl rfl ?_; intro w1 X1 T1; have hA := awake_any w1)
    | (go_at_call 26; (with_reducible refine hA.mono ?_); rintro e w2 ⟨rfl, T2⟩; have hPl := played_any a n c xs w1 w2 T2 (hI.below T1) hok hcm)
    | (go_at_call 9; (with_reducible refine (hLg _).mono ?_); rintro e w3 ⟨rfl, rfl⟩)
    | (go_at_call 27; (with_reducible refine hPl.mono ?_); rintro e w4 ⟨C, L, rfl, H4⟩; have hp := ptr_eq C))
  have hF := H4.fit
  have hfew := hF.few
  have hQi := tn_ids H4.drew
  refine wp_region_held_drew (S := fun W => Box W w0.heap.size (sV s) 34) (by kernel_rfl) (X1.below H4.world).drew (fun hHeld => ?_)
  refine wpAnyH_take (i := 0) (v := ?_) (by simp only [List.getElem?_toArray, List.getElem?_cons_zero]; rfl) (by kernel_rfl) (by kernel_rfl) (by kernel_rfl) (by exact fun _ _ _ h => h) (Or.inl ⟨by rfl, ?_⟩) (by assumption) ?_
  rotate_left
  · (intro w hSw; (try dsimp only at hSw); go_simp; (try with_reducible rfl))
  try simp only [Act.put, List.setIfInBounds_toArray, List.set_cons_zero, List.set_cons_succ]
  refine wpAnyH_take (i := 2) (v := ?_) (by simp only [List.getElem?_toArray, List.getElem?_cons_zero, List.getElem?_cons_succ]; rfl) (by kernel_rfl) (by kernel_rfl) (by kernel_rfl) (by exact fun _ _ _ h => h) (Or.inl ⟨by rfl, ?_⟩) (by assumption) ?_
  rotate_left
  · (intro w hSw; (try dsimp only at hSw); go_simp; (try with_reducible rfl))
  try simp only [Act.put, List.setIfInBounds_toArray, List.set_cons_zero, List.set_cons_succ]
  refine wpAnyH_take (i := 3) (v := ?_) (by simp only [List.getElem?_toArray, List.getElem?_cons_zero, List.getElem?_cons_succ]; rfl) (by kernel_rfl) (by kernel_rfl) (by kernel_rfl) (by exact fun _ _ _ h => h) (Or.inl ⟨by rfl, ?_⟩) (by assumption) ?_
  rotate_left
  · (intro w hSw; (try dsimp only at hSw); go_simp; (try with_reducible rfl))
  try simp only [Act.put, List.setIfInBounds_toArray, List.set_cons_zero, List.set_cons_succ]
  refine wpAnyH_take (i := 4) (v := .int .i64 s.par) (by simp only [List.getElem?_toArray, List.getElem?_cons_zero, List.getElem?_cons_succ]; rfl) (by kernel_rfl) (by kernel_rfl) (by kernel_rfl) (by exact fun _ _ _ h => h) (Or.inl ⟨by rfl, fun w hSw => xl_cell 3 hSw rfl rfl Tryz.underlying3 rfl (sV_1 _)⟩) (by assumption) ?_
  try simp only [Act.put, List.setIfInBounds_toArray, List.set_cons_zero, List.set_cons_succ]
  refine wpAnyH_ready (rs := [1]) (by kernel_rfl) (by simp) ?_
  refine AllReadyH.cons (by simp only [List.getElem?_toArray, List.getElem?_cons_zero, List.getElem?_cons_succ]; rfl) (fun K hK => ?_) AllReadyH.nil
  go_simp
  go_at_call 22
  (with_reducible refine hQi.mono ?_)
  rintro e w5 ⟨v6, rfl, O6, T5⟩
  have H5 := H4.drew.hx.newRow T5 O6
  have hQu := tn_under H5.tn hs.2.1
  refine hK.out _ _ (X1.below H5.world) (fun hHeld => ?_)
  clear hK K
  try simp only [Act.put, List.setIfInBounds_toArray, List.set_cons_zero, List.set_cons_succ]
  refine wpAnyH_ready (rs := [5]) (by kernel_rfl) (by simp) ?_
  refine AllReadyH.cons (by simp only [List.getElem?_toArray, List.getElem?_cons_zero, List.getElem?_cons_succ]; rfl) (fun K hK => ?_) AllReadyH.nil
  go_simp
  go_at_call 23
  (with_reducible refine hQu.mono ?_)
  rintro e w6 ⟨v7, rfl, O7, T6⟩
  have H6 := H5.newRow T6 O7
  refine hK.out _ _ (X1.below H6.world) (fun hHeld => ?_)
  clear hK K
  try simp only [Act.put, List.setIfInBounds_toArray, List.set_cons_zero, List.set_cons_succ]
  refine wpAnyH_take (i := 6) (v := ?_) (by simp only [List.getElem?_toArray, List.getElem?_cons_zero, List.getElem?_cons_succ]; rfl) (by kernel_rfl) (by kernel_rfl) (by kernel_rfl) (by exact fun _ _ _ h => h) (Or.inl ⟨by rfl, ?_⟩) (by assumption) ?_
  rotate_left
  · (intro w hSw; (try dsimp only at hSw); go_simp; (try with_reducible rfl))
  try simp only [Act.put, List.setIfInBounds_toArray, List.set_cons_zero, List.set_cons_succ]
  refine wpAnyH_take (i := 7) (v := ?_) (by simp only [List.getElem?_toArray, List.getElem?_cons_zero, List.getElem?_cons_succ]; rfl) (by kernel_rfl) (by kernel_rfl) (by kernel_rfl) (by exact fun _ _ _ h => h) (Or.inl ⟨by rfl, ?_⟩) (by assumption) ?_
  rotate_left
  · (intro w hSw; (try dsimp only at hSw); go_simp; (try with_reducible rfl))
  try simp only [Act.put, List.setIfInBounds_toArray, List.set_cons_zero, List.set_cons_succ]
  refine wpAnyH_done (by kernel_rfl) ?_ _
  clear hHeld
  have x0 := ((X1.below H6.world).cell 0).trans (sV_0 _)
  have hG := tn_get H6.tn hs.1
  clear hPl hQi hQu hA hLg T2 H4 O6 T5 H5 O7 T6 hI hok
  go_upto_region 10 with (first
    | (go_at_call 20; (with_reducible refine hG.mono ?_); rintro e w7 ⟨rfl, T7⟩; have H7 := H6.below T7)
    | (refine wl_alloc 34 rfl rfl zero34 ?_; intro w8 X8 T8)
    | (refine wl_store 34 X8 rfl rfl rfl rfl size34 rfl (by omega : 0 + 14 ≤ 14) (sV_one _) (spl_ss _ _) ?_; intro w9 X9 K9; have H9 := H7.newBox (K9.up T8 (Nat.le_refl _)) X9 (Nat.le_refl _)))
  have hle7 : w6.heap.size ≤ w7.heap.size := T7.size
  clear hG X8 T8 X9 K9 x0 H6 T7
  obtain ⟨a6, c6, rfl, hc6, _⟩ := own_len (H9.row (v := v6) (zs := idsL L) (by simp))
  have j6 : ((idsL L).length : Int) ≤ (c6 : Int) := by omega
  have S9 := X1.below H9.world
  have hQ10 := hx_add H9 hs
  have hwi : IntKind.i64.wrap (((idsL L).length : Int) + 1) = (L.length : Int) + 1 := by rw [ids_len]; exact i64_id (by omega)
  by_cases hE : addE L s = 0
  · -- it comes, and goes
    obtain ⟨f1, f2, f3, f4, f5, f6, f7⟩ := ref_add hF hE
    go_upto_region 15 with (first
      | (refine wl_run (xl_load 34 S9 rfl rfl Tryz.underlying34 rfl size34 (by omega : 0 + 14 ≤ 14) (sV_all _)) rfl ?_)
      | (go_at_call 11; (with_reducible refine hQ10.mono ?_); rintro e wa ⟨rfl, Ha⟩; rw [hE]; rw [f2] at Ha; have Sa := X1.below Ha.world; have a0 := (Sa.cell 0).trans (sV_0 _); have hG := tn_get Ha.tn hs.1; rw [f3, f4] at hG)
      | (go_at_call 20; (with_reducible refine hG.mono ?_); rintro e wb ⟨rfl, Tb⟩; have Hb := Ha.below Tb)
      | (refine wl_alloc 34 rfl rfl zero34 ?_; intro wc Xc Tc)
      | (refine wl_store 34 Xc rfl rfl rfl rfl size34 rfl (by omega : 0 + 14 ≤ 14) (sV_one _) (spl_ss _ _) ?_; intro wd Xd Kd; have Hd := Hb.newBox (Kd.up Tc (Nat.le_refl _)) Xd (Nat.le_refl _); have Sd := X1.below Hd.world; have d0 := (Sd.cell 0).trans (sV_0 _); have hLn := tn_len Hd.tn; rw [ins_len] at hLn; rw [show ((L.length + 1 : Nat) : Int) = (L.length : Int) + 1 from rfl] at hLn; have hQ15 := hx_drop Hd hs.1)
      | (refine wl_run (xl_load 34 Xd rfl rfl Tryz.underlying34 rfl size34 (by omega : 0 + 14 ≤ 14) (sV_all _)) rfl ?_)
      | (refine wl_run (xl_load 34 Sd rfl rfl Tryz.underlying34 rfl size34 (by omega : 0 + 14 ≤ 14) (sV_all _)) rfl ?_)
      | (refine wl_run (v := .bool false) (xl_neb34 (nn34 _ _) rfl rfl rfl) rfl ?_)
      | (go_at_call 21; (with_reducible refine hLn.mono ?_); rintro e we ⟨rfl, rfl⟩)
      | (go_at_call 15; (with_reducible refine hQ15.mono ?_); rintro e wf ⟨rfl, Hf⟩; rw [f5]; rw [f6] at Hf))
    have hcf : chgE L s = 81 := chg_abs f1
    have hch : chL L s = L := chg_not (by rw [hcf]; decide)
    have hhd := f1
    clear hQ10 hG hLn hQ15 Ha Hb Hd Xc Tc Xd Kd Sa Sd a0 d0
    have Sf := X1.below Hf.world
    have hQ13 := hx_chg Hf hs
    go_upto_region 17 with (first
      | (refine wl_run (xl_load 34 Sf rfl rfl Tryz.underlying34 rfl size34 (by omega : 0 + 14 ≤ 14) (sV_all _)) rfl ?_)
      | (go_at_call 13; (with_reducible refine hQ13.mono ?_); rintro e wg ⟨rfl, Hg⟩; rw [hcf]; rw [hch] at Hg; have g0 := ((X1.below Hg.world).cell 0).trans (sV_0 _); have hGg := tn_get Hg.tn hs.1; rw [hhd] at hGg)
      | (go_at_call 20; (with_reducible refine hGg.mono ?_); rintro e wh ⟨rfl, Th⟩; have Hh := Hg.below Th)
      | (refine wl_alloc 34 rfl rfl zero34 ?_; intro wi Xi Ti)
      | (refine wl_store 34 Xi rfl rfl rfl rfl size34 rfl (by omega : 0 + 14 ≤ 14) (sV_one _) (spl_ss _ _) ?_; intro wj Xj Kj; have Hz := Hh.newBox (Kj.up Ti (Nat.le_refl _)) Xj (Nat.le_refl _)))
    have Wz := Hz.box (b := w7.heap.size) (p := getS L s.id) (by simp)
    have hQ22 := tn_ids Hz.tn
    clear Hf Sf hQ13 hGg Hg Hh Xi Ti Kj
    go_wp2_with (first
      | (refine wl_run (xl_load 34 Xj rfl rfl Tryz.underlying34 rfl size34 (by omega : 0 + 14 ≤ 14) (sV_all _)) rfl ?_)
      | (refine wl_run (xl_load 34 Wz rfl rfl Tryz.underlying34 rfl size34 (by omega : 0 + 14 ≤ 14) (sV_all _)) rfl ?_)
      | (refine wl_run (v := .bool false) (xl_neb34 (nn34 _ _) rfl rfl rfl) rfl ?_)
      | (refine wl_run (v := .bool true) (xl_same34 rfl rfl rfl) rfl ?_)
      | (go_at_call 22; (with_reducible refine hQ22.mono ?_); rintro e y1 ⟨u1, rfl, Ou1, Ty1⟩; have Hy1 := Hz.below Ty1; have hS1 := same_true Ou1 (Hy1.row (v := .slice a6 (idsL L).length c6) (zs := idsL L) (by simp)) (by rw [ids_len]; omega))
      | (go_at_call 28; (with_reducible refine hS1.mono ?_); rintro e y2 ⟨rfl, Ty2⟩; have Hy2 := Hy1.below Ty2; have z1 := ((X1.below Hy2.world).cell 1).trans (sV_1 _); have hQ23 := tn_under Hy2.tn hs.2.1)
      | (go_at_call 23; (with_reducible refine hQ23.mono ?_); rintro e y3 ⟨u3, rfl, Ou3, Ty3⟩; have Hy3 := Hy2.below Ty3; have hS3 := same_true Ou3 (Hy3.row (v := v7) (zs := underL L s.par) (by simp)) (by have := underL_len L s.par; omega))
      | (go_at_call 28; (with_reducible refine hS3.mono ?_); rintro e y4 ⟨rfl, Ty4⟩; have Hy4 := Hy3.below Ty4))
    go_ret
    exact ⟨rfl, ups T1 Hy4.world T1.size⟩
  · have hno : addL L s = L := if_neg hE
    have hEb : (addE L s == 0) = false := by simpa using hE
    go_upto_region 15 with (first
      | (refine wl_run (xl_load 34 S9 rfl rfl Tryz.underlying34 rfl size34 (by omega : 0 + 14 ≤ 14) (sV_all _)) rfl ?_)
      | (go_at_call 11; (with_reducible refine hQ10.mono ?_); rintro e wf ⟨rfl, Hf⟩; rw [hno] at Hf))
    clear hQ10
    cases hhd : hasS L s.id with
    | false =>
      have hcf : chgE L s = 81 := chg_abs hhd
      have hch : chL L s = L := chg_not (by rw [hcf]; decide)
      have Sf := X1.below Hf.world
      have hQ13 := hx_chg Hf hs
      go_upto_region 17 with (first
        | (refine wl_run (xl_load 34 Sf rfl rfl Tryz.underlying34 rfl size34 (by omega : 0 + 14 ≤ 14) (sV_all _)) rfl ?_)
        | (go_at_call 13; (with_reducible refine hQ13.mono ?_); rintro e wg ⟨rfl, Hg⟩; rw [hcf]; rw [hch] at Hg; have g0 := ((X1.below Hg.world).cell 0).trans (sV_0 _); have hGg := tn_get Hg.tn hs.1; rw [hhd] at hGg)
        | (go_at_call 20; (with_reducible refine hGg.mono ?_); rintro e wh ⟨rfl, Th⟩; have Hh := Hg.below Th)
        | (refine wl_alloc 34 rfl rfl zero34 ?_; intro wi Xi Ti)
        | (refine wl_store 34 Xi rfl rfl rfl rfl size34 rfl (by omega : 0 + 14 ≤ 14) (sV_one _) (spl_ss _ _) ?_; intro wj Xj Kj; have Hz := Hh.newBox (Kj.up Ti (Nat.le_refl _)) Xj (Nat.le_refl _)))
      have Wz := Hz.box (b := w7.heap.size) (p := getS L s.id) (by simp)
      have hQ22 := tn_ids Hz.tn
      clear Hf Sf hQ13 hGg Hg Hh Xi Ti Kj
      go_wp2_with (first
        | (refine wl_run (xl_load 34 Xj rfl rfl Tryz.underlying34 rfl size34 (by omega : 0 + 14 ≤ 14) (sV_all _)) rfl ?_)
        | (refine wl_run (xl_load 34 Wz rfl rfl Tryz.underlying34 rfl size34 (by omega : 0 + 14 ≤ 14) (sV_all _)) rfl ?_)
        | (refine wl_run (v := .bool false) (xl_neb34 (nn34 _ _) rfl rfl rfl) rfl ?_)
        | (refine wl_run (v := .bool true) (xl_same34 rfl rfl rfl) rfl ?_)
        | (go_at_call 22; (with_reducible refine hQ22.mono ?_); rintro e y1 ⟨u1, rfl, Ou1, Ty1⟩; have Hy1 := Hz.below Ty1; have hS1 := same_true Ou1 (Hy1.row (v := .slice a6 (idsL L).length c6) (zs := idsL L) (by simp)) (by rw [ids_len]; omega))
        | (go_at_call 28; (with_reducible refine hS1.mono ?_); rintro e y2 ⟨rfl, Ty2⟩; have Hy2 := Hy1.below Ty2; have z1 := ((X1.below Hy2.world).cell 1).trans (sV_1 _); have hQ23 := tn_under Hy2.tn hs.2.1)
        | (go_at_call 23; (with_reducible refine hQ23.mono ?_); rintro e y3 ⟨u3, rfl, Ou3, Ty3⟩; have Hy3 := Hy2.below Ty3; have hS3 := same_true Ou3 (Hy3.row (v := v7) (zs := underL L s.par) (by simp)) (by have := underL_len L s.par; omega))
        | (go_at_call 28; (with_reducible refine hS3.mono ?_); rintro e y4 ⟨rfl, Ty4⟩; have Hy4 := Hy3.below Ty4))
      go_ret
      exact ⟨rfl, ups T1 Hy4.world T1.size⟩
    | true =>
      rcases chg_81 hhd with hcf | hcf
      · -- it is changed, and back
        obtain ⟨c, hcm1, hci, hgc, _, g1, g2, g3, g4, g5⟩ := ref_chg hF hcf
        have hcok : c.ok := (hF.each c hcm1).1
        have Sf := X1.below Hf.world
        have hQ13 := hx_chg Hf hs
        go_upto_region 17 with (first
          | (refine wl_run (xl_load 34 Sf rfl rfl Tryz.underlying34 rfl size34 (by omega : 0 + 14 ≤ 14) (sV_all _)) rfl ?_)
          | (go_at_call 13; (with_reducible refine hQ13.mono ?_); rintro e wg ⟨rfl, Hg⟩; rw [hcf]; rw [g1] at Hg; have g0 := ((X1.below Hg.world).cell 0).trans (sV_0 _); have hGg := tn_get Hg.tn hs.1; rw [g2, g3] at hGg)
          | (go_at_call 20; (with_reducible refine hGg.mono ?_); rintro e wh ⟨rfl, Th⟩; have Hh := Hg.below Th)
          | (refine wl_alloc 34 rfl rfl zero34 ?_; intro wi Xi Ti)
          | (refine wl_store 34 Xi rfl rfl rfl rfl size34 rfl (by omega : 0 + 14 ≤ 14) (sV_one _) (spl_ss _ _) ?_; intro wj Xj Kj; have Hj := Hh.newBox (Kj.up Ti (Nat.le_refl _)) Xj (Nat.le_refl _)))
        have Wj := Hj.box (b := w7.heap.size) (p := getS L s.id) (by simp)
        rw [hgc] at Wj
        have Sj := X1.below Hj.world
        have n1 := (Xj.cell 1).trans (sV_1 _)
        have n2 := (Xj.cell 2).trans (sV_2' _)
        have n12 := (Xj.cell 12).trans (sV_12 _)
        have n13 := (Xj.cell 13).trans (sV_13 _)
        have v1 := (Wj.cell 1).trans (sV_1 _)
        have v2 := (Wj.cell 2).trans (sV_2' _)
        have v12 := (Wj.cell 12).trans (sV_12 _)
        have v13 := (Wj.cell 13).trans (sV_13 _)
        have m1 : (withS c s).par = c.par := rfl
        have m2 : (withS c s).leaf = c.leaf := rfl
        have m12 : (withS c s).pk = c.pk := rfl
        have m13 : (withS c s).bt = c.bt := rfl
        rw [m1] at n1
        rw [m2] at n2
        rw [m12] at n12
        rw [m13] at n13
        have hQb := hx_chg Hj hcok
        clear Hf Sf hQ13 hGg Hg Xi Ti Kj
        go_upto_region 23 with (first
          | (refine wl_run (v := .agg (cC s.re)) (xl_load 32 Xj rfl rfl Tryz.underlying32 rfl size32 (by omega : 3 + 3 ≤ 14) (sC3 _)) rfl ?_)
          | (refine wl_run (v := .agg (cC s.re)) (xl_load 32 Sj rfl rfl Tryz.underlying32 rfl size32 (by omega : 3 + 3 ≤ 14) (sC3 _)) rfl ?_)
          | (refine wl_run (v := .agg (cC s.sh)) (xl_load 32 Xj rfl rfl Tryz.underlying32 rfl size32 (by omega : 6 + 3 ≤ 14) (sC6 _)) rfl ?_)
          | (refine wl_run (v := .agg (cC s.sh)) (xl_load 32 Sj rfl rfl Tryz.underlying32 rfl size32 (by omega : 6 + 3 ≤ 14) (sC6 _)) rfl ?_)
          | (refine wl_run (v := .agg (cC s.up)) (xl_load 32 Xj rfl rfl Tryz.underlying32 rfl size32 (by omega : 9 + 3 ≤ 14) (sC9 _)) rfl ?_)
          | (refine wl_run (v := .agg (cC s.up)) (xl_load 32 Sj rfl rfl Tryz.underlying32 rfl size32 (by omega : 9 + 3 ≤ 14) (sC9 _)) rfl ?_)
          | (refine wl_run (v := .bool false) (xl_ne32 rfl rfl rfl) rfl ?_)
          | (refine wl_run (xl_load 34 Wj rfl rfl Tryz.underlying34 rfl size34 (by omega : 0 + 14 ≤ 14) (sV_all _)) rfl ?_)
          | (go_at_call 13; (with_reducible refine hQb.mono ?_); rintro e wk ⟨rfl, Hk⟩; rw [g4]; rw [g5] at Hk; have k0 := ((X1.below Hk.world).cell 0).trans (sV_0 _); have hGk := tn_get Hk.tn hs.1; rw [hgc] at hGk)
          | (go_at_call 20; (with_reducible refine hGk.mono ?_); rintro e wl ⟨rfl, Tl⟩; have Hl := Hk.below Tl; have Bl := Hl.box (b := wh.heap.size) (p := withS c s) (by simp))
          | (refine wl_store 34 Bl rfl rfl rfl rfl size34 rfl (by omega : 0 + 14 ≤ 14) (sV_one _) (spl_ss _ _) ?_; intro wm Xm Km; have Hz := Hx.put2 Hh (Nat.le_refl _) Hl Km Xm))
        have Wz := Hz.box (b := w7.heap.size) (p := getS L s.id) (by simp)
        rw [hgc] at Wz
        have hQ22 := tn_ids Hz.tn
        go_wp2_with (first
          | (refine wl_run (xl_load 34 Xm rfl rfl Tryz.underlying34 rfl size34 (by omega : 0 + 14 ≤ 14) (sV_all _)) rfl ?_)
          | (refine wl_run (xl_load 34 Wz rfl rfl Tryz.underlying34 rfl size34 (by omega : 0 + 14 ≤ 14) (sV_all _)) rfl ?_)
          | (refine wl_run (v := .bool true) (xl_same34 rfl rfl rfl) rfl ?_)
          | (go_at_call 22; (with_reducible refine hQ22.mono ?_); rintro e y1 ⟨u1, rfl, Ou1, Ty1⟩; have Hy1 := Hz.below Ty1; have hS1 := same_true Ou1 (Hy1.row (v := .slice a6 (idsL L).length c6) (zs := idsL L) (by simp)) (by rw [ids_len]; omega))
          | (go_at_call 28; (with_reducible refine hS1.mono ?_); rintro e y2 ⟨rfl, Ty2⟩; have Hy2 := Hy1.below Ty2; have z1 := ((X1.below Hy2.world).cell 1).trans (sV_1 _); have hQ23 := tn_under Hy2.tn hs.2.1)
          | (go_at_call 23; (with_reducible refine hQ23.mono ?_); rintro e y3 ⟨u3, rfl, Ou3, Ty3⟩; have Hy3 := Hy2.below Ty3; have hS3 := same_true Ou3 (Hy3.row (v := v7) (zs := underL L s.par) (by simp)) (by have := underL_len L s.par; omega))
          | (go_at_call 28; (with_reducible refine hS3.mono ?_); rintro e y4 ⟨rfl, Ty4⟩; have Hy4 := Hy3.below Ty4))
        go_ret
        exact ⟨rfl, ups T1 Hy4.world T1.size⟩
      · have hch : chL L s = L := chg_not (by rw [hcf]; decide)
        have Sf := X1.below Hf.world
        have hQ13 := hx_chg Hf hs
        go_upto_region 17 with (first
          | (refine wl_run (xl_load 34 Sf rfl rfl Tryz.underlying34 rfl size34 (by omega : 0 + 14 ≤ 14) (sV_all _)) rfl ?_)
          | (go_at_call 13; (with_reducible refine hQ13.mono ?_); rintro e wg ⟨rfl, Hg⟩; rw [hcf]; rw [hch] at Hg; have g0 := ((X1.below Hg.world).cell 0).trans (sV_0 _); have hGg := tn_get Hg.tn hs.1; rw [hhd] at hGg)
          | (go_at_call 20; (with_reducible refine hGg.mono ?_); rintro e wh ⟨rfl, Th⟩; have Hh := Hg.below Th)
          | (refine wl_alloc 34 rfl rfl zero34 ?_; intro wi Xi Ti)
          | (refine wl_store 34 Xi rfl rfl rfl rfl size34 rfl (by omega : 0 + 14 ≤ 14) (sV_one _) (spl_ss _ _) ?_; intro wj Xj Kj; have Hz := Hh.newBox (Kj.up Ti (Nat.le_refl _)) Xj (Nat.le_refl _)))
        have Wz := Hz.box (b := w7.heap.size) (p := getS L s.id) (by simp)
        have hQ22 := tn_ids Hz.tn
        clear Hf Sf hQ13 hGg Hg Hh Xi Ti Kj
        go_wp2_with (first
          | (refine wl_run (xl_load 34 Xj rfl rfl Tryz.underlying34 rfl size34 (by omega : 0 + 14 ≤ 14) (sV_all _)) rfl ?_)
          | (refine wl_run (xl_load 34 Wz rfl rfl Tryz.underlying34 rfl size34 (by omega : 0 + 14 ≤ 14) (sV_all _)) rfl ?_)
          | (refine wl_run (v := .bool false) (xl_neb34 (nn34 _ _) rfl rfl rfl) rfl ?_)
          | (refine wl_run (v := .bool true) (xl_same34 rfl rfl rfl) rfl ?_)
          | (go_at_call 22; (with_reducible refine hQ22.mono ?_); rintro e y1 ⟨u1, rfl, Ou1, Ty1⟩; have Hy1 := Hz.below Ty1; have hS1 := same_true Ou1 (Hy1.row (v := .slice a6 (idsL L).length c6) (zs := idsL L) (by simp)) (by rw [ids_len]; omega))
          | (go_at_call 28; (with_reducible refine hS1.mono ?_); rintro e y2 ⟨rfl, Ty2⟩; have Hy2 := Hy1.below Ty2; have z1 := ((X1.below Hy2.world).cell 1).trans (sV_1 _); have hQ23 := tn_under Hy2.tn hs.2.1)
          | (go_at_call 23; (with_reducible refine hQ23.mono ?_); rintro e y3 ⟨u3, rfl, Ou3, Ty3⟩; have Hy3 := Hy2.below Ty3; have hS3 := same_true Ou3 (Hy3.row (v := v7) (zs := underL L s.par) (by simp)) (by have := underL_len L s.par; omega))
          | (go_at_call 28; (with_reducible refine hS3.mono ?_); rintro e y4 ⟨rfl, Ty4⟩; have Hy4 := Hy3.below Ty4))
        go_ret
        exact ⟨rfl, ups T1 Hy4.world T1.size⟩
end Go.Proofs.YtpopcnebndgblaaGreat.H
