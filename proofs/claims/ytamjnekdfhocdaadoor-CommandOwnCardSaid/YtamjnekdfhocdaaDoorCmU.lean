/- The document's command of some bytes. No condition. -/
import Derived.Test.YtamjnekdfhocdaaDoorCmS
namespace Go.Proofs.YtamjnekdfhocdaaDoor
open Go.ChangeShapes Go.WideShapes Go.Deep Go.RowKit
set_option linter.unusedVariables false
set_option linter.unusedSimpArgs false
theorem rdcV_at {S R : List UInt8} {b : UInt8} (h : isK (byV S) = true) (hS : S = b :: R) : rdcV S = if (endL (tyC (byV S)) ⟨R, false⟩).bad = false ∧ (endL (tyC (byV S)) ⟨R, false⟩).left = [] then .tuple #[.agg (cmV (mkC (byV S) (decL (tyC (byV S)) ⟨R, false⟩))), .int .i64 0] else .tuple #[.agg (cmV (Cm.zero 0)), .int .i64 140] := by
  have hn := of_decide_eq_true (show decide (1 ≤ byV S ∧ byV S ≤ 7) = true from h)
  subst hS
  have hn' : 1 ≤ b.toNat ∧ b.toNat ≤ 7 := hn
  show rdcV (b :: R) = if (endL (tyC b.toNat) ⟨R, false⟩).bad = false ∧ (endL (tyC b.toNat) ⟨R, false⟩).left = [] then _ else _
  by_cases hg : (endL (tyC b.toNat) ⟨R, false⟩).bad = false ∧ (endL (tyC b.toNat) ⟨R, false⟩).left = []
  · rw [if_pos hg]
    have e : rdC (b :: R) = some (mkC b.toNat (decL (tyC b.toNat) ⟨R, false⟩)) := by unfold rdC; exact if_pos ⟨hn'.1, hn'.2, hg.1, hg.2⟩
    unfold rdcV
    rw [e]
    rfl
  · rw [if_neg hg]
    have e : rdC (b :: R) = none := by unfold rdC; exact if_neg (fun q => hg q.2.2)
    unfold rdcV
    rw [e]
theorem n3E_len {s : Ey} (h : s.left.length < 100000) : (n3E s).left.length < 100000 := Nat.lt_of_le_of_lt (nuE_len _) (Nat.lt_of_le_of_lt (nuE_len _) (Nat.lt_of_le_of_lt (nuE_len _) h))
theorem nuE_lt {s : Ey} (h : s.left.length < 100000) : (nuE s).left.length < 100000 := Nat.lt_of_le_of_lt (nuE_len _) h
theorem flE_lt {s : Ey} (h : s.left.length < 100000) : (flE s).left.length < 100000 := Nat.lt_of_le_of_lt (flE_len _) h
theorem n3V_one (s : Ey) : (n3V s).all (·.oneCell') = true := by kernel_rfl
theorem all24 {c : Array Value} {C : Cm} (h : c = cmV C) : c.extract 0 (0 + 24) = cmV C := by rw [h]; exact cmV_all C
theorem done_yes {w : World} {E : Nat} {s : Ey} (h : Rye w E s) (hg : s.bad = false ∧ s.left = []) : Calls Tryd.prog 43 #[ptr E] w fun e w' => e = .returned (.bool true) ∧ w = w' := by
  have := RDone_any h
  rw [end_good hg] at this
  exact this
theorem done_not {w : World} {E : Nat} {s : Ey} (h : Rye w E s) (hg : ¬ (s.bad = false ∧ s.left = [])) : Calls Tryd.prog 43 #[ptr E] w fun e w' => e = .returned (.bool false) ∧ w = w' := by
  have := RDone_any h
  rw [end_bad hg] at this
  exact this
set_option maxHeartbeats 16000000 in
set_option maxRecDepth 100000 in
theorem rrdc_no (S : List UInt8) (w : World) (hno : isK (byV S) = false) : Calls Tryd.prog 20 #[.string (bs S)] w fun e w' => e = .returned (.tuple #[.agg (cmV (Cm.zero 0)), .int .i64 140]) ∧ Below w.heap.size w w' := by
  have hn := of_decide_eq_false (show decide (1 ≤ byV S ∧ byV S ≤ 7) = false from hno)
  obtain ⟨k, hkk⟩ : ∃ k, byV S = k := ⟨_, rfl⟩
  rw [hkk] at hn
  clear hno
  have j1 : ((k : Int) == 1) = false := beq_eq_false_iff_ne.2 (by omega)
  have j2 : ((k : Int) == 2) = false := beq_eq_false_iff_ne.2 (by omega)
  have j3 : ((k : Int) == 3) = false := beq_eq_false_iff_ne.2 (by omega)
  have j4 : ((k : Int) == 4) = false := beq_eq_false_iff_ne.2 (by omega)
  have j5 : ((k : Int) == 5) = false := beq_eq_false_iff_ne.2 (by omega)
  have j6 : ((k : Int) == 6) = false := beq_eq_false_iff_ne.2 (by omega)
  have j7 : ((k : Int) == 7) = false := beq_eq_false_iff_ne.2 (by omega)
  go_enter Tryd.func20, Tryd.ntmps20
  go_upto_region 2 with (first
    | (refine wl_alloc 32 rfl rfl zero32 ?_; intro w1 R1 T1)
    | (refine wl_build 92 rfl rfl (built92 S) ?_)
    | (refine wl_box 92 rfl rfl rfl ?_; intro w2 E2 T2; have R2 := R1.below T2; have T2' := ups T1 T2 T1.size; have hB := RByte_any (s := ⟨S, false⟩) E2; rw [show (Ey.mk S false).left = S from rfl, hkk] at hB))
  go_upto_region 3 with (first
    | (go_at_call 38; (with_reducible refine hB.mono ?_); rintro e w3 ⟨rfl, E3, K3⟩; have T3 := K3.up T2' T1.size; have R3 := K3.box R2 (Nat.ne_of_lt R1.lt))
    | (refine wl_build 32 rfl rfl (builtk k) ?_)
    | (refine wl_alloc 32 rfl rfl zero32 ?_; intro w4 X4 T4; have R4 := R3.below T4; have E4 : Rye w4 w1.heap.size _ := Box.below E3 T4; have T4' := ups T3 T4 T3.size)
    | (refine wl_store 32 X4 rfl rfl rfl rfl size32 rfl (by omega : 0 + 24 ≤ 24) (cmV_one _) (spl24 _ _) ?_; intro w5 Z0 K5; have T0 := K5.up T4' T3.size; have R0 := K5.box R4 (Nat.ne_of_lt R3.lt); have E0 : Rye w5 w1.heap.size _ := K5.box E4 (Nat.ne_of_lt (show w1.heap.size < w3.heap.size from E3.lt)); have y0 : w5.cell? ⟨w3.heap.size, 0, none⟩ = some (.int .u8 (k : Nat)) := (Z0.cell 0).trans (cmV_0 _)))
  have hAE := T1.size
  have hAD := T3.size
  have l1 : w.heap.size < w1.heap.size := R1.lt
  have l2 : w1.heap.size < w3.heap.size := E3.lt
  clear R1 T1 E2 T2 R2 T2' hB E3 K3 T3 R3 X4 T4 R4 E4 T4' K5
  go_wp2_with (first
    | (refine wl_build 32 rfl rfl built32_0 ?_)
    | (refine wl_store 32 R0 rfl rfl rfl rfl size32 rfl (by omega : 0 + 24 ≤ 24) (cmV_one _) (spl24 _ _) ?_; intro w7 R7 K7))
  refine bodyPost_ret (v := .tuple #[.agg (cmV (Cm.zero 0)), .int .i64 140]) ?_ rfl ⟨rfl, K7.up T0 (Nat.le_refl _)⟩
  exact results_cell_two rfl _ _ _ _ _ _ _ rfl rfl R7 Tryd.underlying32 rfl size32
set_option maxHeartbeats 16000000 in
set_option maxRecDepth 100000 in
theorem rrdc_1y {S R : List UInt8} {sE : Ey} {CE : Cm} (w : World) (hkk : byV S = 1) (hbe : byE ⟨S, false⟩ = ⟨R, false⟩) (hlen : R.length < 100000) (hsE : endL (tyC 1) ⟨R, false⟩ = sE) (hCE : mkC 1 (decL (tyC 1) ⟨R, false⟩) = CE) (hg : sE.bad = false ∧ sE.left = []) :
    Calls Tryd.prog 20 #[.string (bs S)] w fun e w' => e = .returned (.tuple #[.agg (cmV CE), .int .i64 0]) ∧ Below w.heap.size w w' := by
  obtain ⟨s0, hs0⟩ : ∃ s : Ey, ⟨R, false⟩ = s := ⟨_, rfl⟩
  have l0s : s0.left.length < 100000 := by rw [← hs0]; exact hlen
  rw [hs0] at hbe hsE hCE
  obtain ⟨c0, hc0⟩ : ∃ c, cmV (Cm.zero 1) = c := ⟨_, rfl⟩
  have z0 : c0.size = 24 := by rw [← hc0]; rfl
  have g0 : c0[0]? = some (.int .u8 (1 : Nat)) := by rw [← hc0]; rfl
  obtain ⟨s1, hs1⟩ : ∃ s, nuE s0 = s := ⟨_, rfl⟩
  have l1s : s1.left.length < 100000 := by rw [← hs1]; exact nuE_lt l0s
  obtain ⟨c1, hc1⟩ : ∃ c, c0.setIfInBounds 1 (.int .u64 (nuV s0.left : Int)) = c := ⟨_, rfl⟩
  have z1 : c1.size = 24 := by rw [← hc1, Array.size_setIfInBounds]; exact z0
  have g1 : c1[0]? = some (.int .u8 (1 : Nat)) := by rw [← hc1, Array.getElem?_setIfInBounds_ne (by decide)]; exact g0
  obtain ⟨s2, hs2⟩ : ∃ s, nuE s1 = s := ⟨_, rfl⟩
  have l2s : s2.left.length < 100000 := by rw [← hs2]; exact nuE_lt l1s
  obtain ⟨c2, hc2⟩ : ∃ c, c1.setIfInBounds 2 (.int .i64 (sg (nuV s1.left))) = c := ⟨_, rfl⟩
  have z2 : c2.size = 24 := by rw [← hc2, Array.size_setIfInBounds]; exact z1
  have g2 : c2[0]? = some (.int .u8 (1 : Nat)) := by rw [← hc2, Array.getElem?_setIfInBounds_ne (by decide)]; exact g1
  obtain ⟨s3, hs3⟩ : ∃ s, nuE s2 = s := ⟨_, rfl⟩
  have l3s : s3.left.length < 100000 := by rw [← hs3]; exact nuE_lt l2s
  obtain ⟨c3, hc3⟩ : ∃ c, c2.setIfInBounds 3 (.int .u64 (nuV s2.left : Int)) = c := ⟨_, rfl⟩
  have z3 : c3.size = 24 := by rw [← hc3, Array.size_setIfInBounds]; exact z2
  have g3 : c3[0]? = some (.int .u8 (1 : Nat)) := by rw [← hc3, Array.getElem?_setIfInBounds_ne (by decide)]; exact g2
  have hend : s3 = sE := by rw [← hsE]; subst hs3 hs2 hs1; rfl
  have hfin : c3 = cmV CE := by rw [← hCE]; subst hc3 hc2 hc1 hc0 hs3 hs2 hs1; kernel_rfl
  rw [← hend] at hg
  clear hsE hCE hend
  replace hs1 := Lib.hid hs1
  replace hc1 := Lib.hid hc1
  replace hs2 := Lib.hid hs2
  replace hc2 := Lib.hid hc2
  replace hs3 := Lib.hid hs3
  replace hc3 := Lib.hid hc3
  go_enter Tryd.func20, Tryd.ntmps20
  go_upto_region 2 with (first
    | (refine wl_alloc 32 rfl rfl zero32 ?_; intro w1 R1 T1)
    | (refine wl_build 92 rfl rfl (built92 S) ?_)
    | (refine wl_box 92 rfl rfl rfl ?_; intro w2 E2 T2; have R2 := R1.below T2; have T2' := ups T1 T2 T1.size; have hB := RByte_any (s := ⟨S, false⟩) E2; rw [show (Ey.mk S false).left = S from rfl, hkk] at hB))
  go_upto_region 3 with (first
    | (go_at_call 38; (with_reducible refine hB.mono ?_); rintro e w3 ⟨rfl, E3, K3⟩; have T3 := K3.up T2' T1.size; have R3 := K3.box R2 (Nat.ne_of_lt R1.lt))
    | (refine wl_build 32 rfl rfl (builtk 1) ?_)
    | (refine wl_alloc 32 rfl rfl zero32 ?_; intro w4 X4 T4; have R4 := R3.below T4; have E4 : Rye w4 w1.heap.size _ := Box.below E3 T4; have T4' := ups T3 T4 T3.size)
    | (refine wl_store 32 X4 rfl rfl rfl rfl size32 rfl (by omega : 0 + 24 ≤ 24) (cmV_one _) (spl24 _ _) ?_; intro w5 Z0 K5; have T0 := K5.up T4' T3.size; have R0 := K5.box R4 (Nat.ne_of_lt R3.lt); have E0 : Rye w5 w1.heap.size _ := K5.box E4 (Nat.ne_of_lt (show w1.heap.size < w3.heap.size from E3.lt)); have y0 : w5.cell? ⟨w3.heap.size, 0, none⟩ = some (.int .u8 (1 : Nat)) := (Z0.cell 0).trans (cmV_0 _)))
  have hAE := T1.size
  have hAD := T3.size
  have l1 : w.heap.size < w1.heap.size := R1.lt
  have l2 : w1.heap.size < w3.heap.size := E3.lt
  clear R1 T1 E2 T2 R2 T2' hB E3 K3 T3 R3 X4 T4 R4 E4 T4' K5
  rw [hbe] at E0
  rw [hc0] at Z0
  have Y0 := y0
  clear y0 hc0 hs0
  have K0 := REye_num E0 (by omega)
  rw [hs1.out] at K0
  go_wp2_with (first
    | (go_at_call 39; (with_reducible refine K0.mono ?_); rintro e v0 ⟨rfl, F0, B0⟩; have Rb0 := B0.box R0 (Nat.ne_of_lt l1); have Zb0 := B0.box Z0 (Ne.symm (Nat.ne_of_lt l2)); have Tb0 := B0.up T0 hAE)
    | (refine wl_put 22 Zb0 rfl rfl rfl rfl rfl rfl size22 (by omega) hc1.out ?_; intro u0 Z1 D0; have R1 := D0.box Rb0 (by omega); have E1 : Rye u0 w1.heap.size s1 := D0.box F0 (Nat.ne_of_lt l2); have T1 := D0.up Tb0 hAD; have Y1 := (Z1.cell 0).trans g1; have K1 := REye_int E1 (by omega); rw [hs2.out] at K1)
    | (go_at_call 40; (with_reducible refine K1.mono ?_); rintro e v1 ⟨rfl, F1, B1⟩; have Rb1 := B1.box R1 (Nat.ne_of_lt l1); have Zb1 := B1.box Z1 (Ne.symm (Nat.ne_of_lt l2)); have Tb1 := B1.up T1 hAE)
    | (refine wl_put 3 Zb1 rfl rfl rfl rfl rfl rfl size3 (by omega) hc2.out ?_; intro u1 Z2 D1; have R2 := D1.box Rb1 (by omega); have E2 : Rye u1 w1.heap.size s2 := D1.box F1 (Nat.ne_of_lt l2); have T2 := D1.up Tb1 hAD; have Y2 := (Z2.cell 0).trans g2; have K2 := REye_num E2 (by omega); rw [hs3.out] at K2)
    | (go_at_call 39; (with_reducible refine K2.mono ?_); rintro e v2 ⟨rfl, F2, B2⟩; have Rb2 := B2.box R2 (Nat.ne_of_lt l1); have Zb2 := B2.box Z2 (Ne.symm (Nat.ne_of_lt l2)); have Tb2 := B2.up T2 hAE)
    | (refine wl_put 22 Zb2 rfl rfl rfl rfl rfl rfl size22 (by omega) hc3.out ?_; intro u2 Z3 D2; have R3 := D2.box Rb2 (by omega); have E3 : Rye u2 w1.heap.size s3 := D2.box F2 (Nat.ne_of_lt l2); have T3 := D2.up Tb2 hAD; have Y3 := (Z3.cell 0).trans g3; have hD := done_yes E3 hg)
    | (go_at_call 43; (with_reducible refine hD.mono ?_); rintro e w8 ⟨rfl, rfl⟩)
    | (refine wl_load 32 Z3 rfl rfl rfl Tryd.underlying32 rfl size32 (by omega) (all24 hfin) ?_)
    | (refine wl_store 32 R3 rfl rfl rfl rfl size32 rfl (by omega : 0 + 24 ≤ 24) (cmV_one _) (spl24 _ _) ?_; intro wA RA KA))
  refine bodyPost_ret (v := .tuple #[.agg (cmV CE), .int .i64 0]) ?_ rfl ⟨rfl, KA.up T3 (Nat.le_refl _)⟩
  exact results_cell_two rfl _ _ _ _ _ _ _ rfl rfl RA Tryd.underlying32 rfl size32
set_option maxHeartbeats 16000000 in
set_option maxRecDepth 100000 in
theorem rrdc_1n {S R : List UInt8} {sE : Ey} {CE : Cm} (w : World) (hkk : byV S = 1) (hbe : byE ⟨S, false⟩ = ⟨R, false⟩) (hlen : R.length < 100000) (hsE : endL (tyC 1) ⟨R, false⟩ = sE) (hCE : mkC 1 (decL (tyC 1) ⟨R, false⟩) = CE) (hg : ¬ (sE.bad = false ∧ sE.left = [])) :
    Calls Tryd.prog 20 #[.string (bs S)] w fun e w' => e = .returned (.tuple #[.agg (cmV (Cm.zero 0)), .int .i64 140]) ∧ Below w.heap.size w w' := by
  obtain ⟨s0, hs0⟩ : ∃ s : Ey, ⟨R, false⟩ = s := ⟨_, rfl⟩
  have l0s : s0.left.length < 100000 := by rw [← hs0]; exact hlen
  rw [hs0] at hbe hsE hCE
  obtain ⟨c0, hc0⟩ : ∃ c, cmV (Cm.zero 1) = c := ⟨_, rfl⟩
  have z0 : c0.size = 24 := by rw [← hc0]; rfl
  have g0 : c0[0]? = some (.int .u8 (1 : Nat)) := by rw [← hc0]; rfl
  obtain ⟨s1, hs1⟩ : ∃ s, nuE s0 = s := ⟨_, rfl⟩
  have l1s : s1.left.length < 100000 := by rw [← hs1]; exact nuE_lt l0s
  obtain ⟨c1, hc1⟩ : ∃ c, c0.setIfInBounds 1 (.int .u64 (nuV s0.left : Int)) = c := ⟨_, rfl⟩
  have z1 : c1.size = 24 := by rw [← hc1, Array.size_setIfInBounds]; exact z0
  have g1 : c1[0]? = some (.int .u8 (1 : Nat)) := by rw [← hc1, Array.getElem?_setIfInBounds_ne (by decide)]; exact g0
  obtain ⟨s2, hs2⟩ : ∃ s, nuE s1 = s := ⟨_, rfl⟩
  have l2s : s2.left.length < 100000 := by rw [← hs2]; exact nuE_lt l1s
  obtain ⟨c2, hc2⟩ : ∃ c, c1.setIfInBounds 2 (.int .i64 (sg (nuV s1.left))) = c := ⟨_, rfl⟩
  have z2 : c2.size = 24 := by rw [← hc2, Array.size_setIfInBounds]; exact z1
  have g2 : c2[0]? = some (.int .u8 (1 : Nat)) := by rw [← hc2, Array.getElem?_setIfInBounds_ne (by decide)]; exact g1
  obtain ⟨s3, hs3⟩ : ∃ s, nuE s2 = s := ⟨_, rfl⟩
  have l3s : s3.left.length < 100000 := by rw [← hs3]; exact nuE_lt l2s
  obtain ⟨c3, hc3⟩ : ∃ c, c2.setIfInBounds 3 (.int .u64 (nuV s2.left : Int)) = c := ⟨_, rfl⟩
  have z3 : c3.size = 24 := by rw [← hc3, Array.size_setIfInBounds]; exact z2
  have g3 : c3[0]? = some (.int .u8 (1 : Nat)) := by rw [← hc3, Array.getElem?_setIfInBounds_ne (by decide)]; exact g2
  have hend : s3 = sE := by rw [← hsE]; subst hs3 hs2 hs1; rfl
  rw [← hend] at hg
  clear hsE hCE hend
  replace hs1 := Lib.hid hs1
  replace hc1 := Lib.hid hc1
  replace hs2 := Lib.hid hs2
  replace hc2 := Lib.hid hc2
  replace hs3 := Lib.hid hs3
  replace hc3 := Lib.hid hc3
  go_enter Tryd.func20, Tryd.ntmps20
  go_upto_region 2 with (first
    | (refine wl_alloc 32 rfl rfl zero32 ?_; intro w1 R1 T1)
    | (refine wl_build 92 rfl rfl (built92 S) ?_)
    | (refine wl_box 92 rfl rfl rfl ?_; intro w2 E2 T2; have R2 := R1.below T2; have T2' := ups T1 T2 T1.size; have hB := RByte_any (s := ⟨S, false⟩) E2; rw [show (Ey.mk S false).left = S from rfl, hkk] at hB))
  go_upto_region 3 with (first
    | (go_at_call 38; (with_reducible refine hB.mono ?_); rintro e w3 ⟨rfl, E3, K3⟩; have T3 := K3.up T2' T1.size; have R3 := K3.box R2 (Nat.ne_of_lt R1.lt))
    | (refine wl_build 32 rfl rfl (builtk 1) ?_)
    | (refine wl_alloc 32 rfl rfl zero32 ?_; intro w4 X4 T4; have R4 := R3.below T4; have E4 : Rye w4 w1.heap.size _ := Box.below E3 T4; have T4' := ups T3 T4 T3.size)
    | (refine wl_store 32 X4 rfl rfl rfl rfl size32 rfl (by omega : 0 + 24 ≤ 24) (cmV_one _) (spl24 _ _) ?_; intro w5 Z0 K5; have T0 := K5.up T4' T3.size; have R0 := K5.box R4 (Nat.ne_of_lt R3.lt); have E0 : Rye w5 w1.heap.size _ := K5.box E4 (Nat.ne_of_lt (show w1.heap.size < w3.heap.size from E3.lt)); have y0 : w5.cell? ⟨w3.heap.size, 0, none⟩ = some (.int .u8 (1 : Nat)) := (Z0.cell 0).trans (cmV_0 _)))
  have hAE := T1.size
  have hAD := T3.size
  have l1 : w.heap.size < w1.heap.size := R1.lt
  have l2 : w1.heap.size < w3.heap.size := E3.lt
  clear R1 T1 E2 T2 R2 T2' hB E3 K3 T3 R3 X4 T4 R4 E4 T4' K5
  rw [hbe] at E0
  rw [hc0] at Z0
  have Y0 := y0
  clear y0 hc0 hs0
  have K0 := REye_num E0 (by omega)
  rw [hs1.out] at K0
  go_wp2_with (first
    | (go_at_call 39; (with_reducible refine K0.mono ?_); rintro e v0 ⟨rfl, F0, B0⟩; have Rb0 := B0.box R0 (Nat.ne_of_lt l1); have Zb0 := B0.box Z0 (Ne.symm (Nat.ne_of_lt l2)); have Tb0 := B0.up T0 hAE)
    | (refine wl_put 22 Zb0 rfl rfl rfl rfl rfl rfl size22 (by omega) hc1.out ?_; intro u0 Z1 D0; have R1 := D0.box Rb0 (by omega); have E1 : Rye u0 w1.heap.size s1 := D0.box F0 (Nat.ne_of_lt l2); have T1 := D0.up Tb0 hAD; have Y1 := (Z1.cell 0).trans g1; have K1 := REye_int E1 (by omega); rw [hs2.out] at K1)
    | (go_at_call 40; (with_reducible refine K1.mono ?_); rintro e v1 ⟨rfl, F1, B1⟩; have Rb1 := B1.box R1 (Nat.ne_of_lt l1); have Zb1 := B1.box Z1 (Ne.symm (Nat.ne_of_lt l2)); have Tb1 := B1.up T1 hAE)
    | (refine wl_put 3 Zb1 rfl rfl rfl rfl rfl rfl size3 (by omega) hc2.out ?_; intro u1 Z2 D1; have R2 := D1.box Rb1 (by omega); have E2 : Rye u1 w1.heap.size s2 := D1.box F1 (Nat.ne_of_lt l2); have T2 := D1.up Tb1 hAD; have Y2 := (Z2.cell 0).trans g2; have K2 := REye_num E2 (by omega); rw [hs3.out] at K2)
    | (go_at_call 39; (with_reducible refine K2.mono ?_); rintro e v2 ⟨rfl, F2, B2⟩; have Rb2 := B2.box R2 (Nat.ne_of_lt l1); have Zb2 := B2.box Z2 (Ne.symm (Nat.ne_of_lt l2)); have Tb2 := B2.up T2 hAE)
    | (refine wl_put 22 Zb2 rfl rfl rfl rfl rfl rfl size22 (by omega) hc3.out ?_; intro u2 Z3 D2; have R3 := D2.box Rb2 (by omega); have E3 : Rye u2 w1.heap.size s3 := D2.box F2 (Nat.ne_of_lt l2); have T3 := D2.up Tb2 hAD; have Y3 := (Z3.cell 0).trans g3; have hD := done_not E3 hg)
    | (go_at_call 43; (with_reducible refine hD.mono ?_); rintro e w8 ⟨rfl, rfl⟩)
    | (refine wl_build 32 rfl rfl built32_0 ?_)
    | (refine wl_store 32 R3 rfl rfl rfl rfl size32 rfl (by omega : 0 + 24 ≤ 24) (cmV_one _) (spl24 _ _) ?_; intro wA RA KA))
  refine bodyPost_ret (v := .tuple #[.agg (cmV (Cm.zero 0)), .int .i64 140]) ?_ rfl ⟨rfl, KA.up T3 (Nat.le_refl _)⟩
  exact results_cell_two rfl _ _ _ _ _ _ _ rfl rfl RA Tryd.underlying32 rfl size32
set_option maxHeartbeats 16000000 in
set_option maxRecDepth 100000 in
theorem rrdc_2y {S R : List UInt8} {sE : Ey} {CE : Cm} (w : World) (hkk : byV S = 2) (hbe : byE ⟨S, false⟩ = ⟨R, false⟩) (hlen : R.length < 100000) (hsE : endL (tyC 2) ⟨R, false⟩ = sE) (hCE : mkC 2 (decL (tyC 2) ⟨R, false⟩) = CE) (hg : sE.bad = false ∧ sE.left = []) :
    Calls Tryd.prog 20 #[.string (bs S)] w fun e w' => e = .returned (.tuple #[.agg (cmV CE), .int .i64 0]) ∧ Below w.heap.size w w' := by
  obtain ⟨s0, hs0⟩ : ∃ s : Ey, ⟨R, false⟩ = s := ⟨_, rfl⟩
  have l0s : s0.left.length < 100000 := by rw [← hs0]; exact hlen
  rw [hs0] at hbe hsE hCE
  obtain ⟨c0, hc0⟩ : ∃ c, cmV (Cm.zero 2) = c := ⟨_, rfl⟩
  have z0 : c0.size = 24 := by rw [← hc0]; rfl
  have g0 : c0[0]? = some (.int .u8 (2 : Nat)) := by rw [← hc0]; rfl
  obtain ⟨s1, hs1⟩ : ∃ s, nuE s0 = s := ⟨_, rfl⟩
  have l1s : s1.left.length < 100000 := by rw [← hs1]; exact nuE_lt l0s
  obtain ⟨c1, hc1⟩ : ∃ c, c0.setIfInBounds 4 (.int .i64 (sg (nuV s0.left))) = c := ⟨_, rfl⟩
  have z1 : c1.size = 24 := by rw [← hc1, Array.size_setIfInBounds]; exact z0
  have g1 : c1[0]? = some (.int .u8 (2 : Nat)) := by rw [← hc1, Array.getElem?_setIfInBounds_ne (by decide)]; exact g0
  obtain ⟨s2, hs2⟩ : ∃ s, nuE s1 = s := ⟨_, rfl⟩
  have l2s : s2.left.length < 100000 := by rw [← hs2]; exact nuE_lt l1s
  obtain ⟨c2, hc2⟩ : ∃ c, c1.setIfInBounds 5 (.int .i64 (sg (nuV s1.left))) = c := ⟨_, rfl⟩
  have z2 : c2.size = 24 := by rw [← hc2, Array.size_setIfInBounds]; exact z1
  have g2 : c2[0]? = some (.int .u8 (2 : Nat)) := by rw [← hc2, Array.getElem?_setIfInBounds_ne (by decide)]; exact g1
  obtain ⟨s3, hs3⟩ : ∃ s, flE s2 = s := ⟨_, rfl⟩
  have l3s : s3.left.length < 100000 := by rw [← hs3]; exact flE_lt l2s
  obtain ⟨c3, hc3⟩ : ∃ c, c2.setIfInBounds 6 (.bool (flV s2.left)) = c := ⟨_, rfl⟩
  have z3 : c3.size = 24 := by rw [← hc3, Array.size_setIfInBounds]; exact z2
  have g3 : c3[0]? = some (.int .u8 (2 : Nat)) := by rw [← hc3, Array.getElem?_setIfInBounds_ne (by decide)]; exact g2
  obtain ⟨s4, hs4⟩ : ∃ s, n3E s3 = s := ⟨_, rfl⟩
  have l4s : s4.left.length < 100000 := by rw [← hs4]; exact n3E_len l3s
  obtain ⟨c4, hc4⟩ : ∃ c, spl c3 7 (n3V s3).toList = c := ⟨_, rfl⟩
  have z4 : c4.size = 24 := by rw [← hc4]; show (((c3.setIfInBounds _ _).setIfInBounds _ _).setIfInBounds _ _).size = 24; simp only [Array.size_setIfInBounds]; exact z3
  have g4 : c4[0]? = some (.int .u8 (2 : Nat)) := by rw [← hc4]; show (((c3.setIfInBounds _ _).setIfInBounds _ _).setIfInBounds _ _)[0]? = _; rw [Array.getElem?_setIfInBounds_ne (by decide), Array.getElem?_setIfInBounds_ne (by decide), Array.getElem?_setIfInBounds_ne (by decide)]; exact g3
  obtain ⟨s5, hs5⟩ : ∃ s, n3E s4 = s := ⟨_, rfl⟩
  have l5s : s5.left.length < 100000 := by rw [← hs5]; exact n3E_len l4s
  obtain ⟨c5, hc5⟩ : ∃ c, spl c4 10 (n3V s4).toList = c := ⟨_, rfl⟩
  have z5 : c5.size = 24 := by rw [← hc5]; show (((c4.setIfInBounds _ _).setIfInBounds _ _).setIfInBounds _ _).size = 24; simp only [Array.size_setIfInBounds]; exact z4
  have g5 : c5[0]? = some (.int .u8 (2 : Nat)) := by rw [← hc5]; show (((c4.setIfInBounds _ _).setIfInBounds _ _).setIfInBounds _ _)[0]? = _; rw [Array.getElem?_setIfInBounds_ne (by decide), Array.getElem?_setIfInBounds_ne (by decide), Array.getElem?_setIfInBounds_ne (by decide)]; exact g4
  obtain ⟨s6, hs6⟩ : ∃ s, n3E s5 = s := ⟨_, rfl⟩
  have l6s : s6.left.length < 100000 := by rw [← hs6]; exact n3E_len l5s
  obtain ⟨c6, hc6⟩ : ∃ c, spl c5 13 (n3V s5).toList = c := ⟨_, rfl⟩
  have z6 : c6.size = 24 := by rw [← hc6]; show (((c5.setIfInBounds _ _).setIfInBounds _ _).setIfInBounds _ _).size = 24; simp only [Array.size_setIfInBounds]; exact z5
  have g6 : c6[0]? = some (.int .u8 (2 : Nat)) := by rw [← hc6]; show (((c5.setIfInBounds _ _).setIfInBounds _ _).setIfInBounds _ _)[0]? = _; rw [Array.getElem?_setIfInBounds_ne (by decide), Array.getElem?_setIfInBounds_ne (by decide), Array.getElem?_setIfInBounds_ne (by decide)]; exact g5
  obtain ⟨s7, hs7⟩ : ∃ s, nuE s6 = s := ⟨_, rfl⟩
  have l7s : s7.left.length < 100000 := by rw [← hs7]; exact nuE_lt l6s
  obtain ⟨c7, hc7⟩ : ∃ c, c6.setIfInBounds 16 (.int .i64 (sg (nuV s6.left))) = c := ⟨_, rfl⟩
  have z7 : c7.size = 24 := by rw [← hc7, Array.size_setIfInBounds]; exact z6
  have g7 : c7[0]? = some (.int .u8 (2 : Nat)) := by rw [← hc7, Array.getElem?_setIfInBounds_ne (by decide)]; exact g6
  obtain ⟨s8, hs8⟩ : ∃ s, nuE s7 = s := ⟨_, rfl⟩
  have l8s : s8.left.length < 100000 := by rw [← hs8]; exact nuE_lt l7s
  obtain ⟨c8, hc8⟩ : ∃ c, c7.setIfInBounds 17 (.int .i64 (sg (nuV s7.left))) = c := ⟨_, rfl⟩
  have z8 : c8.size = 24 := by rw [← hc8, Array.size_setIfInBounds]; exact z7
  have g8 : c8[0]? = some (.int .u8 (2 : Nat)) := by rw [← hc8, Array.getElem?_setIfInBounds_ne (by decide)]; exact g7
  have hend : s8 = sE := by rw [← hsE]; subst hs8 hs7 hs6 hs5 hs4 hs3 hs2 hs1; rfl
  have hfin : c8 = cmV CE := by rw [← hCE]; subst hc8 hc7 hc6 hc5 hc4 hc3 hc2 hc1 hc0 hs8 hs7 hs6 hs5 hs4 hs3 hs2 hs1; kernel_rfl
  rw [← hend] at hg
  clear hsE hCE hend
  replace hs1 := Lib.hid hs1
  replace hc1 := Lib.hid hc1
  replace hs2 := Lib.hid hs2
  replace hc2 := Lib.hid hc2
  replace hs3 := Lib.hid hs3
  replace hc3 := Lib.hid hc3
  replace hs4 := Lib.hid hs4
  replace hc4 := Lib.hid hc4
  replace hs5 := Lib.hid hs5
  replace hc5 := Lib.hid hc5
  replace hs6 := Lib.hid hs6
  replace hc6 := Lib.hid hc6
  replace hs7 := Lib.hid hs7
  replace hc7 := Lib.hid hc7
  replace hs8 := Lib.hid hs8
  replace hc8 := Lib.hid hc8
  go_enter Tryd.func20, Tryd.ntmps20
  go_upto_region 2 with (first
    | (refine wl_alloc 32 rfl rfl zero32 ?_; intro w1 R1 T1)
    | (refine wl_build 92 rfl rfl (built92 S) ?_)
    | (refine wl_box 92 rfl rfl rfl ?_; intro w2 E2 T2; have R2 := R1.below T2; have T2' := ups T1 T2 T1.size; have hB := RByte_any (s := ⟨S, false⟩) E2; rw [show (Ey.mk S false).left = S from rfl, hkk] at hB))
  go_upto_region 3 with (first
    | (go_at_call 38; (with_reducible refine hB.mono ?_); rintro e w3 ⟨rfl, E3, K3⟩; have T3 := K3.up T2' T1.size; have R3 := K3.box R2 (Nat.ne_of_lt R1.lt))
    | (refine wl_build 32 rfl rfl (builtk 2) ?_)
    | (refine wl_alloc 32 rfl rfl zero32 ?_; intro w4 X4 T4; have R4 := R3.below T4; have E4 : Rye w4 w1.heap.size _ := Box.below E3 T4; have T4' := ups T3 T4 T3.size)
    | (refine wl_store 32 X4 rfl rfl rfl rfl size32 rfl (by omega : 0 + 24 ≤ 24) (cmV_one _) (spl24 _ _) ?_; intro w5 Z0 K5; have T0 := K5.up T4' T3.size; have R0 := K5.box R4 (Nat.ne_of_lt R3.lt); have E0 : Rye w5 w1.heap.size _ := K5.box E4 (Nat.ne_of_lt (show w1.heap.size < w3.heap.size from E3.lt)); have y0 : w5.cell? ⟨w3.heap.size, 0, none⟩ = some (.int .u8 (2 : Nat)) := (Z0.cell 0).trans (cmV_0 _)))
  have hAE := T1.size
  have hAD := T3.size
  have l1 : w.heap.size < w1.heap.size := R1.lt
  have l2 : w1.heap.size < w3.heap.size := E3.lt
  clear R1 T1 E2 T2 R2 T2' hB E3 K3 T3 R3 X4 T4 R4 E4 T4' K5
  rw [hbe] at E0
  rw [hc0] at Z0
  have Y0 := y0
  clear y0 hc0 hs0
  have K0 := REye_int E0 (by omega)
  rw [hs1.out] at K0
  go_wp2_with (first
    | (go_at_call 40; (with_reducible refine K0.mono ?_); rintro e v0 ⟨rfl, F0, B0⟩; have Rb0 := B0.box R0 (Nat.ne_of_lt l1); have Zb0 := B0.box Z0 (Ne.symm (Nat.ne_of_lt l2)); have Tb0 := B0.up T0 hAE)
    | (refine wl_put 3 Zb0 rfl rfl rfl rfl rfl rfl size3 (by omega) hc1.out ?_; intro u0 Z1 D0; have R1 := D0.box Rb0 (by omega); have E1 : Rye u0 w1.heap.size s1 := D0.box F0 (Nat.ne_of_lt l2); have T1 := D0.up Tb0 hAD; have Y1 := (Z1.cell 0).trans g1; have K1 := REye_int E1 (by omega); rw [hs2.out] at K1)
    | (go_at_call 40; (with_reducible refine K1.mono ?_); rintro e v1 ⟨rfl, F1, B1⟩; have Rb1 := B1.box R1 (Nat.ne_of_lt l1); have Zb1 := B1.box Z1 (Ne.symm (Nat.ne_of_lt l2)); have Tb1 := B1.up T1 hAE)
    | (refine wl_put 3 Zb1 rfl rfl rfl rfl rfl rfl size3 (by omega) hc2.out ?_; intro u1 Z2 D1; have R2 := D1.box Rb1 (by omega); have E2 : Rye u1 w1.heap.size s2 := D1.box F1 (Nat.ne_of_lt l2); have T2 := D1.up Tb1 hAD; have Y2 := (Z2.cell 0).trans g2; have K2 := RFlagE_any E2; rw [hs3.out] at K2)
    | (go_at_call 41; (with_reducible refine K2.mono ?_); rintro e v2 ⟨rfl, F2, B2⟩; have Rb2 := B2.box R2 (Nat.ne_of_lt l1); have Zb2 := B2.box Z2 (Ne.symm (Nat.ne_of_lt l2)); have Tb2 := B2.up T2 hAE)
    | (refine wl_put 4 Zb2 rfl rfl rfl rfl rfl rfl size4 (by omega) hc3.out ?_; intro u2 Z3 D2; have R3 := D2.box Rb2 (by omega); have E3 : Rye u2 w1.heap.size s3 := D2.box F2 (Nat.ne_of_lt l2); have T3 := D2.up Tb2 hAD; have Y3 := (Z3.cell 0).trans g3; have K3 := getCurve_any E3 l3s; rw [hs4.out] at K3)
    | (go_at_call 42; (with_reducible refine K3.mono ?_); rintro e v3 ⟨rfl, F3, B3⟩; have Rb3 := B3.box R3 (Nat.ne_of_lt l1); have Zb3 := B3.box Z3 (Ne.symm (Nat.ne_of_lt l2)); have Tb3 := B3.up T3 hAE)
    | (refine wl_store 26 Zb3 rfl rfl rfl rfl size26 rfl (by omega) (n3V_one s3) hc4.out ?_; intro u3 Z4 D3; have R4 := D3.box Rb3 (by omega); have E4 : Rye u3 w1.heap.size s4 := D3.box F3 (Nat.ne_of_lt l2); have T4 := D3.up Tb3 hAD; have Y4 := (Z4.cell 0).trans g4; have K4 := getCurve_any E4 l4s; rw [hs5.out] at K4)
    | (go_at_call 42; (with_reducible refine K4.mono ?_); rintro e v4 ⟨rfl, F4, B4⟩; have Rb4 := B4.box R4 (Nat.ne_of_lt l1); have Zb4 := B4.box Z4 (Ne.symm (Nat.ne_of_lt l2)); have Tb4 := B4.up T4 hAE)
    | (refine wl_store 26 Zb4 rfl rfl rfl rfl size26 rfl (by omega) (n3V_one s4) hc5.out ?_; intro u4 Z5 D4; have R5 := D4.box Rb4 (by omega); have E5 : Rye u4 w1.heap.size s5 := D4.box F4 (Nat.ne_of_lt l2); have T5 := D4.up Tb4 hAD; have Y5 := (Z5.cell 0).trans g5; have K5 := getCurve_any E5 l5s; rw [hs6.out] at K5)
    | (go_at_call 42; (with_reducible refine K5.mono ?_); rintro e v5 ⟨rfl, F5, B5⟩; have Rb5 := B5.box R5 (Nat.ne_of_lt l1); have Zb5 := B5.box Z5 (Ne.symm (Nat.ne_of_lt l2)); have Tb5 := B5.up T5 hAE)
    | (refine wl_store 26 Zb5 rfl rfl rfl rfl size26 rfl (by omega) (n3V_one s5) hc6.out ?_; intro u5 Z6 D5; have R6 := D5.box Rb5 (by omega); have E6 : Rye u5 w1.heap.size s6 := D5.box F5 (Nat.ne_of_lt l2); have T6 := D5.up Tb5 hAD; have Y6 := (Z6.cell 0).trans g6; have K6 := REye_int E6 (by omega); rw [hs7.out] at K6)
    | (go_at_call 40; (with_reducible refine K6.mono ?_); rintro e v6 ⟨rfl, F6, B6⟩; have Rb6 := B6.box R6 (Nat.ne_of_lt l1); have Zb6 := B6.box Z6 (Ne.symm (Nat.ne_of_lt l2)); have Tb6 := B6.up T6 hAE)
    | (refine wl_put 3 Zb6 rfl rfl rfl rfl rfl rfl size3 (by omega) hc7.out ?_; intro u6 Z7 D6; have R7 := D6.box Rb6 (by omega); have E7 : Rye u6 w1.heap.size s7 := D6.box F6 (Nat.ne_of_lt l2); have T7 := D6.up Tb6 hAD; have Y7 := (Z7.cell 0).trans g7; have K7 := REye_int E7 (by omega); rw [hs8.out] at K7)
    | (go_at_call 40; (with_reducible refine K7.mono ?_); rintro e v7 ⟨rfl, F7, B7⟩; have Rb7 := B7.box R7 (Nat.ne_of_lt l1); have Zb7 := B7.box Z7 (Ne.symm (Nat.ne_of_lt l2)); have Tb7 := B7.up T7 hAE)
    | (refine wl_put 3 Zb7 rfl rfl rfl rfl rfl rfl size3 (by omega) hc8.out ?_; intro u7 Z8 D7; have R8 := D7.box Rb7 (by omega); have E8 : Rye u7 w1.heap.size s8 := D7.box F7 (Nat.ne_of_lt l2); have T8 := D7.up Tb7 hAD; have Y8 := (Z8.cell 0).trans g8; have hD := done_yes E8 hg)
    | (go_at_call 43; (with_reducible refine hD.mono ?_); rintro e w8 ⟨rfl, rfl⟩)
    | (refine wl_load 32 Z8 rfl rfl rfl Tryd.underlying32 rfl size32 (by omega) (all24 hfin) ?_)
    | (refine wl_store 32 R8 rfl rfl rfl rfl size32 rfl (by omega : 0 + 24 ≤ 24) (cmV_one _) (spl24 _ _) ?_; intro wA RA KA))
  refine bodyPost_ret (v := .tuple #[.agg (cmV CE), .int .i64 0]) ?_ rfl ⟨rfl, KA.up T8 (Nat.le_refl _)⟩
  exact results_cell_two rfl _ _ _ _ _ _ _ rfl rfl RA Tryd.underlying32 rfl size32
set_option maxHeartbeats 16000000 in
set_option maxRecDepth 100000 in
theorem rrdc_2n {S R : List UInt8} {sE : Ey} {CE : Cm} (w : World) (hkk : byV S = 2) (hbe : byE ⟨S, false⟩ = ⟨R, false⟩) (hlen : R.length < 100000) (hsE : endL (tyC 2) ⟨R, false⟩ = sE) (hCE : mkC 2 (decL (tyC 2) ⟨R, false⟩) = CE) (hg : ¬ (sE.bad = false ∧ sE.left = [])) :
    Calls Tryd.prog 20 #[.string (bs S)] w fun e w' => e = .returned (.tuple #[.agg (cmV (Cm.zero 0)), .int .i64 140]) ∧ Below w.heap.size w w' := by
  obtain ⟨s0, hs0⟩ : ∃ s : Ey, ⟨R, false⟩ = s := ⟨_, rfl⟩
  have l0s : s0.left.length < 100000 := by rw [← hs0]; exact hlen
  rw [hs0] at hbe hsE hCE
  obtain ⟨c0, hc0⟩ : ∃ c, cmV (Cm.zero 2) = c := ⟨_, rfl⟩
  have z0 : c0.size = 24 := by rw [← hc0]; rfl
  have g0 : c0[0]? = some (.int .u8 (2 : Nat)) := by rw [← hc0]; rfl
  obtain ⟨s1, hs1⟩ : ∃ s, nuE s0 = s := ⟨_, rfl⟩
  have l1s : s1.left.length < 100000 := by rw [← hs1]; exact nuE_lt l0s
  obtain ⟨c1, hc1⟩ : ∃ c, c0.setIfInBounds 4 (.int .i64 (sg (nuV s0.left))) = c := ⟨_, rfl⟩
  have z1 : c1.size = 24 := by rw [← hc1, Array.size_setIfInBounds]; exact z0
  have g1 : c1[0]? = some (.int .u8 (2 : Nat)) := by rw [← hc1, Array.getElem?_setIfInBounds_ne (by decide)]; exact g0
  obtain ⟨s2, hs2⟩ : ∃ s, nuE s1 = s := ⟨_, rfl⟩
  have l2s : s2.left.length < 100000 := by rw [← hs2]; exact nuE_lt l1s
  obtain ⟨c2, hc2⟩ : ∃ c, c1.setIfInBounds 5 (.int .i64 (sg (nuV s1.left))) = c := ⟨_, rfl⟩
  have z2 : c2.size = 24 := by rw [← hc2, Array.size_setIfInBounds]; exact z1
  have g2 : c2[0]? = some (.int .u8 (2 : Nat)) := by rw [← hc2, Array.getElem?_setIfInBounds_ne (by decide)]; exact g1
  obtain ⟨s3, hs3⟩ : ∃ s, flE s2 = s := ⟨_, rfl⟩
  have l3s : s3.left.length < 100000 := by rw [← hs3]; exact flE_lt l2s
  obtain ⟨c3, hc3⟩ : ∃ c, c2.setIfInBounds 6 (.bool (flV s2.left)) = c := ⟨_, rfl⟩
  have z3 : c3.size = 24 := by rw [← hc3, Array.size_setIfInBounds]; exact z2
  have g3 : c3[0]? = some (.int .u8 (2 : Nat)) := by rw [← hc3, Array.getElem?_setIfInBounds_ne (by decide)]; exact g2
  obtain ⟨s4, hs4⟩ : ∃ s, n3E s3 = s := ⟨_, rfl⟩
  have l4s : s4.left.length < 100000 := by rw [← hs4]; exact n3E_len l3s
  obtain ⟨c4, hc4⟩ : ∃ c, spl c3 7 (n3V s3).toList = c := ⟨_, rfl⟩
  have z4 : c4.size = 24 := by rw [← hc4]; show (((c3.setIfInBounds _ _).setIfInBounds _ _).setIfInBounds _ _).size = 24; simp only [Array.size_setIfInBounds]; exact z3
  have g4 : c4[0]? = some (.int .u8 (2 : Nat)) := by rw [← hc4]; show (((c3.setIfInBounds _ _).setIfInBounds _ _).setIfInBounds _ _)[0]? = _; rw [Array.getElem?_setIfInBounds_ne (by decide), Array.getElem?_setIfInBounds_ne (by decide), Array.getElem?_setIfInBounds_ne (by decide)]; exact g3
  obtain ⟨s5, hs5⟩ : ∃ s, n3E s4 = s := ⟨_, rfl⟩
  have l5s : s5.left.length < 100000 := by rw [← hs5]; exact n3E_len l4s
  obtain ⟨c5, hc5⟩ : ∃ c, spl c4 10 (n3V s4).toList = c := ⟨_, rfl⟩
  have z5 : c5.size = 24 := by rw [← hc5]; show (((c4.setIfInBounds _ _).setIfInBounds _ _).setIfInBounds _ _).size = 24; simp only [Array.size_setIfInBounds]; exact z4
  have g5 : c5[0]? = some (.int .u8 (2 : Nat)) := by rw [← hc5]; show (((c4.setIfInBounds _ _).setIfInBounds _ _).setIfInBounds _ _)[0]? = _; rw [Array.getElem?_setIfInBounds_ne (by decide), Array.getElem?_setIfInBounds_ne (by decide), Array.getElem?_setIfInBounds_ne (by decide)]; exact g4
  obtain ⟨s6, hs6⟩ : ∃ s, n3E s5 = s := ⟨_, rfl⟩
  have l6s : s6.left.length < 100000 := by rw [← hs6]; exact n3E_len l5s
  obtain ⟨c6, hc6⟩ : ∃ c, spl c5 13 (n3V s5).toList = c := ⟨_, rfl⟩
  have z6 : c6.size = 24 := by rw [← hc6]; show (((c5.setIfInBounds _ _).setIfInBounds _ _).setIfInBounds _ _).size = 24; simp only [Array.size_setIfInBounds]; exact z5
  have g6 : c6[0]? = some (.int .u8 (2 : Nat)) := by rw [← hc6]; show (((c5.setIfInBounds _ _).setIfInBounds _ _).setIfInBounds _ _)[0]? = _; rw [Array.getElem?_setIfInBounds_ne (by decide), Array.getElem?_setIfInBounds_ne (by decide), Array.getElem?_setIfInBounds_ne (by decide)]; exact g5
  obtain ⟨s7, hs7⟩ : ∃ s, nuE s6 = s := ⟨_, rfl⟩
  have l7s : s7.left.length < 100000 := by rw [← hs7]; exact nuE_lt l6s
  obtain ⟨c7, hc7⟩ : ∃ c, c6.setIfInBounds 16 (.int .i64 (sg (nuV s6.left))) = c := ⟨_, rfl⟩
  have z7 : c7.size = 24 := by rw [← hc7, Array.size_setIfInBounds]; exact z6
  have g7 : c7[0]? = some (.int .u8 (2 : Nat)) := by rw [← hc7, Array.getElem?_setIfInBounds_ne (by decide)]; exact g6
  obtain ⟨s8, hs8⟩ : ∃ s, nuE s7 = s := ⟨_, rfl⟩
  have l8s : s8.left.length < 100000 := by rw [← hs8]; exact nuE_lt l7s
  obtain ⟨c8, hc8⟩ : ∃ c, c7.setIfInBounds 17 (.int .i64 (sg (nuV s7.left))) = c := ⟨_, rfl⟩
  have z8 : c8.size = 24 := by rw [← hc8, Array.size_setIfInBounds]; exact z7
  have g8 : c8[0]? = some (.int .u8 (2 : Nat)) := by rw [← hc8, Array.getElem?_setIfInBounds_ne (by decide)]; exact g7
  have hend : s8 = sE := by rw [← hsE]; subst hs8 hs7 hs6 hs5 hs4 hs3 hs2 hs1; rfl
  rw [← hend] at hg
  clear hsE hCE hend
  replace hs1 := Lib.hid hs1
  replace hc1 := Lib.hid hc1
  replace hs2 := Lib.hid hs2
  replace hc2 := Lib.hid hc2
  replace hs3 := Lib.hid hs3
  replace hc3 := Lib.hid hc3
  replace hs4 := Lib.hid hs4
  replace hc4 := Lib.hid hc4
  replace hs5 := Lib.hid hs5
  replace hc5 := Lib.hid hc5
  replace hs6 := Lib.hid hs6
  replace hc6 := Lib.hid hc6
  replace hs7 := Lib.hid hs7
  replace hc7 := Lib.hid hc7
  replace hs8 := Lib.hid hs8
  replace hc8 := Lib.hid hc8
  go_enter Tryd.func20, Tryd.ntmps20
  go_upto_region 2 with (first
    | (refine wl_alloc 32 rfl rfl zero32 ?_; intro w1 R1 T1)
    | (refine wl_build 92 rfl rfl (built92 S) ?_)
    | (refine wl_box 92 rfl rfl rfl ?_; intro w2 E2 T2; have R2 := R1.below T2; have T2' := ups T1 T2 T1.size; have hB := RByte_any (s := ⟨S, false⟩) E2; rw [show (Ey.mk S false).left = S from rfl, hkk] at hB))
  go_upto_region 3 with (first
    | (go_at_call 38; (with_reducible refine hB.mono ?_); rintro e w3 ⟨rfl, E3, K3⟩; have T3 := K3.up T2' T1.size; have R3 := K3.box R2 (Nat.ne_of_lt R1.lt))
    | (refine wl_build 32 rfl rfl (builtk 2) ?_)
    | (refine wl_alloc 32 rfl rfl zero32 ?_; intro w4 X4 T4; have R4 := R3.below T4; have E4 : Rye w4 w1.heap.size _ := Box.below E3 T4; have T4' := ups T3 T4 T3.size)
    | (refine wl_store 32 X4 rfl rfl rfl rfl size32 rfl (by omega : 0 + 24 ≤ 24) (cmV_one _) (spl24 _ _) ?_; intro w5 Z0 K5; have T0 := K5.up T4' T3.size; have R0 := K5.box R4 (Nat.ne_of_lt R3.lt); have E0 : Rye w5 w1.heap.size _ := K5.box E4 (Nat.ne_of_lt (show w1.heap.size < w3.heap.size from E3.lt)); have y0 : w5.cell? ⟨w3.heap.size, 0, none⟩ = some (.int .u8 (2 : Nat)) := (Z0.cell 0).trans (cmV_0 _)))
  have hAE := T1.size
  have hAD := T3.size
  have l1 : w.heap.size < w1.heap.size := R1.lt
  have l2 : w1.heap.size < w3.heap.size := E3.lt
  clear R1 T1 E2 T2 R2 T2' hB E3 K3 T3 R3 X4 T4 R4 E4 T4' K5
  rw [hbe] at E0
  rw [hc0] at Z0
  have Y0 := y0
  clear y0 hc0 hs0
  have K0 := REye_int E0 (by omega)
  rw [hs1.out] at K0
  go_wp2_with (first
    | (go_at_call 40; (with_reducible refine K0.mono ?_); rintro e v0 ⟨rfl, F0, B0⟩; have Rb0 := B0.box R0 (Nat.ne_of_lt l1); have Zb0 := B0.box Z0 (Ne.symm (Nat.ne_of_lt l2)); have Tb0 := B0.up T0 hAE)
    | (refine wl_put 3 Zb0 rfl rfl rfl rfl rfl rfl size3 (by omega) hc1.out ?_; intro u0 Z1 D0; have R1 := D0.box Rb0 (by omega); have E1 : Rye u0 w1.heap.size s1 := D0.box F0 (Nat.ne_of_lt l2); have T1 := D0.up Tb0 hAD; have Y1 := (Z1.cell 0).trans g1; have K1 := REye_int E1 (by omega); rw [hs2.out] at K1)
    | (go_at_call 40; (with_reducible refine K1.mono ?_); rintro e v1 ⟨rfl, F1, B1⟩; have Rb1 := B1.box R1 (Nat.ne_of_lt l1); have Zb1 := B1.box Z1 (Ne.symm (Nat.ne_of_lt l2)); have Tb1 := B1.up T1 hAE)
    | (refine wl_put 3 Zb1 rfl rfl rfl rfl rfl rfl size3 (by omega) hc2.out ?_; intro u1 Z2 D1; have R2 := D1.box Rb1 (by omega); have E2 : Rye u1 w1.heap.size s2 := D1.box F1 (Nat.ne_of_lt l2); have T2 := D1.up Tb1 hAD; have Y2 := (Z2.cell 0).trans g2; have K2 := RFlagE_any E2; rw [hs3.out] at K2)
    | (go_at_call 41; (with_reducible refine K2.mono ?_); rintro e v2 ⟨rfl, F2, B2⟩; have Rb2 := B2.box R2 (Nat.ne_of_lt l1); have Zb2 := B2.box Z2 (Ne.symm (Nat.ne_of_lt l2)); have Tb2 := B2.up T2 hAE)
    | (refine wl_put 4 Zb2 rfl rfl rfl rfl rfl rfl size4 (by omega) hc3.out ?_; intro u2 Z3 D2; have R3 := D2.box Rb2 (by omega); have E3 : Rye u2 w1.heap.size s3 := D2.box F2 (Nat.ne_of_lt l2); have T3 := D2.up Tb2 hAD; have Y3 := (Z3.cell 0).trans g3; have K3 := getCurve_any E3 l3s; rw [hs4.out] at K3)
    | (go_at_call 42; (with_reducible refine K3.mono ?_); rintro e v3 ⟨rfl, F3, B3⟩; have Rb3 := B3.box R3 (Nat.ne_of_lt l1); have Zb3 := B3.box Z3 (Ne.symm (Nat.ne_of_lt l2)); have Tb3 := B3.up T3 hAE)
    | (refine wl_store 26 Zb3 rfl rfl rfl rfl size26 rfl (by omega) (n3V_one s3) hc4.out ?_; intro u3 Z4 D3; have R4 := D3.box Rb3 (by omega); have E4 : Rye u3 w1.heap.size s4 := D3.box F3 (Nat.ne_of_lt l2); have T4 := D3.up Tb3 hAD; have Y4 := (Z4.cell 0).trans g4; have K4 := getCurve_any E4 l4s; rw [hs5.out] at K4)
    | (go_at_call 42; (with_reducible refine K4.mono ?_); rintro e v4 ⟨rfl, F4, B4⟩; have Rb4 := B4.box R4 (Nat.ne_of_lt l1); have Zb4 := B4.box Z4 (Ne.symm (Nat.ne_of_lt l2)); have Tb4 := B4.up T4 hAE)
    | (refine wl_store 26 Zb4 rfl rfl rfl rfl size26 rfl (by omega) (n3V_one s4) hc5.out ?_; intro u4 Z5 D4; have R5 := D4.box Rb4 (by omega); have E5 : Rye u4 w1.heap.size s5 := D4.box F4 (Nat.ne_of_lt l2); have T5 := D4.up Tb4 hAD; have Y5 := (Z5.cell 0).trans g5; have K5 := getCurve_any E5 l5s; rw [hs6.out] at K5)
    | (go_at_call 42; (with_reducible refine K5.mono ?_); rintro e v5 ⟨rfl, F5, B5⟩; have Rb5 := B5.box R5 (Nat.ne_of_lt l1); have Zb5 := B5.box Z5 (Ne.symm (Nat.ne_of_lt l2)); have Tb5 := B5.up T5 hAE)
    | (refine wl_store 26 Zb5 rfl rfl rfl rfl size26 rfl (by omega) (n3V_one s5) hc6.out ?_; intro u5 Z6 D5; have R6 := D5.box Rb5 (by omega); have E6 : Rye u5 w1.heap.size s6 := D5.box F5 (Nat.ne_of_lt l2); have T6 := D5.up Tb5 hAD; have Y6 := (Z6.cell 0).trans g6; have K6 := REye_int E6 (by omega); rw [hs7.out] at K6)
    | (go_at_call 40; (with_reducible refine K6.mono ?_); rintro e v6 ⟨rfl, F6, B6⟩; have Rb6 := B6.box R6 (Nat.ne_of_lt l1); have Zb6 := B6.box Z6 (Ne.symm (Nat.ne_of_lt l2)); have Tb6 := B6.up T6 hAE)
    | (refine wl_put 3 Zb6 rfl rfl rfl rfl rfl rfl size3 (by omega) hc7.out ?_; intro u6 Z7 D6; have R7 := D6.box Rb6 (by omega); have E7 : Rye u6 w1.heap.size s7 := D6.box F6 (Nat.ne_of_lt l2); have T7 := D6.up Tb6 hAD; have Y7 := (Z7.cell 0).trans g7; have K7 := REye_int E7 (by omega); rw [hs8.out] at K7)
    | (go_at_call 40; (with_reducible refine K7.mono ?_); rintro e v7 ⟨rfl, F7, B7⟩; have Rb7 := B7.box R7 (Nat.ne_of_lt l1); have Zb7 := B7.box Z7 (Ne.symm (Nat.ne_of_lt l2)); have Tb7 := B7.up T7 hAE)
    | (refine wl_put 3 Zb7 rfl rfl rfl rfl rfl rfl size3 (by omega) hc8.out ?_; intro u7 Z8 D7; have R8 := D7.box Rb7 (by omega); have E8 : Rye u7 w1.heap.size s8 := D7.box F7 (Nat.ne_of_lt l2); have T8 := D7.up Tb7 hAD; have Y8 := (Z8.cell 0).trans g8; have hD := done_not E8 hg)
    | (go_at_call 43; (with_reducible refine hD.mono ?_); rintro e w8 ⟨rfl, rfl⟩)
    | (refine wl_build 32 rfl rfl built32_0 ?_)
    | (refine wl_store 32 R8 rfl rfl rfl rfl size32 rfl (by omega : 0 + 24 ≤ 24) (cmV_one _) (spl24 _ _) ?_; intro wA RA KA))
  refine bodyPost_ret (v := .tuple #[.agg (cmV (Cm.zero 0)), .int .i64 140]) ?_ rfl ⟨rfl, KA.up T8 (Nat.le_refl _)⟩
  exact results_cell_two rfl _ _ _ _ _ _ _ rfl rfl RA Tryd.underlying32 rfl size32
set_option maxHeartbeats 16000000 in
set_option maxRecDepth 100000 in
theorem rrdc_3y {S R : List UInt8} {sE : Ey} {CE : Cm} (w : World) (hkk : byV S = 3) (hbe : byE ⟨S, false⟩ = ⟨R, false⟩) (hlen : R.length < 100000) (hsE : endL (tyC 3) ⟨R, false⟩ = sE) (hCE : mkC 3 (decL (tyC 3) ⟨R, false⟩) = CE) (hg : sE.bad = false ∧ sE.left = []) :
    Calls Tryd.prog 20 #[.string (bs S)] w fun e w' => e = .returned (.tuple #[.agg (cmV CE), .int .i64 0]) ∧ Below w.heap.size w w' := by
  obtain ⟨s0, hs0⟩ : ∃ s : Ey, ⟨R, false⟩ = s := ⟨_, rfl⟩
  have l0s : s0.left.length < 100000 := by rw [← hs0]; exact hlen
  rw [hs0] at hbe hsE hCE
  obtain ⟨c0, hc0⟩ : ∃ c, cmV (Cm.zero 3) = c := ⟨_, rfl⟩
  have z0 : c0.size = 24 := by rw [← hc0]; rfl
  have g0 : c0[0]? = some (.int .u8 (3 : Nat)) := by rw [← hc0]; rfl
  obtain ⟨s1, hs1⟩ : ∃ s, nuE s0 = s := ⟨_, rfl⟩
  have l1s : s1.left.length < 100000 := by rw [← hs1]; exact nuE_lt l0s
  obtain ⟨c1, hc1⟩ : ∃ c, c0.setIfInBounds 4 (.int .i64 (sg (nuV s0.left))) = c := ⟨_, rfl⟩
  have z1 : c1.size = 24 := by rw [← hc1, Array.size_setIfInBounds]; exact z0
  have g1 : c1[0]? = some (.int .u8 (3 : Nat)) := by rw [← hc1, Array.getElem?_setIfInBounds_ne (by decide)]; exact g0
  obtain ⟨s2, hs2⟩ : ∃ s, n3E s1 = s := ⟨_, rfl⟩
  have l2s : s2.left.length < 100000 := by rw [← hs2]; exact n3E_len l1s
  obtain ⟨c2, hc2⟩ : ∃ c, spl c1 7 (n3V s1).toList = c := ⟨_, rfl⟩
  have z2 : c2.size = 24 := by rw [← hc2]; show (((c1.setIfInBounds _ _).setIfInBounds _ _).setIfInBounds _ _).size = 24; simp only [Array.size_setIfInBounds]; exact z1
  have g2 : c2[0]? = some (.int .u8 (3 : Nat)) := by rw [← hc2]; show (((c1.setIfInBounds _ _).setIfInBounds _ _).setIfInBounds _ _)[0]? = _; rw [Array.getElem?_setIfInBounds_ne (by decide), Array.getElem?_setIfInBounds_ne (by decide), Array.getElem?_setIfInBounds_ne (by decide)]; exact g1
  obtain ⟨s3, hs3⟩ : ∃ s, n3E s2 = s := ⟨_, rfl⟩
  have l3s : s3.left.length < 100000 := by rw [← hs3]; exact n3E_len l2s
  obtain ⟨c3, hc3⟩ : ∃ c, spl c2 10 (n3V s2).toList = c := ⟨_, rfl⟩
  have z3 : c3.size = 24 := by rw [← hc3]; show (((c2.setIfInBounds _ _).setIfInBounds _ _).setIfInBounds _ _).size = 24; simp only [Array.size_setIfInBounds]; exact z2
  have g3 : c3[0]? = some (.int .u8 (3 : Nat)) := by rw [← hc3]; show (((c2.setIfInBounds _ _).setIfInBounds _ _).setIfInBounds _ _)[0]? = _; rw [Array.getElem?_setIfInBounds_ne (by decide), Array.getElem?_setIfInBounds_ne (by decide), Array.getElem?_setIfInBounds_ne (by decide)]; exact g2
  obtain ⟨s4, hs4⟩ : ∃ s, n3E s3 = s := ⟨_, rfl⟩
  have l4s : s4.left.length < 100000 := by rw [← hs4]; exact n3E_len l3s
  obtain ⟨c4, hc4⟩ : ∃ c, spl c3 13 (n3V s3).toList = c := ⟨_, rfl⟩
  have z4 : c4.size = 24 := by rw [← hc4]; show (((c3.setIfInBounds _ _).setIfInBounds _ _).setIfInBounds _ _).size = 24; simp only [Array.size_setIfInBounds]; exact z3
  have g4 : c4[0]? = some (.int .u8 (3 : Nat)) := by rw [← hc4]; show (((c3.setIfInBounds _ _).setIfInBounds _ _).setIfInBounds _ _)[0]? = _; rw [Array.getElem?_setIfInBounds_ne (by decide), Array.getElem?_setIfInBounds_ne (by decide), Array.getElem?_setIfInBounds_ne (by decide)]; exact g3
  have hend : s4 = sE := by rw [← hsE]; subst hs4 hs3 hs2 hs1; rfl
  have hfin : c4 = cmV CE := by rw [← hCE]; subst hc4 hc3 hc2 hc1 hc0 hs4 hs3 hs2 hs1; kernel_rfl
  rw [← hend] at hg
  clear hsE hCE hend
  replace hs1 := Lib.hid hs1
  replace hc1 := Lib.hid hc1
  replace hs2 := Lib.hid hs2
  replace hc2 := Lib.hid hc2
  replace hs3 := Lib.hid hs3
  replace hc3 := Lib.hid hc3
  replace hs4 := Lib.hid hs4
  replace hc4 := Lib.hid hc4
  go_enter Tryd.func20, Tryd.ntmps20
  go_upto_region 2 with (first
    | (refine wl_alloc 32 rfl rfl zero32 ?_; intro w1 R1 T1)
    | (refine wl_build 92 rfl rfl (built92 S) ?_)
    | (refine wl_box 92 rfl rfl rfl ?_; intro w2 E2 T2; have R2 := R1.below T2; have T2' := ups T1 T2 T1.size; have hB := RByte_any (s := ⟨S, false⟩) E2; rw [show (Ey.mk S false).left = S from rfl, hkk] at hB))
  go_upto_region 3 with (first
    | (go_at_call 38; (with_reducible refine hB.mono ?_); rintro e w3 ⟨rfl, E3, K3⟩; have T3 := K3.up T2' T1.size; have R3 := K3.box R2 (Nat.ne_of_lt R1.lt))
    | (refine wl_build 32 rfl rfl (builtk 3) ?_)
    | (refine wl_alloc 32 rfl rfl zero32 ?_; intro w4 X4 T4; have R4 := R3.below T4; have E4 : Rye w4 w1.heap.size _ := Box.below E3 T4; have T4' := ups T3 T4 T3.size)
    | (refine wl_store 32 X4 rfl rfl rfl rfl size32 rfl (by omega : 0 + 24 ≤ 24) (cmV_one _) (spl24 _ _) ?_; intro w5 Z0 K5; have T0 := K5.up T4' T3.size; have R0 := K5.box R4 (Nat.ne_of_lt R3.lt); have E0 : Rye w5 w1.heap.size _ := K5.box E4 (Nat.ne_of_lt (show w1.heap.size < w3.heap.size from E3.lt)); have y0 : w5.cell? ⟨w3.heap.size, 0, none⟩ = some (.int .u8 (3 : Nat)) := (Z0.cell 0).trans (cmV_0 _)))
  have hAE := T1.size
  have hAD := T3.size
  have l1 : w.heap.size < w1.heap.size := R1.lt
  have l2 : w1.heap.size < w3.heap.size := E3.lt
  clear R1 T1 E2 T2 R2 T2' hB E3 K3 T3 R3 X4 T4 R4 E4 T4' K5
  rw [hbe] at E0
  rw [hc0] at Z0
  have Y0 := y0
  clear y0 hc0 hs0
  have K0 := REye_int E0 (by omega)
  rw [hs1.out] at K0
  go_wp2_with (first
    | (go_at_call 40; (with_reducible refine K0.mono ?_); rintro e v0 ⟨rfl, F0, B0⟩; have Rb0 := B0.box R0 (Nat.ne_of_lt l1); have Zb0 := B0.box Z0 (Ne.symm (Nat.ne_of_lt l2)); have Tb0 := B0.up T0 hAE)
    | (refine wl_put 3 Zb0 rfl rfl rfl rfl rfl rfl size3 (by omega) hc1.out ?_; intro u0 Z1 D0; have R1 := D0.box Rb0 (by omega); have E1 : Rye u0 w1.heap.size s1 := D0.box F0 (Nat.ne_of_lt l2); have T1 := D0.up Tb0 hAD; have Y1 := (Z1.cell 0).trans g1; have K1 := getCurve_any E1 l1s; rw [hs2.out] at K1)
    | (go_at_call 42; (with_reducible refine K1.mono ?_); rintro e v1 ⟨rfl, F1, B1⟩; have Rb1 := B1.box R1 (Nat.ne_of_lt l1); have Zb1 := B1.box Z1 (Ne.symm (Nat.ne_of_lt l2)); have Tb1 := B1.up T1 hAE)
    | (refine wl_store 26 Zb1 rfl rfl rfl rfl size26 rfl (by omega) (n3V_one s1) hc2.out ?_; intro u1 Z2 D1; have R2 := D1.box Rb1 (by omega); have E2 : Rye u1 w1.heap.size s2 := D1.box F1 (Nat.ne_of_lt l2); have T2 := D1.up Tb1 hAD; have Y2 := (Z2.cell 0).trans g2; have K2 := getCurve_any E2 l2s; rw [hs3.out] at K2)
    | (go_at_call 42; (with_reducible refine K2.mono ?_); rintro e v2 ⟨rfl, F2, B2⟩; have Rb2 := B2.box R2 (Nat.ne_of_lt l1); have Zb2 := B2.box Z2 (Ne.symm (Nat.ne_of_lt l2)); have Tb2 := B2.up T2 hAE)
    | (refine wl_store 26 Zb2 rfl rfl rfl rfl size26 rfl (by omega) (n3V_one s2) hc3.out ?_; intro u2 Z3 D2; have R3 := D2.box Rb2 (by omega); have E3 : Rye u2 w1.heap.size s3 := D2.box F2 (Nat.ne_of_lt l2); have T3 := D2.up Tb2 hAD; have Y3 := (Z3.cell 0).trans g3; have K3 := getCurve_any E3 l3s; rw [hs4.out] at K3)
    | (go_at_call 42; (with_reducible refine K3.mono ?_); rintro e v3 ⟨rfl, F3, B3⟩; have Rb3 := B3.box R3 (Nat.ne_of_lt l1); have Zb3 := B3.box Z3 (Ne.symm (Nat.ne_of_lt l2)); have Tb3 := B3.up T3 hAE)
    | (refine wl_store 26 Zb3 rfl rfl rfl rfl size26 rfl (by omega) (n3V_one s3) hc4.out ?_; intro u3 Z4 D3; have R4 := D3.box Rb3 (by omega); have E4 : Rye u3 w1.heap.size s4 := D3.box F3 (Nat.ne_of_lt l2); have T4 := D3.up Tb3 hAD; have Y4 := (Z4.cell 0).trans g4; have hD := done_yes E4 hg)
    | (go_at_call 43; (with_reducible refine hD.mono ?_); rintro e w8 ⟨rfl, rfl⟩)
    | (refine wl_load 32 Z4 rfl rfl rfl Tryd.underlying32 rfl size32 (by omega) (all24 hfin) ?_)
    | (refine wl_store 32 R4 rfl rfl rfl rfl size32 rfl (by omega : 0 + 24 ≤ 24) (cmV_one _) (spl24 _ _) ?_; intro wA RA KA))
  refine bodyPost_ret (v := .tuple #[.agg (cmV CE), .int .i64 0]) ?_ rfl ⟨rfl, KA.up T4 (Nat.le_refl _)⟩
  exact results_cell_two rfl _ _ _ _ _ _ _ rfl rfl RA Tryd.underlying32 rfl size32
set_option maxHeartbeats 16000000 in
set_option maxRecDepth 100000 in
theorem rrdc_3n {S R : List UInt8} {sE : Ey} {CE : Cm} (w : World) (hkk : byV S = 3) (hbe : byE ⟨S, false⟩ = ⟨R, false⟩) (hlen : R.length < 100000) (hsE : endL (tyC 3) ⟨R, false⟩ = sE) (hCE : mkC 3 (decL (tyC 3) ⟨R, false⟩) = CE) (hg : ¬ (sE.bad = false ∧ sE.left = [])) :
    Calls Tryd.prog 20 #[.string (bs S)] w fun e w' => e = .returned (.tuple #[.agg (cmV (Cm.zero 0)), .int .i64 140]) ∧ Below w.heap.size w w' := by
  obtain ⟨s0, hs0⟩ : ∃ s : Ey, ⟨R, false⟩ = s := ⟨_, rfl⟩
  have l0s : s0.left.length < 100000 := by rw [← hs0]; exact hlen
  rw [hs0] at hbe hsE hCE
  obtain ⟨c0, hc0⟩ : ∃ c, cmV (Cm.zero 3) = c := ⟨_, rfl⟩
  have z0 : c0.size = 24 := by rw [← hc0]; rfl
  have g0 : c0[0]? = some (.int .u8 (3 : Nat)) := by rw [← hc0]; rfl
  obtain ⟨s1, hs1⟩ : ∃ s, nuE s0 = s := ⟨_, rfl⟩
  have l1s : s1.left.length < 100000 := by rw [← hs1]; exact nuE_lt l0s
  obtain ⟨c1, hc1⟩ : ∃ c, c0.setIfInBounds 4 (.int .i64 (sg (nuV s0.left))) = c := ⟨_, rfl⟩
  have z1 : c1.size = 24 := by rw [← hc1, Array.size_setIfInBounds]; exact z0
  have g1 : c1[0]? = some (.int .u8 (3 : Nat)) := by rw [← hc1, Array.getElem?_setIfInBounds_ne (by decide)]; exact g0
  obtain ⟨s2, hs2⟩ : ∃ s, n3E s1 = s := ⟨_, rfl⟩
  have l2s : s2.left.length < 100000 := by rw [← hs2]; exact n3E_len l1s
  obtain ⟨c2, hc2⟩ : ∃ c, spl c1 7 (n3V s1).toList = c := ⟨_, rfl⟩
  have z2 : c2.size = 24 := by rw [← hc2]; show (((c1.setIfInBounds _ _).setIfInBounds _ _).setIfInBounds _ _).size = 24; simp only [Array.size_setIfInBounds]; exact z1
  have g2 : c2[0]? = some (.int .u8 (3 : Nat)) := by rw [← hc2]; show (((c1.setIfInBounds _ _).setIfInBounds _ _).setIfInBounds _ _)[0]? = _; rw [Array.getElem?_setIfInBounds_ne (by decide), Array.getElem?_setIfInBounds_ne (by decide), Array.getElem?_setIfInBounds_ne (by decide)]; exact g1
  obtain ⟨s3, hs3⟩ : ∃ s, n3E s2 = s := ⟨_, rfl⟩
  have l3s : s3.left.length < 100000 := by rw [← hs3]; exact n3E_len l2s
  obtain ⟨c3, hc3⟩ : ∃ c, spl c2 10 (n3V s2).toList = c := ⟨_, rfl⟩
  have z3 : c3.size = 24 := by rw [← hc3]; show (((c2.setIfInBounds _ _).setIfInBounds _ _).setIfInBounds _ _).size = 24; simp only [Array.size_setIfInBounds]; exact z2
  have g3 : c3[0]? = some (.int .u8 (3 : Nat)) := by rw [← hc3]; show (((c2.setIfInBounds _ _).setIfInBounds _ _).setIfInBounds _ _)[0]? = _; rw [Array.getElem?_setIfInBounds_ne (by decide), Array.getElem?_setIfInBounds_ne (by decide), Array.getElem?_setIfInBounds_ne (by decide)]; exact g2
  obtain ⟨s4, hs4⟩ : ∃ s, n3E s3 = s := ⟨_, rfl⟩
  have l4s : s4.left.length < 100000 := by rw [← hs4]; exact n3E_len l3s
  obtain ⟨c4, hc4⟩ : ∃ c, spl c3 13 (n3V s3).toList = c := ⟨_, rfl⟩
  have z4 : c4.size = 24 := by rw [← hc4]; show (((c3.setIfInBounds _ _).setIfInBounds _ _).setIfInBounds _ _).size = 24; simp only [Array.size_setIfInBounds]; exact z3
  have g4 : c4[0]? = some (.int .u8 (3 : Nat)) := by rw [← hc4]; show (((c3.setIfInBounds _ _).setIfInBounds _ _).setIfInBounds _ _)[0]? = _; rw [Array.getElem?_setIfInBounds_ne (by decide), Array.getElem?_setIfInBounds_ne (by decide), Array.getElem?_setIfInBounds_ne (by decide)]; exact g3
  have hend : s4 = sE := by rw [← hsE]; subst hs4 hs3 hs2 hs1; rfl
  rw [← hend] at hg
  clear hsE hCE hend
  replace hs1 := Lib.hid hs1
  replace hc1 := Lib.hid hc1
  replace hs2 := Lib.hid hs2
  replace hc2 := Lib.hid hc2
  replace hs3 := Lib.hid hs3
  replace hc3 := Lib.hid hc3
  replace hs4 := Lib.hid hs4
  replace hc4 := Lib.hid hc4
  go_enter Tryd.func20, Tryd.ntmps20
  go_upto_region 2 with (first
    | (refine wl_alloc 32 rfl rfl zero32 ?_; intro w1 R1 T1)
    | (refine wl_build 92 rfl rfl (built92 S) ?_)
    | (refine wl_box 92 rfl rfl rfl ?_; intro w2 E2 T2; have R2 := R1.below T2; have T2' := ups T1 T2 T1.size; have hB := RByte_any (s := ⟨S, false⟩) E2; rw [show (Ey.mk S false).left = S from rfl, hkk] at hB))
  go_upto_region 3 with (first
    | (go_at_call 38; (with_reducible refine hB.mono ?_); rintro e w3 ⟨rfl, E3, K3⟩; have T3 := K3.up T2' T1.size; have R3 := K3.box R2 (Nat.ne_of_lt R1.lt))
    | (refine wl_build 32 rfl rfl (builtk 3) ?_)
    | (refine wl_alloc 32 rfl rfl zero32 ?_; intro w4 X4 T4; have R4 := R3.below T4; have E4 : Rye w4 w1.heap.size _ := Box.below E3 T4; have T4' := ups T3 T4 T3.size)
    | (refine wl_store 32 X4 rfl rfl rfl rfl size32 rfl (by omega : 0 + 24 ≤ 24) (cmV_one _) (spl24 _ _) ?_; intro w5 Z0 K5; have T0 := K5.up T4' T3.size; have R0 := K5.box R4 (Nat.ne_of_lt R3.lt); have E0 : Rye w5 w1.heap.size _ := K5.box E4 (Nat.ne_of_lt (show w1.heap.size < w3.heap.size from E3.lt)); have y0 : w5.cell? ⟨w3.heap.size, 0, none⟩ = some (.int .u8 (3 : Nat)) := (Z0.cell 0).trans (cmV_0 _)))
  have hAE := T1.size
  have hAD := T3.size
  have l1 : w.heap.size < w1.heap.size := R1.lt
  have l2 : w1.heap.size < w3.heap.size := E3.lt
  clear R1 T1 E2 T2 R2 T2' hB E3 K3 T3 R3 X4 T4 R4 E4 T4' K5
  rw [hbe] at E0
  rw [hc0] at Z0
  have Y0 := y0
  clear y0 hc0 hs0
  have K0 := REye_int E0 (by omega)
  rw [hs1.out] at K0
  go_wp2_with (first
    | (go_at_call 40; (with_reducible refine K0.mono ?_); rintro e v0 ⟨rfl, F0, B0⟩; have Rb0 := B0.box R0 (Nat.ne_of_lt l1); have Zb0 := B0.box Z0 (Ne.symm (Nat.ne_of_lt l2)); have Tb0 := B0.up T0 hAE)
    | (refine wl_put 3 Zb0 rfl rfl rfl rfl rfl rfl size3 (by omega) hc1.out ?_; intro u0 Z1 D0; have R1 := D0.box Rb0 (by omega); have E1 : Rye u0 w1.heap.size s1 := D0.box F0 (Nat.ne_of_lt l2); have T1 := D0.up Tb0 hAD; have Y1 := (Z1.cell 0).trans g1; have K1 := getCurve_any E1 l1s; rw [hs2.out] at K1)
    | (go_at_call 42; (with_reducible refine K1.mono ?_); rintro e v1 ⟨rfl, F1, B1⟩; have Rb1 := B1.box R1 (Nat.ne_of_lt l1); have Zb1 := B1.box Z1 (Ne.symm (Nat.ne_of_lt l2)); have Tb1 := B1.up T1 hAE)
    | (refine wl_store 26 Zb1 rfl rfl rfl rfl size26 rfl (by omega) (n3V_one s1) hc2.out ?_; intro u1 Z2 D1; have R2 := D1.box Rb1 (by omega); have E2 : Rye u1 w1.heap.size s2 := D1.box F1 (Nat.ne_of_lt l2); have T2 := D1.up Tb1 hAD; have Y2 := (Z2.cell 0).trans g2; have K2 := getCurve_any E2 l2s; rw [hs3.out] at K2)
    | (go_at_call 42; (with_reducible refine K2.mono ?_); rintro e v2 ⟨rfl, F2, B2⟩; have Rb2 := B2.box R2 (Nat.ne_of_lt l1); have Zb2 := B2.box Z2 (Ne.symm (Nat.ne_of_lt l2)); have Tb2 := B2.up T2 hAE)
    | (refine wl_store 26 Zb2 rfl rfl rfl rfl size26 rfl (by omega) (n3V_one s2) hc3.out ?_; intro u2 Z3 D2; have R3 := D2.box Rb2 (by omega); have E3 : Rye u2 w1.heap.size s3 := D2.box F2 (Nat.ne_of_lt l2); have T3 := D2.up Tb2 hAD; have Y3 := (Z3.cell 0).trans g3; have K3 := getCurve_any E3 l3s; rw [hs4.out] at K3)
    | (go_at_call 42; (with_reducible refine K3.mono ?_); rintro e v3 ⟨rfl, F3, B3⟩; have Rb3 := B3.box R3 (Nat.ne_of_lt l1); have Zb3 := B3.box Z3 (Ne.symm (Nat.ne_of_lt l2)); have Tb3 := B3.up T3 hAE)
    | (refine wl_store 26 Zb3 rfl rfl rfl rfl size26 rfl (by omega) (n3V_one s3) hc4.out ?_; intro u3 Z4 D3; have R4 := D3.box Rb3 (by omega); have E4 : Rye u3 w1.heap.size s4 := D3.box F3 (Nat.ne_of_lt l2); have T4 := D3.up Tb3 hAD; have Y4 := (Z4.cell 0).trans g4; have hD := done_not E4 hg)
    | (go_at_call 43; (with_reducible refine hD.mono ?_); rintro e w8 ⟨rfl, rfl⟩)
    | (refine wl_build 32 rfl rfl built32_0 ?_)
    | (refine wl_store 32 R4 rfl rfl rfl rfl size32 rfl (by omega : 0 + 24 ≤ 24) (cmV_one _) (spl24 _ _) ?_; intro wA RA KA))
  refine bodyPost_ret (v := .tuple #[.agg (cmV (Cm.zero 0)), .int .i64 140]) ?_ rfl ⟨rfl, KA.up T4 (Nat.le_refl _)⟩
  exact results_cell_two rfl _ _ _ _ _ _ _ rfl rfl RA Tryd.underlying32 rfl size32
set_option maxHeartbeats 16000000 in
set_option maxRecDepth 100000 in
theorem rrdc_4y {S R : List UInt8} {sE : Ey} {CE : Cm} (w : World) (hkk : byV S = 4) (hbe : byE ⟨S, false⟩ = ⟨R, false⟩) (hlen : R.length < 100000) (hsE : endL (tyC 4) ⟨R, false⟩ = sE) (hCE : mkC 4 (decL (tyC 4) ⟨R, false⟩) = CE) (hg : sE.bad = false ∧ sE.left = []) :
    Calls Tryd.prog 20 #[.string (bs S)] w fun e w' => e = .returned (.tuple #[.agg (cmV CE), .int .i64 0]) ∧ Below w.heap.size w w' := by
  obtain ⟨s0, hs0⟩ : ∃ s : Ey, ⟨R, false⟩ = s := ⟨_, rfl⟩
  have l0s : s0.left.length < 100000 := by rw [← hs0]; exact hlen
  rw [hs0] at hbe hsE hCE
  obtain ⟨c0, hc0⟩ : ∃ c, cmV (Cm.zero 4) = c := ⟨_, rfl⟩
  have z0 : c0.size = 24 := by rw [← hc0]; rfl
  have g0 : c0[0]? = some (.int .u8 (4 : Nat)) := by rw [← hc0]; rfl
  obtain ⟨s1, hs1⟩ : ∃ s, nuE s0 = s := ⟨_, rfl⟩
  have l1s : s1.left.length < 100000 := by rw [← hs1]; exact nuE_lt l0s
  obtain ⟨c1, hc1⟩ : ∃ c, c0.setIfInBounds 18 (.int .i64 (sg (nuV s0.left))) = c := ⟨_, rfl⟩
  have z1 : c1.size = 24 := by rw [← hc1, Array.size_setIfInBounds]; exact z0
  have g1 : c1[0]? = some (.int .u8 (4 : Nat)) := by rw [← hc1, Array.getElem?_setIfInBounds_ne (by decide)]; exact g0
  have hend : s1 = sE := by rw [← hsE]; subst hs1; rfl
  have hfin : c1 = cmV CE := by rw [← hCE]; subst hc1 hc0 hs1; kernel_rfl
  rw [← hend] at hg
  clear hsE hCE hend
  replace hs1 := Lib.hid hs1
  replace hc1 := Lib.hid hc1
  go_enter Tryd.func20, Tryd.ntmps20
  go_upto_region 2 with (first
    | (refine wl_alloc 32 rfl rfl zero32 ?_; intro w1 R1 T1)
    | (refine wl_build 92 rfl rfl (built92 S) ?_)
    | (refine wl_box 92 rfl rfl rfl ?_; intro w2 E2 T2; have R2 := R1.below T2; have T2' := ups T1 T2 T1.size; have hB := RByte_any (s := ⟨S, false⟩) E2; rw [show (Ey.mk S false).left = S from rfl, hkk] at hB))
  go_upto_region 3 with (first
    | (go_at_call 38; (with_reducible refine hB.mono ?_); rintro e w3 ⟨rfl, E3, K3⟩; have T3 := K3.up T2' T1.size; have R3 := K3.box R2 (Nat.ne_of_lt R1.lt))
    | (refine wl_build 32 rfl rfl (builtk 4) ?_)
    | (refine wl_alloc 32 rfl rfl zero32 ?_; intro w4 X4 T4; have R4 := R3.below T4; have E4 : Rye w4 w1.heap.size _ := Box.below E3 T4; have T4' := ups T3 T4 T3.size)
    | (refine wl_store 32 X4 rfl rfl rfl rfl size32 rfl (by omega : 0 + 24 ≤ 24) (cmV_one _) (spl24 _ _) ?_; intro w5 Z0 K5; have T0 := K5.up T4' T3.size; have R0 := K5.box R4 (Nat.ne_of_lt R3.lt); have E0 : Rye w5 w1.heap.size _ := K5.box E4 (Nat.ne_of_lt (show w1.heap.size < w3.heap.size from E3.lt)); have y0 : w5.cell? ⟨w3.heap.size, 0, none⟩ = some (.int .u8 (4 : Nat)) := (Z0.cell 0).trans (cmV_0 _)))
  have hAE := T1.size
  have hAD := T3.size
  have l1 : w.heap.size < w1.heap.size := R1.lt
  have l2 : w1.heap.size < w3.heap.size := E3.lt
  clear R1 T1 E2 T2 R2 T2' hB E3 K3 T3 R3 X4 T4 R4 E4 T4' K5
  rw [hbe] at E0
  rw [hc0] at Z0
  have Y0 := y0
  clear y0 hc0 hs0
  have K0 := REye_int E0 (by omega)
  rw [hs1.out] at K0
  go_wp2_with (first
    | (go_at_call 40; (with_reducible refine K0.mono ?_); rintro e v0 ⟨rfl, F0, B0⟩; have Rb0 := B0.box R0 (Nat.ne_of_lt l1); have Zb0 := B0.box Z0 (Ne.symm (Nat.ne_of_lt l2)); have Tb0 := B0.up T0 hAE)
    | (refine wl_put 3 Zb0 rfl rfl rfl rfl rfl rfl size3 (by omega) hc1.out ?_; intro u0 Z1 D0; have R1 := D0.box Rb0 (by omega); have E1 : Rye u0 w1.heap.size s1 := D0.box F0 (Nat.ne_of_lt l2); have T1 := D0.up Tb0 hAD; have Y1 := (Z1.cell 0).trans g1; have hD := done_yes E1 hg)
    | (go_at_call 43; (with_reducible refine hD.mono ?_); rintro e w8 ⟨rfl, rfl⟩)
    | (refine wl_load 32 Z1 rfl rfl rfl Tryd.underlying32 rfl size32 (by omega) (all24 hfin) ?_)
    | (refine wl_store 32 R1 rfl rfl rfl rfl size32 rfl (by omega : 0 + 24 ≤ 24) (cmV_one _) (spl24 _ _) ?_; intro wA RA KA))
  refine bodyPost_ret (v := .tuple #[.agg (cmV CE), .int .i64 0]) ?_ rfl ⟨rfl, KA.up T1 (Nat.le_refl _)⟩
  exact results_cell_two rfl _ _ _ _ _ _ _ rfl rfl RA Tryd.underlying32 rfl size32
set_option maxHeartbeats 16000000 in
set_option maxRecDepth 100000 in
theorem rrdc_4n {S R : List UInt8} {sE : Ey} {CE : Cm} (w : World) (hkk : byV S = 4) (hbe : byE ⟨S, false⟩ = ⟨R, false⟩) (hlen : R.length < 100000) (hsE : endL (tyC 4) ⟨R, false⟩ = sE) (hCE : mkC 4 (decL (tyC 4) ⟨R, false⟩) = CE) (hg : ¬ (sE.bad = false ∧ sE.left = [])) :
    Calls Tryd.prog 20 #[.string (bs S)] w fun e w' => e = .returned (.tuple #[.agg (cmV (Cm.zero 0)), .int .i64 140]) ∧ Below w.heap.size w w' := by
  obtain ⟨s0, hs0⟩ : ∃ s : Ey, ⟨R, false⟩ = s := ⟨_, rfl⟩
  have l0s : s0.left.length < 100000 := by rw [← hs0]; exact hlen
  rw [hs0] at hbe hsE hCE
  obtain ⟨c0, hc0⟩ : ∃ c, cmV (Cm.zero 4) = c := ⟨_, rfl⟩
  have z0 : c0.size = 24 := by rw [← hc0]; rfl
  have g0 : c0[0]? = some (.int .u8 (4 : Nat)) := by rw [← hc0]; rfl
  obtain ⟨s1, hs1⟩ : ∃ s, nuE s0 = s := ⟨_, rfl⟩
  have l1s : s1.left.length < 100000 := by rw [← hs1]; exact nuE_lt l0s
  obtain ⟨c1, hc1⟩ : ∃ c, c0.setIfInBounds 18 (.int .i64 (sg (nuV s0.left))) = c := ⟨_, rfl⟩
  have z1 : c1.size = 24 := by rw [← hc1, Array.size_setIfInBounds]; exact z0
  have g1 : c1[0]? = some (.int .u8 (4 : Nat)) := by rw [← hc1, Array.getElem?_setIfInBounds_ne (by decide)]; exact g0
  have hend : s1 = sE := by rw [← hsE]; subst hs1; rfl
  rw [← hend] at hg
  clear hsE hCE hend
  replace hs1 := Lib.hid hs1
  replace hc1 := Lib.hid hc1
  go_enter Tryd.func20, Tryd.ntmps20
  go_upto_region 2 with (first
    | (refine wl_alloc 32 rfl rfl zero32 ?_; intro w1 R1 T1)
    | (refine wl_build 92 rfl rfl (built92 S) ?_)
    | (refine wl_box 92 rfl rfl rfl ?_; intro w2 E2 T2; have R2 := R1.below T2; have T2' := ups T1 T2 T1.size; have hB := RByte_any (s := ⟨S, false⟩) E2; rw [show (Ey.mk S false).left = S from rfl, hkk] at hB))
  go_upto_region 3 with (first
    | (go_at_call 38; (with_reducible refine hB.mono ?_); rintro e w3 ⟨rfl, E3, K3⟩; have T3 := K3.up T2' T1.size; have R3 := K3.box R2 (Nat.ne_of_lt R1.lt))
    | (refine wl_build 32 rfl rfl (builtk 4) ?_)
    | (refine wl_alloc 32 rfl rfl zero32 ?_; intro w4 X4 T4; have R4 := R3.below T4; have E4 : Rye w4 w1.heap.size _ := Box.below E3 T4; have T4' := ups T3 T4 T3.size)
    | (refine wl_store 32 X4 rfl rfl rfl rfl size32 rfl (by omega : 0 + 24 ≤ 24) (cmV_one _) (spl24 _ _) ?_; intro w5 Z0 K5; have T0 := K5.up T4' T3.size; have R0 := K5.box R4 (Nat.ne_of_lt R3.lt); have E0 : Rye w5 w1.heap.size _ := K5.box E4 (Nat.ne_of_lt (show w1.heap.size < w3.heap.size from E3.lt)); have y0 : w5.cell? ⟨w3.heap.size, 0, none⟩ = some (.int .u8 (4 : Nat)) := (Z0.cell 0).trans (cmV_0 _)))
  have hAE := T1.size
  have hAD := T3.size
  have l1 : w.heap.size < w1.heap.size := R1.lt
  have l2 : w1.heap.size < w3.heap.size := E3.lt
  clear R1 T1 E2 T2 R2 T2' hB E3 K3 T3 R3 X4 T4 R4 E4 T4' K5
  rw [hbe] at E0
  rw [hc0] at Z0
  have Y0 := y0
  clear y0 hc0 hs0
  have K0 := REye_int E0 (by omega)
  rw [hs1.out] at K0
  go_wp2_with (first
    | (go_at_call 40; (with_reducible refine K0.mono ?_); rintro e v0 ⟨rfl, F0, B0⟩; have Rb0 := B0.box R0 (Nat.ne_of_lt l1); have Zb0 := B0.box Z0 (Ne.symm (Nat.ne_of_lt l2)); have Tb0 := B0.up T0 hAE)
    | (refine wl_put 3 Zb0 rfl rfl rfl rfl rfl rfl size3 (by omega) hc1.out ?_; intro u0 Z1 D0; have R1 := D0.box Rb0 (by omega); have E1 : Rye u0 w1.heap.size s1 := D0.box F0 (Nat.ne_of_lt l2); have T1 := D0.up Tb0 hAD; have Y1 := (Z1.cell 0).trans g1; have hD := done_not E1 hg)
    | (go_at_call 43; (with_reducible refine hD.mono ?_); rintro e w8 ⟨rfl, rfl⟩)
    | (refine wl_build 32 rfl rfl built32_0 ?_)
    | (refine wl_store 32 R1 rfl rfl rfl rfl size32 rfl (by omega : 0 + 24 ≤ 24) (cmV_one _) (spl24 _ _) ?_; intro wA RA KA))
  refine bodyPost_ret (v := .tuple #[.agg (cmV (Cm.zero 0)), .int .i64 140]) ?_ rfl ⟨rfl, KA.up T1 (Nat.le_refl _)⟩
  exact results_cell_two rfl _ _ _ _ _ _ _ rfl rfl RA Tryd.underlying32 rfl size32
set_option maxHeartbeats 16000000 in
set_option maxRecDepth 100000 in
theorem rrdc_5y {S R : List UInt8} {sE : Ey} {CE : Cm} (w : World) (hkk : byV S = 5) (hbe : byE ⟨S, false⟩ = ⟨R, false⟩) (hlen : R.length < 100000) (hsE : endL (tyC 5) ⟨R, false⟩ = sE) (hCE : mkC 5 (decL (tyC 5) ⟨R, false⟩) = CE) (hg : sE.bad = false ∧ sE.left = []) :
    Calls Tryd.prog 20 #[.string (bs S)] w fun e w' => e = .returned (.tuple #[.agg (cmV CE), .int .i64 0]) ∧ Below w.heap.size w w' := by
  obtain ⟨s0, hs0⟩ : ∃ s : Ey, ⟨R, false⟩ = s := ⟨_, rfl⟩
  have l0s : s0.left.length < 100000 := by rw [← hs0]; exact hlen
  rw [hs0] at hbe hsE hCE
  obtain ⟨c0, hc0⟩ : ∃ c, cmV (Cm.zero 5) = c := ⟨_, rfl⟩
  have z0 : c0.size = 24 := by rw [← hc0]; rfl
  have g0 : c0[0]? = some (.int .u8 (5 : Nat)) := by rw [← hc0]; rfl
  obtain ⟨s1, hs1⟩ : ∃ s, nuE s0 = s := ⟨_, rfl⟩
  have l1s : s1.left.length < 100000 := by rw [← hs1]; exact nuE_lt l0s
  obtain ⟨c1, hc1⟩ : ∃ c, c0.setIfInBounds 19 (.int .u64 (nuV s0.left : Int)) = c := ⟨_, rfl⟩
  have z1 : c1.size = 24 := by rw [← hc1, Array.size_setIfInBounds]; exact z0
  have g1 : c1[0]? = some (.int .u8 (5 : Nat)) := by rw [← hc1, Array.getElem?_setIfInBounds_ne (by decide)]; exact g0
  obtain ⟨s2, hs2⟩ : ∃ s, nuE s1 = s := ⟨_, rfl⟩
  have l2s : s2.left.length < 100000 := by rw [← hs2]; exact nuE_lt l1s
  obtain ⟨c2, hc2⟩ : ∃ c, c1.setIfInBounds 20 (.int .i64 (sg (nuV s1.left))) = c := ⟨_, rfl⟩
  have z2 : c2.size = 24 := by rw [← hc2, Array.size_setIfInBounds]; exact z1
  have g2 : c2[0]? = some (.int .u8 (5 : Nat)) := by rw [← hc2, Array.getElem?_setIfInBounds_ne (by decide)]; exact g1
  obtain ⟨s3, hs3⟩ : ∃ s, nuE s2 = s := ⟨_, rfl⟩
  have l3s : s3.left.length < 100000 := by rw [← hs3]; exact nuE_lt l2s
  obtain ⟨c3, hc3⟩ : ∃ c, c2.setIfInBounds 21 (.int .i64 (sg (nuV s2.left))) = c := ⟨_, rfl⟩
  have z3 : c3.size = 24 := by rw [← hc3, Array.size_setIfInBounds]; exact z2
  have g3 : c3[0]? = some (.int .u8 (5 : Nat)) := by rw [← hc3, Array.getElem?_setIfInBounds_ne (by decide)]; exact g2
  obtain ⟨s4, hs4⟩ : ∃ s, nuE s3 = s := ⟨_, rfl⟩
  have l4s : s4.left.length < 100000 := by rw [← hs4]; exact nuE_lt l3s
  obtain ⟨c4, hc4⟩ : ∃ c, c3.setIfInBounds 22 (.int .u64 (nuV s3.left : Int)) = c := ⟨_, rfl⟩
  have z4 : c4.size = 24 := by rw [← hc4, Array.size_setIfInBounds]; exact z3
  have g4 : c4[0]? = some (.int .u8 (5 : Nat)) := by rw [← hc4, Array.getElem?_setIfInBounds_ne (by decide)]; exact g3
  have hend : s4 = sE := by rw [← hsE]; subst hs4 hs3 hs2 hs1; rfl
  have hfin : c4 = cmV CE := by rw [← hCE]; subst hc4 hc3 hc2 hc1 hc0 hs4 hs3 hs2 hs1; kernel_rfl
  rw [← hend] at hg
  clear hsE hCE hend
  replace hs1 := Lib.hid hs1
  replace hc1 := Lib.hid hc1
  replace hs2 := Lib.hid hs2
  replace hc2 := Lib.hid hc2
  replace hs3 := Lib.hid hs3
  replace hc3 := Lib.hid hc3
  replace hs4 := Lib.hid hs4
  replace hc4 := Lib.hid hc4
  go_enter Tryd.func20, Tryd.ntmps20
  go_upto_region 2 with (first
    | (refine wl_alloc 32 rfl rfl zero32 ?_; intro w1 R1 T1)
    | (refine wl_build 92 rfl rfl (built92 S) ?_)
    | (refine wl_box 92 rfl rfl rfl ?_; intro w2 E2 T2; have R2 := R1.below T2; have T2' := ups T1 T2 T1.size; have hB := RByte_any (s := ⟨S, false⟩) E2; rw [show (Ey.mk S false).left = S from rfl, hkk] at hB))
  go_upto_region 3 with (first
    | (go_at_call 38; (with_reducible refine hB.mono ?_); rintro e w3 ⟨rfl, E3, K3⟩; have T3 := K3.up T2' T1.size; have R3 := K3.box R2 (Nat.ne_of_lt R1.lt))
    | (refine wl_build 32 rfl rfl (builtk 5) ?_)
    | (refine wl_alloc 32 rfl rfl zero32 ?_; intro w4 X4 T4; have R4 := R3.below T4; have E4 : Rye w4 w1.heap.size _ := Box.below E3 T4; have T4' := ups T3 T4 T3.size)
    | (refine wl_store 32 X4 rfl rfl rfl rfl size32 rfl (by omega : 0 + 24 ≤ 24) (cmV_one _) (spl24 _ _) ?_; intro w5 Z0 K5; have T0 := K5.up T4' T3.size; have R0 := K5.box R4 (Nat.ne_of_lt R3.lt); have E0 : Rye w5 w1.heap.size _ := K5.box E4 (Nat.ne_of_lt (show w1.heap.size < w3.heap.size from E3.lt)); have y0 : w5.cell? ⟨w3.heap.size, 0, none⟩ = some (.int .u8 (5 : Nat)) := (Z0.cell 0).trans (cmV_0 _)))
  have hAE := T1.size
  have hAD := T3.size
  have l1 : w.heap.size < w1.heap.size := R1.lt
  have l2 : w1.heap.size < w3.heap.size := E3.lt
  clear R1 T1 E2 T2 R2 T2' hB E3 K3 T3 R3 X4 T4 R4 E4 T4' K5
  rw [hbe] at E0
  rw [hc0] at Z0
  have Y0 := y0
  clear y0 hc0 hs0
  have K0 := REye_num E0 (by omega)
  rw [hs1.out] at K0
  go_wp2_with (first
    | (go_at_call 39; (with_reducible refine K0.mono ?_); rintro e v0 ⟨rfl, F0, B0⟩; have Rb0 := B0.box R0 (Nat.ne_of_lt l1); have Zb0 := B0.box Z0 (Ne.symm (Nat.ne_of_lt l2)); have Tb0 := B0.up T0 hAE)
    | (refine wl_put 22 Zb0 rfl rfl rfl rfl rfl rfl size22 (by omega) hc1.out ?_; intro u0 Z1 D0; have R1 := D0.box Rb0 (by omega); have E1 : Rye u0 w1.heap.size s1 := D0.box F0 (Nat.ne_of_lt l2); have T1 := D0.up Tb0 hAD; have Y1 := (Z1.cell 0).trans g1; have K1 := REye_int E1 (by omega); rw [hs2.out] at K1)
    | (go_at_call 40; (with_reducible refine K1.mono ?_); rintro e v1 ⟨rfl, F1, B1⟩; have Rb1 := B1.box R1 (Nat.ne_of_lt l1); have Zb1 := B1.box Z1 (Ne.symm (Nat.ne_of_lt l2)); have Tb1 := B1.up T1 hAE)
    | (refine wl_put 3 Zb1 rfl rfl rfl rfl rfl rfl size3 (by omega) hc2.out ?_; intro u1 Z2 D1; have R2 := D1.box Rb1 (by omega); have E2 : Rye u1 w1.heap.size s2 := D1.box F1 (Nat.ne_of_lt l2); have T2 := D1.up Tb1 hAD; have Y2 := (Z2.cell 0).trans g2; have K2 := REye_int E2 (by omega); rw [hs3.out] at K2)
    | (go_at_call 40; (with_reducible refine K2.mono ?_); rintro e v2 ⟨rfl, F2, B2⟩; have Rb2 := B2.box R2 (Nat.ne_of_lt l1); have Zb2 := B2.box Z2 (Ne.symm (Nat.ne_of_lt l2)); have Tb2 := B2.up T2 hAE)
    | (refine wl_put 3 Zb2 rfl rfl rfl rfl rfl rfl size3 (by omega) hc3.out ?_; intro u2 Z3 D2; have R3 := D2.box Rb2 (by omega); have E3 : Rye u2 w1.heap.size s3 := D2.box F2 (Nat.ne_of_lt l2); have T3 := D2.up Tb2 hAD; have Y3 := (Z3.cell 0).trans g3; have K3 := REye_num E3 (by omega); rw [hs4.out] at K3)
    | (go_at_call 39; (with_reducible refine K3.mono ?_); rintro e v3 ⟨rfl, F3, B3⟩; have Rb3 := B3.box R3 (Nat.ne_of_lt l1); have Zb3 := B3.box Z3 (Ne.symm (Nat.ne_of_lt l2)); have Tb3 := B3.up T3 hAE)
    | (refine wl_put 22 Zb3 rfl rfl rfl rfl rfl rfl size22 (by omega) hc4.out ?_; intro u3 Z4 D3; have R4 := D3.box Rb3 (by omega); have E4 : Rye u3 w1.heap.size s4 := D3.box F3 (Nat.ne_of_lt l2); have T4 := D3.up Tb3 hAD; have Y4 := (Z4.cell 0).trans g4; have hD := done_yes E4 hg)
    | (go_at_call 43; (with_reducible refine hD.mono ?_); rintro e w8 ⟨rfl, rfl⟩)
    | (refine wl_load 32 Z4 rfl rfl rfl Tryd.underlying32 rfl size32 (by omega) (all24 hfin) ?_)
    | (refine wl_store 32 R4 rfl rfl rfl rfl size32 rfl (by omega : 0 + 24 ≤ 24) (cmV_one _) (spl24 _ _) ?_; intro wA RA KA))
  refine bodyPost_ret (v := .tuple #[.agg (cmV CE), .int .i64 0]) ?_ rfl ⟨rfl, KA.up T4 (Nat.le_refl _)⟩
  exact results_cell_two rfl _ _ _ _ _ _ _ rfl rfl RA Tryd.underlying32 rfl size32
set_option maxHeartbeats 16000000 in
set_option maxRecDepth 100000 in
theorem rrdc_5n {S R : List UInt8} {sE : Ey} {CE : Cm} (w : World) (hkk : byV S = 5) (hbe : byE ⟨S, false⟩ = ⟨R, false⟩) (hlen : R.length < 100000) (hsE : endL (tyC 5) ⟨R, false⟩ = sE) (hCE : mkC 5 (decL (tyC 5) ⟨R, false⟩) = CE) (hg : ¬ (sE.bad = false ∧ sE.left = [])) :
    Calls Tryd.prog 20 #[.string (bs S)] w fun e w' => e = .returned (.tuple #[.agg (cmV (Cm.zero 0)), .int .i64 140]) ∧ Below w.heap.size w w' := by
  obtain ⟨s0, hs0⟩ : ∃ s : Ey, ⟨R, false⟩ = s := ⟨_, rfl⟩
  have l0s : s0.left.length < 100000 := by rw [← hs0]; exact hlen
  rw [hs0] at hbe hsE hCE
  obtain ⟨c0, hc0⟩ : ∃ c, cmV (Cm.zero 5) = c := ⟨_, rfl⟩
  have z0 : c0.size = 24 := by rw [← hc0]; rfl
  have g0 : c0[0]? = some (.int .u8 (5 : Nat)) := by rw [← hc0]; rfl
  obtain ⟨s1, hs1⟩ : ∃ s, nuE s0 = s := ⟨_, rfl⟩
  have l1s : s1.left.length < 100000 := by rw [← hs1]; exact nuE_lt l0s
  obtain ⟨c1, hc1⟩ : ∃ c, c0.setIfInBounds 19 (.int .u64 (nuV s0.left : Int)) = c := ⟨_, rfl⟩
  have z1 : c1.size = 24 := by rw [← hc1, Array.size_setIfInBounds]; exact z0
  have g1 : c1[0]? = some (.int .u8 (5 : Nat)) := by rw [← hc1, Array.getElem?_setIfInBounds_ne (by decide)]; exact g0
  obtain ⟨s2, hs2⟩ : ∃ s, nuE s1 = s := ⟨_, rfl⟩
  have l2s : s2.left.length < 100000 := by rw [← hs2]; exact nuE_lt l1s
  obtain ⟨c2, hc2⟩ : ∃ c, c1.setIfInBounds 20 (.int .i64 (sg (nuV s1.left))) = c := ⟨_, rfl⟩
  have z2 : c2.size = 24 := by rw [← hc2, Array.size_setIfInBounds]; exact z1
  have g2 : c2[0]? = some (.int .u8 (5 : Nat)) := by rw [← hc2, Array.getElem?_setIfInBounds_ne (by decide)]; exact g1
  obtain ⟨s3, hs3⟩ : ∃ s, nuE s2 = s := ⟨_, rfl⟩
  have l3s : s3.left.length < 100000 := by rw [← hs3]; exact nuE_lt l2s
  obtain ⟨c3, hc3⟩ : ∃ c, c2.setIfInBounds 21 (.int .i64 (sg (nuV s2.left))) = c := ⟨_, rfl⟩
  have z3 : c3.size = 24 := by rw [← hc3, Array.size_setIfInBounds]; exact z2
  have g3 : c3[0]? = some (.int .u8 (5 : Nat)) := by rw [← hc3, Array.getElem?_setIfInBounds_ne (by decide)]; exact g2
  obtain ⟨s4, hs4⟩ : ∃ s, nuE s3 = s := ⟨_, rfl⟩
  have l4s : s4.left.length < 100000 := by rw [← hs4]; exact nuE_lt l3s
  obtain ⟨c4, hc4⟩ : ∃ c, c3.setIfInBounds 22 (.int .u64 (nuV s3.left : Int)) = c := ⟨_, rfl⟩
  have z4 : c4.size = 24 := by rw [← hc4, Array.size_setIfInBounds]; exact z3
  have g4 : c4[0]? = some (.int .u8 (5 : Nat)) := by rw [← hc4, Array.getElem?_setIfInBounds_ne (by decide)]; exact g3
  have hend : s4 = sE := by rw [← hsE]; subst hs4 hs3 hs2 hs1; rfl
  rw [← hend] at hg
  clear hsE hCE hend
  replace hs1 := Lib.hid hs1
  replace hc1 := Lib.hid hc1
  replace hs2 := Lib.hid hs2
  replace hc2 := Lib.hid hc2
  replace hs3 := Lib.hid hs3
  replace hc3 := Lib.hid hc3
  replace hs4 := Lib.hid hs4
  replace hc4 := Lib.hid hc4
  go_enter Tryd.func20, Tryd.ntmps20
  go_upto_region 2 with (first
    | (refine wl_alloc 32 rfl rfl zero32 ?_; intro w1 R1 T1)
    | (refine wl_build 92 rfl rfl (built92 S) ?_)
    | (refine wl_box 92 rfl rfl rfl ?_; intro w2 E2 T2; have R2 := R1.below T2; have T2' := ups T1 T2 T1.size; have hB := RByte_any (s := ⟨S, false⟩) E2; rw [show (Ey.mk S false).left = S from rfl, hkk] at hB))
  go_upto_region 3 with (first
    | (go_at_call 38; (with_reducible refine hB.mono ?_); rintro e w3 ⟨rfl, E3, K3⟩; have T3 := K3.up T2' T1.size; have R3 := K3.box R2 (Nat.ne_of_lt R1.lt))
    | (refine wl_build 32 rfl rfl (builtk 5) ?_)
    | (refine wl_alloc 32 rfl rfl zero32 ?_; intro w4 X4 T4; have R4 := R3.below T4; have E4 : Rye w4 w1.heap.size _ := Box.below E3 T4; have T4' := ups T3 T4 T3.size)
    | (refine wl_store 32 X4 rfl rfl rfl rfl size32 rfl (by omega : 0 + 24 ≤ 24) (cmV_one _) (spl24 _ _) ?_; intro w5 Z0 K5; have T0 := K5.up T4' T3.size; have R0 := K5.box R4 (Nat.ne_of_lt R3.lt); have E0 : Rye w5 w1.heap.size _ := K5.box E4 (Nat.ne_of_lt (show w1.heap.size < w3.heap.size from E3.lt)); have y0 : w5.cell? ⟨w3.heap.size, 0, none⟩ = some (.int .u8 (5 : Nat)) := (Z0.cell 0).trans (cmV_0 _)))
  have hAE := T1.size
  have hAD := T3.size
  have l1 : w.heap.size < w1.heap.size := R1.lt
  have l2 : w1.heap.size < w3.heap.size := E3.lt
  clear R1 T1 E2 T2 R2 T2' hB E3 K3 T3 R3 X4 T4 R4 E4 T4' K5
  rw [hbe] at E0
  rw [hc0] at Z0
  have Y0 := y0
  clear y0 hc0 hs0
  have K0 := REye_num E0 (by omega)
  rw [hs1.out] at K0
  go_wp2_with (first
    | (go_at_call 39; (with_reducible refine K0.mono ?_); rintro e v0 ⟨rfl, F0, B0⟩; have Rb0 := B0.box R0 (Nat.ne_of_lt l1); have Zb0 := B0.box Z0 (Ne.symm (Nat.ne_of_lt l2)); have Tb0 := B0.up T0 hAE)
    | (refine wl_put 22 Zb0 rfl rfl rfl rfl rfl rfl size22 (by omega) hc1.out ?_; intro u0 Z1 D0; have R1 := D0.box Rb0 (by omega); have E1 : Rye u0 w1.heap.size s1 := D0.box F0 (Nat.ne_of_lt l2); have T1 := D0.up Tb0 hAD; have Y1 := (Z1.cell 0).trans g1; have K1 := REye_int E1 (by omega); rw [hs2.out] at K1)
    | (go_at_call 40; (with_reducible refine K1.mono ?_); rintro e v1 ⟨rfl, F1, B1⟩; have Rb1 := B1.box R1 (Nat.ne_of_lt l1); have Zb1 := B1.box Z1 (Ne.symm (Nat.ne_of_lt l2)); have Tb1 := B1.up T1 hAE)
    | (refine wl_put 3 Zb1 rfl rfl rfl rfl rfl rfl size3 (by omega) hc2.out ?_; intro u1 Z2 D1; have R2 := D1.box Rb1 (by omega); have E2 : Rye u1 w1.heap.size s2 := D1.box F1 (Nat.ne_of_lt l2); have T2 := D1.up Tb1 hAD; have Y2 := (Z2.cell 0).trans g2; have K2 := REye_int E2 (by omega); rw [hs3.out] at K2)
    | (go_at_call 40; (with_reducible refine K2.mono ?_); rintro e v2 ⟨rfl, F2, B2⟩; have Rb2 := B2.box R2 (Nat.ne_of_lt l1); have Zb2 := B2.box Z2 (Ne.symm (Nat.ne_of_lt l2)); have Tb2 := B2.up T2 hAE)
    | (refine wl_put 3 Zb2 rfl rfl rfl rfl rfl rfl size3 (by omega) hc3.out ?_; intro u2 Z3 D2; have R3 := D2.box Rb2 (by omega); have E3 : Rye u2 w1.heap.size s3 := D2.box F2 (Nat.ne_of_lt l2); have T3 := D2.up Tb2 hAD; have Y3 := (Z3.cell 0).trans g3; have K3 := REye_num E3 (by omega); rw [hs4.out] at K3)
    | (go_at_call 39; (with_reducible refine K3.mono ?_); rintro e v3 ⟨rfl, F3, B3⟩; have Rb3 := B3.box R3 (Nat.ne_of_lt l1); have Zb3 := B3.box Z3 (Ne.symm (Nat.ne_of_lt l2)); have Tb3 := B3.up T3 hAE)
    | (refine wl_put 22 Zb3 rfl rfl rfl rfl rfl rfl size22 (by omega) hc4.out ?_; intro u3 Z4 D3; have R4 := D3.box Rb3 (by omega); have E4 : Rye u3 w1.heap.size s4 := D3.box F3 (Nat.ne_of_lt l2); have T4 := D3.up Tb3 hAD; have Y4 := (Z4.cell 0).trans g4; have hD := done_not E4 hg)
    | (go_at_call 43; (with_reducible refine hD.mono ?_); rintro e w8 ⟨rfl, rfl⟩)
    | (refine wl_build 32 rfl rfl built32_0 ?_)
    | (refine wl_store 32 R4 rfl rfl rfl rfl size32 rfl (by omega : 0 + 24 ≤ 24) (cmV_one _) (spl24 _ _) ?_; intro wA RA KA))
  refine bodyPost_ret (v := .tuple #[.agg (cmV (Cm.zero 0)), .int .i64 140]) ?_ rfl ⟨rfl, KA.up T4 (Nat.le_refl _)⟩
  exact results_cell_two rfl _ _ _ _ _ _ _ rfl rfl RA Tryd.underlying32 rfl size32
set_option maxHeartbeats 16000000 in
set_option maxRecDepth 100000 in
theorem rrdc_6y {S R : List UInt8} {sE : Ey} {CE : Cm} (w : World) (hkk : byV S = 6) (hbe : byE ⟨S, false⟩ = ⟨R, false⟩) (hlen : R.length < 100000) (hsE : endL (tyC 6) ⟨R, false⟩ = sE) (hCE : mkC 6 (decL (tyC 6) ⟨R, false⟩) = CE) (hg : sE.bad = false ∧ sE.left = []) :
    Calls Tryd.prog 20 #[.string (bs S)] w fun e w' => e = .returned (.tuple #[.agg (cmV CE), .int .i64 0]) ∧ Below w.heap.size w w' := by
  obtain ⟨s0, hs0⟩ : ∃ s : Ey, ⟨R, false⟩ = s := ⟨_, rfl⟩
  have l0s : s0.left.length < 100000 := by rw [← hs0]; exact hlen
  rw [hs0] at hbe hsE hCE
  obtain ⟨c0, hc0⟩ : ∃ c, cmV (Cm.zero 6) = c := ⟨_, rfl⟩
  have z0 : c0.size = 24 := by rw [← hc0]; rfl
  have g0 : c0[0]? = some (.int .u8 (6 : Nat)) := by rw [← hc0]; rfl
  obtain ⟨s1, hs1⟩ : ∃ s, nuE s0 = s := ⟨_, rfl⟩
  have l1s : s1.left.length < 100000 := by rw [← hs1]; exact nuE_lt l0s
  obtain ⟨c1, hc1⟩ : ∃ c, c0.setIfInBounds 23 (.int .u64 (nuV s0.left : Int)) = c := ⟨_, rfl⟩
  have z1 : c1.size = 24 := by rw [← hc1, Array.size_setIfInBounds]; exact z0
  have g1 : c1[0]? = some (.int .u8 (6 : Nat)) := by rw [← hc1, Array.getElem?_setIfInBounds_ne (by decide)]; exact g0
  have hend : s1 = sE := by rw [← hsE]; subst hs1; rfl
  have hfin : c1 = cmV CE := by rw [← hCE]; subst hc1 hc0 hs1; kernel_rfl
  rw [← hend] at hg
  clear hsE hCE hend
  replace hs1 := Lib.hid hs1
  replace hc1 := Lib.hid hc1
  go_enter Tryd.func20, Tryd.ntmps20
  go_upto_region 2 with (first
    | (refine wl_alloc 32 rfl rfl zero32 ?_; intro w1 R1 T1)
    | (refine wl_build 92 rfl rfl (built92 S) ?_)
    | (refine wl_box 92 rfl rfl rfl ?_; intro w2 E2 T2; have R2 := R1.below T2; have T2' := ups T1 T2 T1.size; have hB := RByte_any (s := ⟨S, false⟩) E2; rw [show (Ey.mk S false).left = S from rfl, hkk] at hB))
  go_upto_region 3 with (first
    | (go_at_call 38; (with_reducible refine hB.mono ?_); rintro e w3 ⟨rfl, E3, K3⟩; have T3 := K3.up T2' T1.size; have R3 := K3.box R2 (Nat.ne_of_lt R1.lt))
    | (refine wl_build 32 rfl rfl (builtk 6) ?_)
    | (refine wl_alloc 32 rfl rfl zero32 ?_; intro w4 X4 T4; have R4 := R3.below T4; have E4 : Rye w4 w1.heap.size _ := Box.below E3 T4; have T4' := ups T3 T4 T3.size)
    | (refine wl_store 32 X4 rfl rfl rfl rfl size32 rfl (by omega : 0 + 24 ≤ 24) (cmV_one _) (spl24 _ _) ?_; intro w5 Z0 K5; have T0 := K5.up T4' T3.size; have R0 := K5.box R4 (Nat.ne_of_lt R3.lt); have E0 : Rye w5 w1.heap.size _ := K5.box E4 (Nat.ne_of_lt (show w1.heap.size < w3.heap.size from E3.lt)); have y0 : w5.cell? ⟨w3.heap.size, 0, none⟩ = some (.int .u8 (6 : Nat)) := (Z0.cell 0).trans (cmV_0 _)))
  have hAE := T1.size
  have hAD := T3.size
  have l1 : w.heap.size < w1.heap.size := R1.lt
  have l2 : w1.heap.size < w3.heap.size := E3.lt
  clear R1 T1 E2 T2 R2 T2' hB E3 K3 T3 R3 X4 T4 R4 E4 T4' K5
  rw [hbe] at E0
  rw [hc0] at Z0
  have Y0 := y0
  clear y0 hc0 hs0
  have K0 := REye_num E0 (by omega)
  rw [hs1.out] at K0
  go_wp2_with (first
    | (go_at_call 39; (with_reducible refine K0.mono ?_); rintro e v0 ⟨rfl, F0, B0⟩; have Rb0 := B0.box R0 (Nat.ne_of_lt l1); have Zb0 := B0.box Z0 (Ne.symm (Nat.ne_of_lt l2)); have Tb0 := B0.up T0 hAE)
    | (refine wl_put 22 Zb0 rfl rfl rfl rfl rfl rfl size22 (by omega) hc1.out ?_; intro u0 Z1 D0; have R1 := D0.box Rb0 (by omega); have E1 : Rye u0 w1.heap.size s1 := D0.box F0 (Nat.ne_of_lt l2); have T1 := D0.up Tb0 hAD; have Y1 := (Z1.cell 0).trans g1; have hD := done_yes E1 hg)
    | (go_at_call 43; (with_reducible refine hD.mono ?_); rintro e w8 ⟨rfl, rfl⟩)
    | (refine wl_load 32 Z1 rfl rfl rfl Tryd.underlying32 rfl size32 (by omega) (all24 hfin) ?_)
    | (refine wl_store 32 R1 rfl rfl rfl rfl size32 rfl (by omega : 0 + 24 ≤ 24) (cmV_one _) (spl24 _ _) ?_; intro wA RA KA))
  refine bodyPost_ret (v := .tuple #[.agg (cmV CE), .int .i64 0]) ?_ rfl ⟨rfl, KA.up T1 (Nat.le_refl _)⟩
  exact results_cell_two rfl _ _ _ _ _ _ _ rfl rfl RA Tryd.underlying32 rfl size32
set_option maxHeartbeats 16000000 in
set_option maxRecDepth 100000 in
theorem rrdc_6n {S R : List UInt8} {sE : Ey} {CE : Cm} (w : World) (hkk : byV S = 6) (hbe : byE ⟨S, false⟩ = ⟨R, false⟩) (hlen : R.length < 100000) (hsE : endL (tyC 6) ⟨R, false⟩ = sE) (hCE : mkC 6 (decL (tyC 6) ⟨R, false⟩) = CE) (hg : ¬ (sE.bad = false ∧ sE.left = [])) :
    Calls Tryd.prog 20 #[.string (bs S)] w fun e w' => e = .returned (.tuple #[.agg (cmV (Cm.zero 0)), .int .i64 140]) ∧ Below w.heap.size w w' := by
  obtain ⟨s0, hs0⟩ : ∃ s : Ey, ⟨R, false⟩ = s := ⟨_, rfl⟩
  have l0s : s0.left.length < 100000 := by rw [← hs0]; exact hlen
  rw [hs0] at hbe hsE hCE
  obtain ⟨c0, hc0⟩ : ∃ c, cmV (Cm.zero 6) = c := ⟨_, rfl⟩
  have z0 : c0.size = 24 := by rw [← hc0]; rfl
  have g0 : c0[0]? = some (.int .u8 (6 : Nat)) := by rw [← hc0]; rfl
  obtain ⟨s1, hs1⟩ : ∃ s, nuE s0 = s := ⟨_, rfl⟩
  have l1s : s1.left.length < 100000 := by rw [← hs1]; exact nuE_lt l0s
  obtain ⟨c1, hc1⟩ : ∃ c, c0.setIfInBounds 23 (.int .u64 (nuV s0.left : Int)) = c := ⟨_, rfl⟩
  have z1 : c1.size = 24 := by rw [← hc1, Array.size_setIfInBounds]; exact z0
  have g1 : c1[0]? = some (.int .u8 (6 : Nat)) := by rw [← hc1, Array.getElem?_setIfInBounds_ne (by decide)]; exact g0
  have hend : s1 = sE := by rw [← hsE]; subst hs1; rfl
  rw [← hend] at hg
  clear hsE hCE hend
  replace hs1 := Lib.hid hs1
  replace hc1 := Lib.hid hc1
  go_enter Tryd.func20, Tryd.ntmps20
  go_upto_region 2 with (first
    | (refine wl_alloc 32 rfl rfl zero32 ?_; intro w1 R1 T1)
    | (refine wl_build 92 rfl rfl (built92 S) ?_)
    | (refine wl_box 92 rfl rfl rfl ?_; intro w2 E2 T2; have R2 := R1.below T2; have T2' := ups T1 T2 T1.size; have hB := RByte_any (s := ⟨S, false⟩) E2; rw [show (Ey.mk S false).left = S from rfl, hkk] at hB))
  go_upto_region 3 with (first
    | (go_at_call 38; (with_reducible refine hB.mono ?_); rintro e w3 ⟨rfl, E3, K3⟩; have T3 := K3.up T2' T1.size; have R3 := K3.box R2 (Nat.ne_of_lt R1.lt))
    | (refine wl_build 32 rfl rfl (builtk 6) ?_)
    | (refine wl_alloc 32 rfl rfl zero32 ?_; intro w4 X4 T4; have R4 := R3.below T4; have E4 : Rye w4 w1.heap.size _ := Box.below E3 T4; have T4' := ups T3 T4 T3.size)
    | (refine wl_store 32 X4 rfl rfl rfl rfl size32 rfl (by omega : 0 + 24 ≤ 24) (cmV_one _) (spl24 _ _) ?_; intro w5 Z0 K5; have T0 := K5.up T4' T3.size; have R0 := K5.box R4 (Nat.ne_of_lt R3.lt); have E0 : Rye w5 w1.heap.size _ := K5.box E4 (Nat.ne_of_lt (show w1.heap.size < w3.heap.size from E3.lt)); have y0 : w5.cell? ⟨w3.heap.size, 0, none⟩ = some (.int .u8 (6 : Nat)) := (Z0.cell 0).trans (cmV_0 _)))
  have hAE := T1.size
  have hAD := T3.size
  have l1 : w.heap.size < w1.heap.size := R1.lt
  have l2 : w1.heap.size < w3.heap.size := E3.lt
  clear R1 T1 E2 T2 R2 T2' hB E3 K3 T3 R3 X4 T4 R4 E4 T4' K5
  rw [hbe] at E0
  rw [hc0] at Z0
  have Y0 := y0
  clear y0 hc0 hs0
  have K0 := REye_num E0 (by omega)
  rw [hs1.out] at K0
  go_wp2_with (first
    | (go_at_call 39; (with_reducible refine K0.mono ?_); rintro e v0 ⟨rfl, F0, B0⟩; have Rb0 := B0.box R0 (Nat.ne_of_lt l1); have Zb0 := B0.box Z0 (Ne.symm (Nat.ne_of_lt l2)); have Tb0 := B0.up T0 hAE)
    | (refine wl_put 22 Zb0 rfl rfl rfl rfl rfl rfl size22 (by omega) hc1.out ?_; intro u0 Z1 D0; have R1 := D0.box Rb0 (by omega); have E1 : Rye u0 w1.heap.size s1 := D0.box F0 (Nat.ne_of_lt l2); have T1 := D0.up Tb0 hAD; have Y1 := (Z1.cell 0).trans g1; have hD := done_not E1 hg)
    | (go_at_call 43; (with_reducible refine hD.mono ?_); rintro e w8 ⟨rfl, rfl⟩)
    | (refine wl_build 32 rfl rfl built32_0 ?_)
    | (refine wl_store 32 R1 rfl rfl rfl rfl size32 rfl (by omega : 0 + 24 ≤ 24) (cmV_one _) (spl24 _ _) ?_; intro wA RA KA))
  refine bodyPost_ret (v := .tuple #[.agg (cmV (Cm.zero 0)), .int .i64 140]) ?_ rfl ⟨rfl, KA.up T1 (Nat.le_refl _)⟩
  exact results_cell_two rfl _ _ _ _ _ _ _ rfl rfl RA Tryd.underlying32 rfl size32
set_option maxHeartbeats 16000000 in
set_option maxRecDepth 100000 in
theorem rrdc_7y {S R : List UInt8} {sE : Ey} {CE : Cm} (w : World) (hkk : byV S = 7) (hbe : byE ⟨S, false⟩ = ⟨R, false⟩) (hlen : R.length < 100000) (hsE : endL (tyC 7) ⟨R, false⟩ = sE) (hCE : mkC 7 (decL (tyC 7) ⟨R, false⟩) = CE) (hg : sE.bad = false ∧ sE.left = []) :
    Calls Tryd.prog 20 #[.string (bs S)] w fun e w' => e = .returned (.tuple #[.agg (cmV CE), .int .i64 0]) ∧ Below w.heap.size w w' := by
  obtain ⟨s0, hs0⟩ : ∃ s : Ey, ⟨R, false⟩ = s := ⟨_, rfl⟩
  have l0s : s0.left.length < 100000 := by rw [← hs0]; exact hlen
  rw [hs0] at hbe hsE hCE
  obtain ⟨c0, hc0⟩ : ∃ c, cmV (Cm.zero 7) = c := ⟨_, rfl⟩
  have z0 : c0.size = 24 := by rw [← hc0]; rfl
  have g0 : c0[0]? = some (.int .u8 (7 : Nat)) := by rw [← hc0]; rfl
  obtain ⟨s1, hs1⟩ : ∃ s, nuE s0 = s := ⟨_, rfl⟩
  have l1s : s1.left.length < 100000 := by rw [← hs1]; exact nuE_lt l0s
  obtain ⟨c1, hc1⟩ : ∃ c, c0.setIfInBounds 18 (.int .i64 (sg (nuV s0.left))) = c := ⟨_, rfl⟩
  have z1 : c1.size = 24 := by rw [← hc1, Array.size_setIfInBounds]; exact z0
  have g1 : c1[0]? = some (.int .u8 (7 : Nat)) := by rw [← hc1, Array.getElem?_setIfInBounds_ne (by decide)]; exact g0
  have hend : s1 = sE := by rw [← hsE]; subst hs1; rfl
  have hfin : c1 = cmV CE := by rw [← hCE]; subst hc1 hc0 hs1; kernel_rfl
  rw [← hend] at hg
  clear hsE hCE hend
  replace hs1 := Lib.hid hs1
  replace hc1 := Lib.hid hc1
  go_enter Tryd.func20, Tryd.ntmps20
  go_upto_region 2 with (first
    | (refine wl_alloc 32 rfl rfl zero32 ?_; intro w1 R1 T1)
    | (refine wl_build 92 rfl rfl (built92 S) ?_)
    | (refine wl_box 92 rfl rfl rfl ?_; intro w2 E2 T2; have R2 := R1.below T2; have T2' := ups T1 T2 T1.size; have hB := RByte_any (s := ⟨S, false⟩) E2; rw [show (Ey.mk S false).left = S from rfl, hkk] at hB))
  go_upto_region 3 with (first
    | (go_at_call 38; (with_reducible refine hB.mono ?_); rintro e w3 ⟨rfl, E3, K3⟩; have T3 := K3.up T2' T1.size; have R3 := K3.box R2 (Nat.ne_of_lt R1.lt))
    | (refine wl_build 32 rfl rfl (builtk 7) ?_)
    | (refine wl_alloc 32 rfl rfl zero32 ?_; intro w4 X4 T4; have R4 := R3.below T4; have E4 : Rye w4 w1.heap.size _ := Box.below E3 T4; have T4' := ups T3 T4 T3.size)
    | (refine wl_store 32 X4 rfl rfl rfl rfl size32 rfl (by omega : 0 + 24 ≤ 24) (cmV_one _) (spl24 _ _) ?_; intro w5 Z0 K5; have T0 := K5.up T4' T3.size; have R0 := K5.box R4 (Nat.ne_of_lt R3.lt); have E0 : Rye w5 w1.heap.size _ := K5.box E4 (Nat.ne_of_lt (show w1.heap.size < w3.heap.size from E3.lt)); have y0 : w5.cell? ⟨w3.heap.size, 0, none⟩ = some (.int .u8 (7 : Nat)) := (Z0.cell 0).trans (cmV_0 _)))
  have hAE := T1.size
  have hAD := T3.size
  have l1 : w.heap.size < w1.heap.size := R1.lt
  have l2 : w1.heap.size < w3.heap.size := E3.lt
  clear R1 T1 E2 T2 R2 T2' hB E3 K3 T3 R3 X4 T4 R4 E4 T4' K5
  rw [hbe] at E0
  rw [hc0] at Z0
  have Y0 := y0
  clear y0 hc0 hs0
  have K0 := REye_int E0 (by omega)
  rw [hs1.out] at K0
  go_wp2_with (first
    | (go_at_call 40; (with_reducible refine K0.mono ?_); rintro e v0 ⟨rfl, F0, B0⟩; have Rb0 := B0.box R0 (Nat.ne_of_lt l1); have Zb0 := B0.box Z0 (Ne.symm (Nat.ne_of_lt l2)); have Tb0 := B0.up T0 hAE)
    | (refine wl_put 3 Zb0 rfl rfl rfl rfl rfl rfl size3 (by omega) hc1.out ?_; intro u0 Z1 D0; have R1 := D0.box Rb0 (by omega); have E1 : Rye u0 w1.heap.size s1 := D0.box F0 (Nat.ne_of_lt l2); have T1 := D0.up Tb0 hAD; have Y1 := (Z1.cell 0).trans g1; have hD := done_yes E1 hg)
    | (go_at_call 43; (with_reducible refine hD.mono ?_); rintro e w8 ⟨rfl, rfl⟩)
    | (refine wl_load 32 Z1 rfl rfl rfl Tryd.underlying32 rfl size32 (by omega) (all24 hfin) ?_)
    | (refine wl_store 32 R1 rfl rfl rfl rfl size32 rfl (by omega : 0 + 24 ≤ 24) (cmV_one _) (spl24 _ _) ?_; intro wA RA KA))
  refine bodyPost_ret (v := .tuple #[.agg (cmV CE), .int .i64 0]) ?_ rfl ⟨rfl, KA.up T1 (Nat.le_refl _)⟩
  exact results_cell_two rfl _ _ _ _ _ _ _ rfl rfl RA Tryd.underlying32 rfl size32
set_option maxHeartbeats 16000000 in
set_option maxRecDepth 100000 in
theorem rrdc_7n {S R : List UInt8} {sE : Ey} {CE : Cm} (w : World) (hkk : byV S = 7) (hbe : byE ⟨S, false⟩ = ⟨R, false⟩) (hlen : R.length < 100000) (hsE : endL (tyC 7) ⟨R, false⟩ = sE) (hCE : mkC 7 (decL (tyC 7) ⟨R, false⟩) = CE) (hg : ¬ (sE.bad = false ∧ sE.left = [])) :
    Calls Tryd.prog 20 #[.string (bs S)] w fun e w' => e = .returned (.tuple #[.agg (cmV (Cm.zero 0)), .int .i64 140]) ∧ Below w.heap.size w w' := by
  obtain ⟨s0, hs0⟩ : ∃ s : Ey, ⟨R, false⟩ = s := ⟨_, rfl⟩
  have l0s : s0.left.length < 100000 := by rw [← hs0]; exact hlen
  rw [hs0] at hbe hsE hCE
  obtain ⟨c0, hc0⟩ : ∃ c, cmV (Cm.zero 7) = c := ⟨_, rfl⟩
  have z0 : c0.size = 24 := by rw [← hc0]; rfl
  have g0 : c0[0]? = some (.int .u8 (7 : Nat)) := by rw [← hc0]; rfl
  obtain ⟨s1, hs1⟩ : ∃ s, nuE s0 = s := ⟨_, rfl⟩
  have l1s : s1.left.length < 100000 := by rw [← hs1]; exact nuE_lt l0s
  obtain ⟨c1, hc1⟩ : ∃ c, c0.setIfInBounds 18 (.int .i64 (sg (nuV s0.left))) = c := ⟨_, rfl⟩
  have z1 : c1.size = 24 := by rw [← hc1, Array.size_setIfInBounds]; exact z0
  have g1 : c1[0]? = some (.int .u8 (7 : Nat)) := by rw [← hc1, Array.getElem?_setIfInBounds_ne (by decide)]; exact g0
  have hend : s1 = sE := by rw [← hsE]; subst hs1; rfl
  rw [← hend] at hg
  clear hsE hCE hend
  replace hs1 := Lib.hid hs1
  replace hc1 := Lib.hid hc1
  go_enter Tryd.func20, Tryd.ntmps20
  go_upto_region 2 with (first
    | (refine wl_alloc 32 rfl rfl zero32 ?_; intro w1 R1 T1)
    | (refine wl_build 92 rfl rfl (built92 S) ?_)
    | (refine wl_box 92 rfl rfl rfl ?_; intro w2 E2 T2; have R2 := R1.below T2; have T2' := ups T1 T2 T1.size; have hB := RByte_any (s := ⟨S, false⟩) E2; rw [show (Ey.mk S false).left = S from rfl, hkk] at hB))
  go_upto_region 3 with (first
    | (go_at_call 38; (with_reducible refine hB.mono ?_); rintro e w3 ⟨rfl, E3, K3⟩; have T3 := K3.up T2' T1.size; have R3 := K3.box R2 (Nat.ne_of_lt R1.lt))
    | (refine wl_build 32 rfl rfl (builtk 7) ?_)
    | (refine wl_alloc 32 rfl rfl zero32 ?_; intro w4 X4 T4; have R4 := R3.below T4; have E4 : Rye w4 w1.heap.size _ := Box.below E3 T4; have T4' := ups T3 T4 T3.size)
    | (refine wl_store 32 X4 rfl rfl rfl rfl size32 rfl (by omega : 0 + 24 ≤ 24) (cmV_one _) (spl24 _ _) ?_; intro w5 Z0 K5; have T0 := K5.up T4' T3.size; have R0 := K5.box R4 (Nat.ne_of_lt R3.lt); have E0 : Rye w5 w1.heap.size _ := K5.box E4 (Nat.ne_of_lt (show w1.heap.size < w3.heap.size from E3.lt)); have y0 : w5.cell? ⟨w3.heap.size, 0, none⟩ = some (.int .u8 (7 : Nat)) := (Z0.cell 0).trans (cmV_0 _)))
  have hAE := T1.size
  have hAD := T3.size
  have l1 : w.heap.size < w1.heap.size := R1.lt
  have l2 : w1.heap.size < w3.heap.size := E3.lt
  clear R1 T1 E2 T2 R2 T2' hB E3 K3 T3 R3 X4 T4 R4 E4 T4' K5
  rw [hbe] at E0
  rw [hc0] at Z0
  have Y0 := y0
  clear y0 hc0 hs0
  have K0 := REye_int E0 (by omega)
  rw [hs1.out] at K0
  go_wp2_with (first
    | (go_at_call 40; (with_reducible refine K0.mono ?_); rintro e v0 ⟨rfl, F0, B0⟩; have Rb0 := B0.box R0 (Nat.ne_of_lt l1); have Zb0 := B0.box Z0 (Ne.symm (Nat.ne_of_lt l2)); have Tb0 := B0.up T0 hAE)
    | (refine wl_put 3 Zb0 rfl rfl rfl rfl rfl rfl size3 (by omega) hc1.out ?_; intro u0 Z1 D0; have R1 := D0.box Rb0 (by omega); have E1 : Rye u0 w1.heap.size s1 := D0.box F0 (Nat.ne_of_lt l2); have T1 := D0.up Tb0 hAD; have Y1 := (Z1.cell 0).trans g1; have hD := done_not E1 hg)
    | (go_at_call 43; (with_reducible refine hD.mono ?_); rintro e w8 ⟨rfl, rfl⟩)
    | (refine wl_build 32 rfl rfl built32_0 ?_)
    | (refine wl_store 32 R1 rfl rfl rfl rfl size32 rfl (by omega : 0 + 24 ≤ 24) (cmV_one _) (spl24 _ _) ?_; intro wA RA KA))
  refine bodyPost_ret (v := .tuple #[.agg (cmV (Cm.zero 0)), .int .i64 140]) ?_ rfl ⟨rfl, KA.up T1 (Nat.le_refl _)⟩
  exact results_cell_two rfl _ _ _ _ _ _ _ rfl rfl RA Tryd.underlying32 rfl size32
theorem RReadCommand_any (S : List UInt8) (w : World) (hlen : S.length < 100000) : Calls Tryd.prog 20 #[.string (bs S)] w fun e w' => e = .returned (rdcV S) ∧ Below w.heap.size w w' := by
  cases hno : isK (byV S) with
  | false =>
    have h := rrdc_no S w hno
    rw [show rdcV S = _ by unfold rdcV; rw [rdC_no hno]]
    exact h
  | true =>
    have hn := of_decide_eq_true (show decide (1 ≤ byV S ∧ byV S ≤ 7) = true from hno)
    obtain ⟨b, R, hSe, hbe⟩ := byE_at hno
    have hRl : R.length < 100000 := by rw [hSe, List.length_cons] at hlen; omega
    rw [rdcV_at hno hSe]
    by_cases hg : (endL (tyC (byV S)) ⟨R, false⟩).bad = false ∧ (endL (tyC (byV S)) ⟨R, false⟩).left = []
    · rw [if_pos hg]
      rcases seven hn.1 hn.2 with e | e | e | e | e | e | e <;> rw [e] at hg ⊢
      · exact rrdc_1y w e hbe hRl rfl rfl hg
      · exact rrdc_2y w e hbe hRl rfl rfl hg
      · exact rrdc_3y w e hbe hRl rfl rfl hg
      · exact rrdc_4y w e hbe hRl rfl rfl hg
      · exact rrdc_5y w e hbe hRl rfl rfl hg
      · exact rrdc_6y w e hbe hRl rfl rfl hg
      · exact rrdc_7y w e hbe hRl rfl rfl hg
    · rw [if_neg hg]
      rcases seven hn.1 hn.2 with e | e | e | e | e | e | e <;> rw [e] at hg
      · exact rrdc_1n w e hbe hRl rfl rfl hg
      · exact rrdc_2n w e hbe hRl rfl rfl hg
      · exact rrdc_3n w e hbe hRl rfl rfl hg
      · exact rrdc_4n w e hbe hRl rfl rfl hg
      · exact rrdc_5n w e hbe hRl rfl rfl hg
      · exact rrdc_6n w e hbe hRl rfl rfl hg
      · exact rrdc_7n w e hbe hRl rfl rfl hg
end Go.Proofs.YtamjnekdfhocdaaDoor
