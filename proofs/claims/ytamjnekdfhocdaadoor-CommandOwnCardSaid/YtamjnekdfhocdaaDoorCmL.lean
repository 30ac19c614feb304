/- The reply whose bytes those are. No condition. -/
import Derived.Test.YtamjnekdfhocdaaDoorCmK
namespace Go.Proofs.YtamjnekdfhocdaaDoor
open Go.ChangeShapes Go.WideShapes Go.Deep Go.RowKit
set_option linter.unusedVariables false
set_option linter.unusedSimpArgs false
abbrev Rp0 : Rp := ⟨0, 0, 0, 0, 0, 0, 0, 0, 0, 0⟩
noncomputable def rdrV (S : List UInt8) : Value := match rdR S with
  | some r => .tuple #[.agg (rpV r), .int .i64 0]
  | none => .tuple #[.agg (rpV Rp0), .int .i64 140]
theorem rdR_no {S : List UInt8} (h : byV S ≠ 0) : rdR S = none := by
  cases S with
  | nil => rfl
  | cons b R =>
    unfold rdR
    simp only
    rw [if_neg (fun q => h q.1)]
theorem rdrV_no {S : List UInt8} (h : byV S ≠ 0) : rdrV S = .tuple #[.agg (rpV Rp0), .int .i64 140] := by
  unfold rdrV
  rw [rdR_no h]
theorem rdrV_at {S : List UInt8} (h : byV S = 0) : rdrV S = if (endL tyR (byE ⟨S, false⟩)).bad = false ∧ (endL tyR (byE ⟨S, false⟩)).left = [] then .tuple #[.agg (rpV (mkR (decL tyR (byE ⟨S, false⟩)))), .int .i64 0] else .tuple #[.agg (rpV Rp0), .int .i64 140] := by
  cases S with
  | nil =>
    have e : byE ⟨[], false⟩ = Ey.fail := byE_nil rfl
    rw [e, endL_fail, if_neg (fun q => by cases q.1)]
    rfl
  | cons b R =>
    have e : byE ⟨b :: R, false⟩ = ⟨R, false⟩ := byE_cons rfl
    have hb : b.toNat = 0 := h
    rw [e]
    by_cases hg : (endL tyR ⟨R, false⟩).bad = false ∧ (endL tyR ⟨R, false⟩).left = []
    · rw [if_pos hg]
      have e : rdR (b :: R) = some (mkR (decL tyR ⟨R, false⟩)) := by unfold rdR; exact if_pos ⟨hb, hg.1, hg.2⟩
      unfold rdrV
      rw [e]
    · rw [if_neg hg]
      have e : rdR (b :: R) = none := by unfold rdR; exact if_neg (fun q => hg q.2)
      unfold rdrV
      rw [e]
set_option maxHeartbeats 16000000 in
set_option maxRecDepth 100000 in
theorem rdr_no (S : List UInt8) (w : World) (hno : byV S ≠ 0) : Calls Tryd.prog 21 #[.string (bs S)] w fun e w' => e = .returned (.tuple #[.agg (rpV Rp0), .int .i64 140]) ∧ Below w.heap.size w w' := by
  obtain ⟨k, hkk⟩ : ∃ k, byV S = k := ⟨_, rfl⟩
  rw [hkk] at hno
  have j0 : ((k : Int) == 0) = false := beq_eq_false_iff_ne.2 (by omega)
  have hO := Open_any w S
  go_enter Tryd.func21, Tryd.ntmps21
  go_upto_region 1 with (refine wl_alloc 37 rfl rfl zero37 ?_; intro w1 R1 T1; have hO := Open_any w1 S)
  go_wp2_with (first
    | (go_at_call 34; (with_reducible refine hO.mono ?_); rintro e w2 ⟨rfl, E2, T2⟩; have R2 := R1.below T2; have T2' := ups T1 T2 T1.size; have hB := EByte_any E2; rw [show (Ey.mk S false).left = S from rfl, hkk] at hB)
    | (go_at_call 35; (with_reducible refine hB.mono ?_); rintro e w3 ⟨rfl, E3, K3⟩; have T3 := K3.up T2' T1.size; have R3 := K3.box R2 (Nat.ne_of_lt R1.lt))
    | (refine wl_build 37 rfl rfl built37_0 ?_)
    | (refine wl_store 37 R3 rfl rfl rfl rfl size37 rfl (by omega : 0 + 10 ≤ 10) (rpV_one _) (spl10 _ _) ?_; intro w7 R7 K7))
  refine bodyPost_ret (v := .tuple #[.agg (rpV Rp0), .int .i64 140]) ?_ rfl ⟨rfl, K7.up T3 (Nat.le_refl _)⟩
  exact results_cell_two rfl _ _ _ _ _ _ _ rfl rfl R7 Tryd.underlying37 rfl size37
set_option maxHeartbeats 16000000 in
set_option maxRecDepth 100000 in
theorem rdr_yes (S : List UInt8) (w : World) (hno : byV S = 0) (hlen : S.length < 100000) : Calls Tryd.prog 21 #[.string (bs S)] w fun e w' => e = .returned (rdrV S) ∧ Below w.heap.size w w' := by
  rw [rdrV_at hno]
  have hok : (byE ⟨S, false⟩).ok := byE_ok (fun h => by cases h)
  have hl1 : (byE ⟨S, false⟩).left.length < 100000 := Nat.lt_of_le_of_lt (byE_len _) hlen
  obtain ⟨sE, hsE⟩ : ∃ s, endL tyR (byE ⟨S, false⟩) = s := ⟨_, rfl⟩
  obtain ⟨CE, hCE⟩ : ∃ C, mkR (decL tyR (byE ⟨S, false⟩)) = C := ⟨_, rfl⟩
  rw [hsE, hCE]
  replace hsE := Lib.hid hsE
  replace hCE := Lib.hid hCE
  by_cases hg : sE.bad = false ∧ sE.left = []
  · rw [if_pos hg]
    have hv := end_good hg
    clear hg
    have hkk := hno
    have hO := Open_any w S
    go_enter Tryd.func21, Tryd.ntmps21
    go_upto_region 1 with (refine wl_alloc 37 rfl rfl zero37 ?_; intro w1 R1 T1; have hO := Open_any w1 S)
    go_wp2_with (first
      | (go_at_call 34; (with_reducible refine hO.mono ?_); rintro e w2 ⟨rfl, E2, T2⟩; have R2 := R1.below T2; have T2' := ups T1 T2 T1.size; have hB := EByte_any E2; rw [show (Ey.mk S false).left = S from rfl, hkk] at hB)
      | (go_at_call 35; (with_reducible refine hB.mono ?_); rintro e w3 ⟨rfl, E3, K3⟩; have T3 := K3.up T2' T1.size; have R3 := K3.box R2 (Nat.ne_of_lt R1.lt))
      | (refine wl_alloc 37 rfl rfl zero37 ?_; intro w4 X4 T4; have R4 := R3.below T4; have E4 : Eye w4 w1.heap.size _ := E3.below T4; have T4' := ups T3 T4 T3.size; have l1 := R1.lt; have l2 := E3.lt; have hR := rd_rep w3.heap.size 37 w4 w1.heap.size _ _ E4 hok hl1 X4 (Nat.ne_of_lt l2) (by decide); rw [show lyR.map (·.1) = tyR from rfl, lyR_put, hsE.out, hCE.out] at hR)
      | (go_at_call 36; (with_reducible refine hR.mono ?_); rintro e w8 ⟨rfl, E8, X8, K8⟩; have T8 := K8.up T4' (Nat.le_of_lt l1) (by omega); have R8 := K8.box R4 (Nat.ne_of_lt l1) (by omega); have hE := End_any E8; rw [hv] at hE)
      | (go_at_call 37; (with_reducible refine hE.mono ?_); rintro e w9 ⟨rfl, rfl⟩)
      | (refine wl_load 37 X8 rfl rfl rfl Tryd.underlying37 rfl size37 (by omega : 0 + 10 ≤ 10) (rpV_all _) ?_)
      | (refine wl_store 37 R8 rfl rfl rfl rfl size37 rfl (by omega : 0 + 10 ≤ 10) (rpV_one _) (spl10 _ _) ?_; intro wA RA KA))
    refine bodyPost_ret (v := .tuple #[.agg (rpV (CE)), .int .i64 0]) ?_ rfl ⟨rfl, KA.up T8 (Nat.le_refl _)⟩
    exact results_cell_two rfl _ _ _ _ _ _ _ rfl rfl RA Tryd.underlying37 rfl size37
  · rw [if_neg hg]
    have hv := end_bad hg
    clear hg
    have hkk := hno
    have hO := Open_any w S
    go_enter Tryd.func21, Tryd.ntmps21
    go_upto_region 1 with (refine wl_alloc 37 rfl rfl zero37 ?_; intro w1 R1 T1; have hO := Open_any w1 S)
    go_wp2_with (first
      | (go_at_call 34; (with_reducible refine hO.mono ?_); rintro e w2 ⟨rfl, E2, T2⟩; have R2 := R1.below T2; have T2' := ups T1 T2 T1.size; have hB := EByte_any E2; rw [show (Ey.mk S false).left = S from rfl, hkk] at hB)
      | (go_at_call 35; (with_reducible refine hB.mono ?_); rintro e w3 ⟨rfl, E3, K3⟩; have T3 := K3.up T2' T1.size; have R3 := K3.box R2 (Nat.ne_of_lt R1.lt))
      | (refine wl_alloc 37 rfl rfl zero37 ?_; intro w4 X4 T4; have R4 := R3.below T4; have E4 : Eye w4 w1.heap.size _ := E3.below T4; have T4' := ups T3 T4 T3.size; have l1 := R1.lt; have l2 := E3.lt; have hR := rd_rep w3.heap.size 37 w4 w1.heap.size _ _ E4 hok hl1 X4 (Nat.ne_of_lt l2) (by decide); rw [show lyR.map (·.1) = tyR from rfl, lyR_put, hsE.out, hCE.out] at hR)
      | (go_at_call 36; (with_reducible refine hR.mono ?_); rintro e w8 ⟨rfl, E8, X8, K8⟩; have T8 := K8.up T4' (Nat.le_of_lt l1) (by omega); have R8 := K8.box R4 (Nat.ne_of_lt l1) (by omega); have hE := End_any E8; rw [hv] at hE)
      | (go_at_call 37; (with_reducible refine hE.mono ?_); rintro e w9 ⟨rfl, rfl⟩)
      | (refine wl_build 37 rfl rfl built37_0 ?_)
      | (refine wl_store 37 R8 rfl rfl rfl rfl size37 rfl (by omega : 0 + 10 ≤ 10) (rpV_one _) (spl10 _ _) ?_; intro wA RA KA))
    refine bodyPost_ret (v := .tuple #[.agg (rpV (Rp0)), .int .i64 140]) ?_ rfl ⟨rfl, KA.up T8 (Nat.le_refl _)⟩
    exact results_cell_two rfl _ _ _ _ _ _ _ rfl rfl RA Tryd.underlying37 rfl size37
theorem ReadReply_any (S : List UInt8) (w : World) (hlen : S.length < 100000) : Calls Tryd.prog 21 #[.string (bs S)] w fun e w' => e = .returned (rdrV S) ∧ Below w.heap.size w w' := by
  by_cases hno : byV S = 0
  · exact rdr_yes S w hno hlen
  · rw [rdrV_no hno]
    exact rdr_no S w hno
end Go.Proofs.YtamjnekdfhocdaaDoor
