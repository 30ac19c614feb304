/- The command, the reply whose bytes those are. No condition. -/
import Derived.Test.YtamjnekdfhocdaaDoorCmJ
import Derived.Test.YtamjnekdfhocdaaDoorCmC
namespace Go.Proofs.YtamjnekdfhocdaaDoor
open Go.ChangeShapes Go.WideShapes Go.Deep Go.RowKit
set_option linter.unusedVariables false
set_option linter.unusedSimpArgs false
theorem results_cell_two {P : Program} {fn : Func} {p q : Tmp} {ty : TypeId} (h : fn.results = #[.cell p ty, .tmp q]) (tmps : Array Value) (w : World) (g : Nat) (t : TypeId) (cs : Array Value) (v : Value) (d : TypeDesc)
    (hp : tmps.getD p undef = .pointer (some ⟨g, 0, none⟩)) (hv : tmps.getD q undef = v) (hg : Box w g cs t)
    (hu : P.underlying ty = some d) (hd : (match d with | .struct _ | .array _ _ => true | _ => false) = true) (hi : (P.info? ty).map (·.size) = some cs.size) :
    (results fn tmps).run P w = .ok (.tuple #[.agg cs, v]) w := by
  have hp' : tmps[p]?.getD undef = .pointer (some ⟨g, 0, none⟩) := by simpa using hp
  have hv' : tmps[q]?.getD undef = v := by simpa using hv
  simp [results, h, hp', hv', asAddr, run_loadVar_row w g t ty cs (0, 0) d hg hu hd hi]
noncomputable def rdcV (S : List UInt8) : Value := match rdC S with
  | some C => .tuple #[.agg (cmV C), .int .i64 0]
  | none => .tuple #[.agg (cmV (Cm.zero 0)), .int .i64 140]
theorem builtk (k : Nat) : Tryd.prog.built 32 [(0, .int .u8 (k : Int))] = some (cmV (Cm.zero k)) := by kernel_rfl
theorem built32_0 : Tryd.prog.built 32 [] = some (cmV (Cm.zero 0)) := by kernel_rfl
theorem built37_0 : Tryd.prog.built 37 [] = some (rpV ⟨0, 0, 0, 0, 0, 0, 0, 0, 0, 0⟩) := by kernel_rfl
theorem rdC_no {S : List UInt8} (h : isK (byV S) = false) : rdC S = none := by
  have hn := of_decide_eq_false (show decide (1 ≤ byV S ∧ byV S ≤ 7) = false from h)
  cases S with
  | nil => rfl
  | cons b R =>
    unfold rdC
    simp only
    rw [if_neg (fun q => hn ⟨q.1, q.2.1⟩)]
/-- What is behind the first byte. -/
theorem byE_at {S : List UInt8} (h : isK (byV S) = true) : ∃ b R, S = b :: R ∧ byE ⟨S, false⟩ = ⟨R, false⟩ := by
  have hn := of_decide_eq_true (show decide (1 ≤ byV S ∧ byV S ≤ 7) = true from h)
  cases S with
  | nil => exact absurd hn.1 (by decide)
  | cons b R => exact ⟨b, R, rfl, byE_cons rfl⟩
theorem end_good {s : Ey} (h : s.bad = false ∧ s.left = []) : endV s = 0 := by
  unfold endV
  rw [h.1, h.2]
  rfl
theorem end_bad {s : Ey} (h : ¬ (s.bad = false ∧ s.left = [])) : endV s = 140 := by
  unfold endV
  rw [if_pos]
  by_cases hb : s.bad = true
  · rw [hb]; rfl
  · have hb' : s.bad = false := by cases hq : s.bad with
      | true => exact absurd hq hb
      | false => rfl
    rw [hb', Bool.false_or]
    exact decide_eq_true (fun q => h ⟨hb', q⟩)
theorem Names.but2 {A B : Nat} {W w w' : World} (h : Names W) (K : But2 A B w w') (T : Below W.heap.size W w) (hA : W.heap.size ≤ A) (hB : W.heap.size ≤ B) : Names w' := h.up (K.up T hA hB)
set_option maxHeartbeats 16000000 in
set_option maxRecDepth 100000 in
theorem rdc_no (S : List UInt8) (w : World) (hN : Names w) (hno : isK (byV S) = false) : Calls Tryd.prog 19 #[.string (bs S)] w fun e w' => e = .returned (.tuple #[.agg (cmV (Cm.zero 0)), .int .i64 140]) ∧ Below w.heap.size w w' := by
  have hO := Open_any w S
  have hk : byV S < 256 := byV_lt S
  obtain ⟨k, hkk⟩ : ∃ k, byV S = k := ⟨_, rfl⟩
  rw [hkk] at hk hno
  go_enter Tryd.func19, Tryd.ntmps19
  go_upto_region 1 with (refine wl_alloc 32 rfl rfl zero32 ?_; intro w1 R1 T1; have hO := Open_any w1 S)
  go_upto_region 4 with (first
    | (go_at_call 34; (with_reducible refine hO.mono ?_); rintro e w2 ⟨rfl, E2, T2⟩; have R2 := R1.below T2; have T2' := ups T1 T2 T1.size; have hB := EByte_any E2; rw [show (Ey.mk S false).left = S from rfl, hkk] at hB)
    | (go_at_call 35; (with_reducible refine hB.mono ?_); rintro e w3 ⟨rfl, E3, K3⟩; have T3 := K3.up T2' T1.size; have R3 := K3.box R2 (Nat.ne_of_lt R1.lt))
    | (refine wl_build 32 rfl rfl (builtk k) ?_)
    | (refine wl_alloc 32 rfl rfl zero32 ?_; intro w4 X4 T4; have R4 := R3.below T4; have E4 : Eye w4 w1.heap.size _ := E3.below T4; have T4' := ups T3 T4 T3.size)
    | (refine wl_store 32 X4 rfl rfl rfl rfl size32 rfl (by omega : 0 + 24 ≤ 24) (cmV_one _) (spl24 _ _) ?_; intro w5 X5 K5; have T5 := K5.up T4' T3.size; have R5 := K5.box R4 (Nat.ne_of_lt R3.lt); have E5 : Eye w5 w1.heap.size _ := K5.box E4 (Nat.ne_of_lt E3.lt); have N5 := hN.up T5; have hc5 : w5.cell? ⟨w3.heap.size, 0, none⟩ = some (.int .u8 (k : Int)) := (X5.cell 0).trans (cmV_0 _); have hA := Name_any N5 k hk)
    | (go_at_call 13; (with_reducible refine hA.mono ?_); rintro e w6 ⟨rfl, rfl⟩))
  have hS1 := T1.size
  have hS3 := T3.size
  have l1 : w.heap.size < w1.heap.size := R1.lt
  have l2 : w1.heap.size < w3.heap.size := E3.lt
  clear hO hA hc5 R1 T1 E2 T2 R2 T2' hB E3 K3 T3 R3 X4 T4 R4 E4 T4' K5
  go_wp2_with (first
    | (refine wl_build 32 rfl rfl built32_0 ?_)
    | (refine wl_store 32 R5 rfl rfl rfl rfl size32 rfl (by omega : 0 + 24 ≤ 24) (cmV_one _) (spl24 _ _) ?_; intro w7 R7 K7))
  refine bodyPost_ret (v := .tuple #[.agg (cmV (Cm.zero 0)), .int .i64 140]) ?_ rfl ⟨rfl, K7.up T5 (Nat.le_refl _)⟩
  exact results_cell_two rfl _ _ _ _ _ _ _ rfl rfl R7 Tryd.underlying32 rfl size32
set_option maxHeartbeats 16000000 in
set_option maxRecDepth 100000 in
theorem rdc_yes (S : List UInt8) (w : World) (hN : Names w) (hno : isK (byV S) = true) (hlen : S.length < 100000) :
    Calls Tryd.prog 19 #[.string (bs S)] w fun e w' => e = .returned (rdcV S) ∧ Below w.heap.size w w' := by
  have hn := of_decide_eq_true (show decide (1 ≤ byV S ∧ byV S ≤ 7) = true from hno)
  obtain ⟨b, R, hSe, hbe⟩ := byE_at hno
  have hRl : R.length < 100000 := by rw [hSe, List.length_cons] at hlen; omega
  have hval : rdcV S = if (endL (tyC (byV S)) ⟨R, false⟩).bad = false ∧ (endL (tyC (byV S)) ⟨R, false⟩).left = [] then .tuple #[.agg (cmV (mkC (byV S) (decL (tyC (byV S)) ⟨R, false⟩))), .int .i64 0] else .tuple #[.agg (cmV (Cm.zero 0)), .int .i64 140] := by
    subst hSe
    have hn' : 1 ≤ b.toNat ∧ b.toNat ≤ 7 := hn
    show rdcV (b :: R) = if (endL (tyC b.toNat) ⟨R, false⟩).bad = false ∧ (endL (tyC b.toNat) ⟨R, false⟩).left = [] then _ else _
    by_cases hg : (endL (tyC b.toNat) ⟨R, false⟩).bad = false ∧ (endL (tyC b.toNat) ⟨R, false⟩).left = []
    · rw [if_pos hg]
      have e : rdC (b :: R) = some (mkC b.toNat (decL (tyC b.toNat) ⟨R, false⟩)) := by unfold rdC; exact if_pos ⟨hn'.1, hn'.2, hg.1, hg.2⟩
      unfold rdcV
      rw [e]
      rfl
    · rw [if_neg hg]
      have e : rdC (b :: R) = none := by unfold rdC; exact if_neg (fun q => hg q.2.2)
      unfold rdcV
      rw [e]
  rw [hval]
  clear hval hSe
  have hk : byV S < 256 := byV_lt S
  obtain ⟨k, hkk⟩ : ∃ k, byV S = k := ⟨_, rfl⟩
  rw [hkk] at hk hno hn ⊢
  obtain ⟨sE, hsE⟩ : ∃ s, endL (tyC k) ⟨R, false⟩ = s := ⟨_, rfl⟩
  obtain ⟨CE, hCE⟩ : ∃ C, mkC k (decL (tyC k) ⟨R, false⟩) = C := ⟨_, rfl⟩
  rw [hsE, hCE]
  replace hsE := Lib.hid hsE
  replace hCE := Lib.hid hCE
  by_cases hg : sE.bad = false ∧ sE.left = []
  · rw [if_pos hg]
    have hv := end_good hg
    clear hg
    have hO := Open_any w S
    go_enter Tryd.func19, Tryd.ntmps19
    go_upto_region 1 with (refine wl_alloc 32 rfl rfl zero32 ?_; intro w1 R1 T1; have hO := Open_any w1 S)
    go_upto_region 4 with (first
      | (go_at_call 34; (with_reducible refine hO.mono ?_); rintro e w2 ⟨rfl, E2, T2⟩; have R2 := R1.below T2; have T2' := ups T1 T2 T1.size; have hB := EByte_any E2; rw [show (Ey.mk S false).left = S from rfl, hkk] at hB)
      | (go_at_call 35; (with_reducible refine hB.mono ?_); rintro e w3 ⟨rfl, E3, K3⟩; have T3 := K3.up T2' T1.size; have R3 := K3.box R2 (Nat.ne_of_lt R1.lt))
      | (refine wl_build 32 rfl rfl (builtk k) ?_)
      | (refine wl_alloc 32 rfl rfl zero32 ?_; intro w4 X4 T4; have R4 := R3.below T4; have E4 : Eye w4 w1.heap.size _ := E3.below T4; have T4' := ups T3 T4 T3.size)
      | (refine wl_store 32 X4 rfl rfl rfl rfl size32 rfl (by omega : 0 + 24 ≤ 24) (cmV_one _) (spl24 _ _) ?_; intro w5 X5 K5; have T5 := K5.up T4' T3.size; have R5 := K5.box R4 (Nat.ne_of_lt R3.lt); have E5 : Eye w5 w1.heap.size _ := K5.box E4 (Nat.ne_of_lt E3.lt); have N5 := hN.up T5; have hc5 : w5.cell? ⟨w3.heap.size, 0, none⟩ = some (.int .u8 (k : Int)) := (X5.cell 0).trans (cmV_0 _); have hA := Name_any N5 k hk)
      | (go_at_call 13; (with_reducible refine hA.mono ?_); rintro e w6 ⟨rfl, rfl⟩))
    have hS1 := T1.size
    have hS3 := T3.size
    have l1 : w.heap.size < w1.heap.size := R1.lt
    have l2 : w1.heap.size < w3.heap.size := E3.lt
    clear hO hA hc5 R1 T1 E2 T2 R2 T2' hB E3 K3 T3 R3 X4 T4 R4 E4 T4' K5
    rw [hbe] at E5
    have hH : Calls Tryd.prog 26 #[ptr w3.heap.size] w5 fun e w' => e = .returned (hadV w3.heap.size k) ∧ w5 = w' := had_any (C := Cm.zero k) X5
    have hR := rd_cmd hn.1 hn.2 w3.heap.size 32 w5 w1.heap.size ⟨R, false⟩ _ E5 (fun h => by cases h) hRl X5 (Nat.ne_of_lt l2) (lyC_lt hn.1 hn.2)
    rw [lyC_ty hn.1 hn.2, lyC_put hn.1 hn.2 ⟨R, false⟩, hsE.out, hCE.out] at hR
    clear hsE hCE E5 X5 hbe
    go_wp2_with (first
      | (go_at_call 26; (with_reducible refine hH.mono ?_); rintro e w7 ⟨rfl, rfl⟩)
      | (go_at_call 36; (with_reducible refine hR.mono ?_); rintro e w8 ⟨rfl, E8, X8, K8⟩; have T8 := K8.up T5 (Nat.le_of_lt l1) (by omega); have R8 := K8.box R5 (Nat.ne_of_lt l1) (by omega); have hE := End_any E8; rw [hv] at hE)
      | (go_at_call 37; (with_reducible refine hE.mono ?_); rintro e w9 ⟨rfl, rfl⟩)
      | (refine wl_load 32 X8 rfl rfl rfl Tryd.underlying32 rfl size32 (by omega : 0 + 24 ≤ 24) (cmV_all _) ?_)
      | (refine wl_store 32 R8 rfl rfl rfl rfl size32 rfl (by omega : 0 + 24 ≤ 24) (cmV_one _) (spl24 _ _) ?_; intro wA RA KA))
    refine bodyPost_ret (v := .tuple #[.agg (cmV (CE)), .int .i64 0]) ?_ rfl ⟨rfl, KA.up T8 (Nat.le_refl _)⟩
    exact results_cell_two rfl _ _ _ _ _ _ _ rfl rfl RA Tryd.underlying32 rfl size32
  · rw [if_neg hg]
    have hv := end_bad hg
    clear hg
    have hO := Open_any w S
    go_enter Tryd.func19, Tryd.ntmps19
    go_upto_region 1 with (refine wl_alloc 32 rfl rfl zero32 ?_; intro w1 R1 T1; have hO := Open_any w1 S)
    go_upto_region 4 with (first
      | (go_at_call 34; (with_reducible refine hO.mono ?_); rintro e w2 ⟨rfl, E2, T2⟩; have R2 := R1.below T2; have T2' := ups T1 T2 T1.size; have hB := EByte_any E2; rw [show (Ey.mk S false).left = S from rfl, hkk] at hB)
      | (go_at_call 35; (with_reducible refine hB.mono ?_); rintro e w3 ⟨rfl, E3, K3⟩; have T3 := K3.up T2' T1.size; have R3 := K3.box R2 (Nat.ne_of_lt R1.lt))
      | (refine wl_build 32 rfl rfl (builtk k) ?_)
      | (refine wl_alloc 32 rfl rfl zero32 ?_; intro w4 X4 T4; have R4 := R3.below T4; have E4 : Eye w4 w1.heap.size _ := E3.below T4; have T4' := ups T3 T4 T3.size)
      | (refine wl_store 32 X4 rfl rfl rfl rfl size32 rfl (by omega : 0 + 24 ≤ 24) (cmV_one _) (spl24 _ _) ?_; intro w5 X5 K5; have T5 := K5.up T4' T3.size; have R5 := K5.box R4 (Nat.ne_of_lt R3.lt); have E5 : Eye w5 w1.heap.size _ := K5.box E4 (Nat.ne_of_lt E3.lt); have N5 := hN.up T5; have hc5 : w5.cell? ⟨w3.heap.size, 0, none⟩ = some (.int .u8 (k : Int)) := (X5.cell 0).trans (cmV_0 _); have hA := Name_any N5 k hk)
      | (go_at_call 13; (with_reducible refine hA.mono ?_); rintro e w6 ⟨rfl, rfl⟩))
    have hS1 := T1.size
    have hS3 := T3.size
    have l1 : w.heap.size < w1.heap.size := R1.lt
    have l2 : w1.heap.size < w3.heap.size := E3.lt
    clear hO hA hc5 R1 T1 E2 T2 R2 T2' hB E3 K3 T3 R3 X4 T4 R4 E4 T4' K5
    rw [hbe] at E5
    have hH : Calls Tryd.prog 26 #[ptr w3.heap.size] w5 fun e w' => e = .returned (hadV w3.heap.size k) ∧ w5 = w' := had_any (C := Cm.zero k) X5
    have hR := rd_cmd hn.1 hn.2 w3.heap.size 32 w5 w1.heap.size ⟨R, false⟩ _ E5 (fun h => by cases h) hRl X5 (Nat.ne_of_lt l2) (lyC_lt hn.1 hn.2)
    rw [lyC_ty hn.1 hn.2, lyC_put hn.1 hn.2 ⟨R, false⟩, hsE.out, hCE.out] at hR
    clear hsE hCE E5 X5 hbe
    go_wp2_with (first
      | (go_at_call 26; (with_reducible refine hH.mono ?_); rintro e w7 ⟨rfl, rfl⟩)
      | (go_at_call 36; (with_reducible refine hR.mono ?_); rintro e w8 ⟨rfl, E8, X8, K8⟩; have T8 := K8.up T5 (Nat.le_of_lt l1) (by omega); have R8 := K8.box R5 (Nat.ne_of_lt l1) (by omega); have hE := End_any E8; rw [hv] at hE)
      | (go_at_call 37; (with_reducible refine hE.mono ?_); rintro e w9 ⟨rfl, rfl⟩)
      | (refine wl_build 32 rfl rfl built32_0 ?_)
      | (refine wl_store 32 R8 rfl rfl rfl rfl size32 rfl (by omega : 0 + 24 ≤ 24) (cmV_one _) (spl24 _ _) ?_; intro wA RA KA))
    refine bodyPost_ret (v := .tuple #[.agg (cmV (Cm.zero 0)), .int .i64 140]) ?_ rfl ⟨rfl, KA.up T8 (Nat.le_refl _)⟩
    exact results_cell_two rfl _ _ _ _ _ _ _ rfl rfl RA Tryd.underlying32 rfl size32
theorem ReadCommand_any (S : List UInt8) (w : World) (hN : Names w) (hlen : S.length < 100000) : Calls Tryd.prog 19 #[.string (bs S)] w fun e w' => e = .returned (rdcV S) ∧ Below w.heap.size w w' := by
  cases hno : isK (byV S) with
  | true => exact rdc_yes S w hN hno hlen
  | false =>
    have h := rdc_no S w hN hno
    rw [show rdcV S = _ by unfold rdcV; rw [rdC_no hno]]
    exact h
end Go.Proofs.YtamjnekdfhocdaaDoor
