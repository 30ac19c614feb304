/- A book that nobody made has nothing. Condition: numbers are what the fields can hold. -/
import Derived.Test.YtjbpaapglamilaaAdW
namespace Go.Proofs.Ytjbpaapglamilaa.H
open Go.ChangeShapes Go.WideShapes Go.Deep Go.RowKit W
set_option linter.unusedVariables false
set_option linter.unusedSimpArgs false
/-- A pointer to no book, or to one that nobody made. -/
def No (w : World) (p : Value) : Prop := p = .pointer none ∨ ∃ B, p = ptr B ∧ Box w B #[eU 0, .map none, .slice none 0 0] 40
section
variable {w w' : World} {p : Value} {k : Int} {x : Cv} {keep : Bool}
theorem No.below (h : No w p) (hb : Below w.heap.size w w') : No w' p := by
  rcases h with h | ⟨B, e, h⟩
  · exact .inl h
  · exact .inr ⟨B, e, h.below hb⟩
theorem no_rate (h : No w p) : Calls Try.prog 16 #[p] w fun e w' => e = .returned (eU 0) ∧ w = w' := by
  rcases h with rfl | ⟨B, rfl, h⟩
  · exact rate_nil w
  · exact rate_box h
theorem no_made (h : No w p) : Calls Try.prog 32 #[p] w fun e w' => e = .returned (.bool false) ∧ w = w' := made_of (no_rate h)
theorem no_wrong (h : No w p) (hx : x.word) : Calls Try.prog 29 #[p, .agg (cA x)] w fun e w' => e = .returned (eI 1) ∧ Below w.heap.size w w' := wrong_of (m := false) hx (fun W hW => no_made (h.below hW))
theorem no_live (h : No w p) : Calls Try.prog 12 #[p, eI k] w fun e w' => e = .returned (.tuple #[.agg (cA zC), .bool false]) ∧ Below w.heap.size w w' := by
  have hM := fun W (hW : Below w.heap.size w W) => no_made (h.below hW)
  go_enter Try.func12, Try.ntmps12
  go_wp2_with (first
    | (refine wl_alloc 25 rfl rfl zero25 ?_; intro w1 X1 T1; have hM1 := hM _ T1)
    | (go_at_call 32; (with_reducible refine hM1.mono ?_); rintro e w2 ⟨rfl, rfl⟩)
    | (refine wl_run (xl_build0 25 built25 rfl) rfl ?_)
    | (refine wl_store 25 X1 rfl rfl rfl rfl size25 rfl (by omega : 0 + 3 ≤ 3) (cA_one _) (spl_cc _ _) ?_; intro w5 X5 K5))
  refine bodyPost_ret (v := .tuple #[.agg (cA zC), .bool false]) ?_ rfl ⟨rfl, K5.up T1 (Nat.le_refl _)⟩
  exact results_cell_two rfl _ _ _ _ _ _ _ rfl rfl X5 Try.underlying25 rfl size25
theorem no_drop (h : No w p) : Calls Try.prog 14 #[p, eI k, .bool keep] w fun e w' => e = .returned (.bool false) ∧ Below w.heap.size w w' := by
  have hL := no_live (k := k) h
  go_enter Try.func14, Try.ntmps14
  go_wp2_with (first
    | (go_at_call 12; (with_reducible refine hL.mono ?_); rintro e w1 ⟨rfl, T1⟩)
    | (refine wl_alloc 25 rfl rfl zero25 ?_; intro w2 X2 T2; have S2 := ups T1 T2 T1.size)
    | (refine wl_store 25 X2 rfl rfl rfl rfl size25 rfl (by omega : 0 + 3 ≤ 3) (cA_one _) (spl_cc _ _) ?_; intro w3 X3 K3; have S3 := K3.up S2 T1.size))
  go_ret
  exact ⟨rfl, S3⟩
theorem no_settle (h : No w p) : Calls Try.prog 15 #[p] w fun e w' => e = .returned (eI 0) ∧ w = w' := by
  have hM := no_made h
  go_enter Try.func15, Try.ntmps15
  go_wp2_with (first | (go_at_call 32; (with_reducible refine hM.mono ?_); rintro e w1 ⟨rfl, rfl⟩))
  go_ret
  exact ⟨rfl, rfl⟩
theorem no_ids (h : No w p) : Calls Try.prog 17 #[p] w fun e w' => e = .returned (.slice none 0 0) ∧ w = w' := by
  have hM := no_made h
  go_enter Try.func17, Try.ntmps17
  go_wp2_with (first | (go_at_call 32; (with_reducible refine hM.mono ?_); rintro e w1 ⟨rfl, rfl⟩))
  go_ret
  exact ⟨rfl, rfl⟩
theorem no_ghosts (h : No w p) : Calls Try.prog 18 #[p] w fun e w' => e = .returned (.slice none 0 0) ∧ w = w' := by
  have hM := no_made h
  go_enter Try.func18, Try.ntmps18
  go_wp2_with (first | (go_at_call 32; (with_reducible refine hM.mono ?_); rintro e w1 ⟨rfl, rfl⟩))
  go_ret
  exact ⟨rfl, rfl⟩
theorem no_copy (w : World) : Calls Try.prog 19 #[.pointer none] w fun e w' => e = .returned (.pointer none) ∧ w = w' := by
  have hM := made_nil w
  go_enter Try.func19, Try.ntmps19
  go_wp2_with (first | (go_at_call 32; (with_reducible refine hM.mono ?_); rintro e w1 ⟨rfl, rfl⟩))
  go_ret
  exact ⟨rfl, rfl⟩
set_option maxHeartbeats 4000000 in
set_option maxRecDepth 100000 in
theorem no_put (h : No w p) (hx : x.word) : Calls Try.prog 9 #[p, eI k, .agg (cA x)] w fun e w' => e = .returned (eI 1) ∧ Below w.heap.size w w' := by
  have hWr := fun W (hW : Below w.heap.size w W) => no_wrong (h.below hW) hx
  go_enter Try.func9, Try.ntmps9
  go_wp2_with (first
    | (refine wl_box 25 rfl rfl rfl ?_; intro w1 X1 T1; have hW := hWr _ T1)
    | (refine wl_run (xl_load 25 X1 rfl rfl Try.underlying25 rfl size25 (by omega : 0 + 3 ≤ 3) (cA_all _)) rfl ?_)
    | (go_at_call 29; (with_reducible refine hW.mono ?_); rintro e w2 ⟨rfl, T2⟩))
  go_ret
  exact ⟨rfl, ups T1 T2 T1.size⟩
set_option maxHeartbeats 4000000 in
set_option maxRecDepth 100000 in
theorem no_swap (h : No w p) (hx : x.word) : Calls Try.prog 13 #[p, eI k, .agg (cA x), .bool keep] w fun e w' => e = .returned (eI 1) ∧ Below w.heap.size w w' := by
  have hWr := fun W (hW : Below w.heap.size w W) => no_wrong (h.below hW) hx
  go_enter Try.func13, Try.ntmps13
  go_wp2_with (first
    | (refine wl_box1 3 rfl rfl rfl rfl ?_; intro w1 X1 T1)
    | (refine wl_box 25 rfl rfl rfl ?_; intro w2 X2 T2; have S2 := ups T1 T2 T1.size)
    | (refine wl_box1 4 rfl rfl rfl rfl ?_; intro w3 X3 T3; have S3 := ups S2 T3 S2.size; have Y2 := X2.below T3; have hW := hWr _ S3)
    | (refine wl_run (xl_load 25 Y2 rfl rfl Try.underlying25 rfl size25 (by omega : 0 + 3 ≤ 3) (cA_all _)) rfl ?_)
    | (go_at_call 29; (with_reducible refine hW.mono ?_); rintro e w4 ⟨rfl, T4⟩))
  go_ret
  exact ⟨rfl, ups S3 T4 S3.size⟩
set_option maxHeartbeats 4000000 in
set_option maxRecDepth 100000 in
theorem no_fits (h : No w p) (hx : x.word) : Calls Try.prog 10 #[p, .agg (cA x)] w fun e w' => e = .returned (.bool false) ∧ Below w.heap.size w w' := by
  have hWr := fun W (hW : Below w.heap.size w W) => no_wrong (h.below hW) hx
  go_enter Try.func10, Try.ntmps10
  go_upto_region 2 with (first
    | (refine wl_box 25 rfl rfl rfl ?_; intro w1 X1 T1))
  refine wp_region_held_drew (S := fun W => Below w1.heap.size w1 W) (by kernel_rfl) (drew_below w1) (fun hHeld => ?_)
  refine wpAnyH_take (i := 0) (v := ?_) (by simp only [List.getElem?_toArray, List.getElem?_cons_zero]; rfl) (by kernel_rfl) (by kernel_rfl) (by kernel_rfl) (by exact fun _ _ _ h => h) (Or.inl ⟨by rfl, ?_⟩) (by assumption) ?_
  rotate_left
  · (intro w hSw; (try dsimp only at hSw); go_simp; (try with_reducible rfl))
  try simp only [Act.put, List.setIfInBounds_toArray, List.set_cons_zero, List.set_cons_succ]
  refine wpAnyH_take (i := 1) (v := .agg (cA x)) (by simp only [List.getElem?_toArray, List.getElem?_cons_zero, List.getElem?_cons_succ]; rfl) (by kernel_rfl) (by kernel_rfl) (by kernel_rfl) (by exact fun _ _ _ h => h) (Or.inl ⟨by rfl, fun w hSw => xl_load 25 (X1.below hSw) rfl rfl Try.underlying25 rfl size25 (by omega : 0 + 3 ≤ 3) (cA_all _)⟩) (by assumption) ?_
  try simp only [Act.put, List.setIfInBounds_toArray, List.set_cons_zero, List.set_cons_succ]
  refine wpAnyH_ready (rs := [2]) (by kernel_rfl) (by simp) ?_
  refine AllReadyH.cons (by simp only [List.getElem?_toArray, List.getElem?_cons_zero, List.getElem?_cons_succ]; rfl) (fun K hK => ?_) AllReadyH.nil
  go_simp
  go_at_call 29
  (with_reducible refine (hWr _ (ups T1 (drew_below w1) T1.size)).mono ?_)
  rintro e w2 ⟨rfl, T2⟩
  refine hK.out _ _ (ups (drew_below w1) T2 (drew_below w1).size) (fun hHeld => ?_)
  clear hK K
  try simp only [Act.put, List.setIfInBounds_toArray, List.set_cons_zero, List.set_cons_succ]
  refine wpAnyH_take (i := 3) (v := .bool false) (by simp only [List.getElem?_toArray, List.getElem?_cons_zero, List.getElem?_cons_succ]; rfl) (by kernel_rfl) (by kernel_rfl) (by kernel_rfl) (by exact fun _ _ _ h => h) (Or.inl ⟨by rfl, ?_⟩) (by assumption) ?_
  · (intro w hSw; (try dsimp only at hSw); go_simp; (try with_reducible rfl))
  try simp only [Act.put, List.setIfInBounds_toArray, List.set_cons_zero, List.set_cons_succ]
  refine wpAnyH_take (i := 4) (v := .bool false) (by simp only [List.getElem?_toArray, List.getElem?_cons_zero, List.getElem?_cons_succ]; rfl) (by kernel_rfl) (by kernel_rfl) (by kernel_rfl) (by exact fun _ _ _ h => h) (Or.inl ⟨by rfl, ?_⟩) (by assumption) ?_
  · (intro w hSw; (try dsimp only at hSw); go_simp; (try with_reducible rfl))
  try simp only [Act.put, List.setIfInBounds_toArray, List.set_cons_zero, List.set_cons_succ]
  refine wpAnyH_take (i := 5) (v := undef) (by simp only [List.getElem?_toArray, List.getElem?_cons_zero, List.getElem?_cons_succ]; rfl) (by kernel_rfl) (by kernel_rfl) (by kernel_rfl) (by exact fun _ _ _ h => h) (Or.inr ⟨by rfl, rfl⟩) (by assumption) ?_
  try simp only [Act.put, List.setIfInBounds_toArray, List.set_cons_zero, List.set_cons_succ]
  refine wpAnyH_take (i := 6) (v := undef) (by simp only [List.getElem?_toArray, List.getElem?_cons_zero, List.getElem?_cons_succ]; rfl) (by kernel_rfl) (by kernel_rfl) (by kernel_rfl) (by exact fun _ _ _ h => h) (Or.inr ⟨by rfl, rfl⟩) (by assumption) ?_
  try simp only [Act.put, List.setIfInBounds_toArray, List.set_cons_zero, List.set_cons_succ]
  refine wpAnyH_take (i := 7) (v := undef) (by simp only [List.getElem?_toArray, List.getElem?_cons_zero, List.getElem?_cons_succ]; rfl) (by kernel_rfl) (by kernel_rfl) (by kernel_rfl) (by exact fun _ _ _ h => h) (Or.inr ⟨by rfl, rfl⟩) (by assumption) ?_
  try simp only [Act.put, List.setIfInBounds_toArray, List.set_cons_zero, List.set_cons_succ]
  refine wpAnyH_take (i := 8) (v := undef) (by simp only [List.getElem?_toArray, List.getElem?_cons_zero, List.getElem?_cons_succ]; rfl) (by kernel_rfl) (by kernel_rfl) (by kernel_rfl) (by exact fun _ _ _ h => h) (Or.inr ⟨by rfl, rfl⟩) (by assumption) ?_
  try simp only [Act.put, List.setIfInBounds_toArray, List.set_cons_zero, List.set_cons_succ]
  refine wpAnyH_take (i := 9) (v := undef) (by simp only [List.getElem?_toArray, List.getElem?_cons_zero, List.getElem?_cons_succ]; rfl) (by kernel_rfl) (by kernel_rfl) (by kernel_rfl) (by exact fun _ _ _ h => h) (Or.inr ⟨by rfl, rfl⟩) (by assumption) ?_
  try simp only [Act.put, List.setIfInBounds_toArray, List.set_cons_zero, List.set_cons_succ]
  refine wpAnyH_take (i := 10) (v := .bool false) (by simp only [List.getElem?_toArray, List.getElem?_cons_zero, List.getElem?_cons_succ]; rfl) (by kernel_rfl) (by kernel_rfl) (by kernel_rfl) (by exact fun _ _ _ h => h) (Or.inl ⟨by rfl, ?_⟩) (by assumption) ?_
  · (intro w hSw; (try dsimp only at hSw); go_simp; (try with_reducible rfl))
  try simp only [Act.put, List.setIfInBounds_toArray, List.set_cons_zero, List.set_cons_succ]
  refine wpAnyH_take (i := 11) (v := ?_) (by simp only [List.getElem?_toArray, List.getElem?_cons_zero, List.getElem?_cons_succ]; rfl) (by kernel_rfl) (by kernel_rfl) (by kernel_rfl) (by exact fun _ _ _ h => h) (Or.inl ⟨by rfl, ?_⟩) (by assumption) ?_
  rotate_left
  · (intro w hSw; (try dsimp only at hSw); go_simp; (try with_reducible rfl))
  try simp only [Act.put, List.setIfInBounds_toArray, List.set_cons_zero, List.set_cons_succ]
  refine wpAnyH_done (by kernel_rfl) ?_ _
  go_wp2_with fail
  go_ret
  exact ⟨rfl, ups T1 (ups (drew_below w1) T2 (drew_below w1).size) T1.size⟩
end
theorem built40 : Try.prog.built 40 [] = some #[eU 0, .map none, .slice none 0 0] := by kernel_rfl
theorem bsl41 (B : Nat) : Try.prog.builtSlice 26 2 [(0, .pointer none), (1, ptr B)] = some #[.pointer none, ptr B] := by kernel_rfl
set_option maxHeartbeats 40000000 in
set_option maxRecDepth 100000 in
theorem AdmitNil_walk (k : Int) (x : Cv) (keep : Bool) (V0 : World) (hk : I64 k) (hx : x.word) :
    Calls Try.prog 4 #[eI k, .agg (cA x), .bool keep] V0 fun e w' => e = .returned (.bool true) ∧ Below V0.heap.size V0 w' := by
  have hp := nil_eq
  have hcp := no_copy
  go_enter Try.func4, Try.ntmps4
  go_upto_region 4 with (first
    | (refine wl_box 25 rfl rfl rfl ?_; intro w1 X1 T1)
    | (refine wl_run (xl_build0 40 built40 rfl) rfl ?_)
    | (refine wl_box 40 rfl rfl rfl ?_; intro w2 X2 T2; have S2 := ups T1 T2 T1.size; have Y2 := X1.below T2)
    | (refine wl_slw 41 26 (u := .pointer none) (v := ptr w1.heap.size) rfl rfl rfl rfl Try.underlying41 (bsl41 _) ?_; intro w3 X3 T3; have S3 := ups S2 T3 S2.size; have Y3 := Y2.below T3; have Z3 := X2.below T3))
  go_loopw [9] (fun s9 wr => ∃ i : Nat, s9 = .int .i64 i ∧ i ≤ 2 ∧ Below w3.heap.size w3 wr) (fun s9 _ => 2 - (intOf s9).toNat)
  case atStart => exact ⟨0, rfl, by omega, Below.refl _ _⟩
  case round =>
    obtain ⟨i, rfl, hi, hT⟩ := hrel
    rename World => wr
    have S := ups S3 hT S3.size
    have Y := Y3.below hT
    have Z := Z3.below hT
    have X := X3.below hT
    by_cases hlt : i < 2
    · have i1 : (i : Int) < 2 := by omega
      have i2 : (0 : Int) ≤ (i : Int) := by omega
      have hw1 : IntKind.i64.wrap ((i : Int) + 1) = (i : Int) + 1 := i64_id (by omega)
      obtain ⟨p, d0, hN⟩ : ∃ p, wr.cell? ⟨w2.heap.size, i, none⟩ = some p ∧ No wr p := by
        rcases (show i = 0 ∨ i = 1 by omega) with rfl | rfl
        · exact ⟨_, (X.cell 0).trans rfl, .inl rfl⟩
        · exact ⟨_, (X.cell 1).trans rfl, .inr ⟨_, rfl, Z⟩⟩
      have hL := no_live (k := k) hN
      go_wp2_with (first
        | (go_at_call 12; (with_reducible refine hL.mono ?_); rintro e wa ⟨rfl, Ta⟩; have Na := hN.below Ta; have Ya := Y.below Ta)
        | (refine wl_alloc 25 rfl rfl zero25 ?_; intro wb Xb Tb; have Yb := Ya.below Tb; have Sb := ups Ta Tb Ta.size)
        | (refine wl_store 25 Xb rfl rfl rfl rfl size25 rfl (by omega : 0 + 3 ≤ 3) (cA_one _) (spl_cc _ _) ?_; intro wc Xc Kc; have Sc := Kc.up Sb Ta.size; have Nc := hN.below Sc; have Yc := Y.below Sc)
        | (refine wl_run (xl_load 25 Yc rfl rfl Try.underlying25 rfl size25 (by omega : 0 + 3 ≤ 3) (cA_all _)) rfl ?_; have h1 := no_fits Nc hx)
        | (go_at_call 10; (with_reducible refine h1.mono ?_); rintro e wd ⟨rfl, Td⟩; have Nd := Nc.below Td; have Yd := Yc.below Td; have Sd := ups Sc Td Sc.size)
        | (refine wl_run (xl_load 25 Yd rfl rfl Try.underlying25 rfl size25 (by omega : 0 + 3 ≤ 3) (cA_all _)) rfl ?_; have h2 := no_put (k := k) Nd hx)
        | (go_at_call 9; (with_reducible refine h2.mono ?_); rintro e we ⟨rfl, Te⟩; have Ne := Nd.below Te; have Ye := Yd.below Te; have Se := ups Sd Te Sd.size)
        | (refine wl_run (xl_load 25 Ye rfl rfl Try.underlying25 rfl size25 (by omega : 0 + 3 ≤ 3) (cA_all _)) rfl ?_; have h3 := no_swap (k := k) (keep := keep) Ne hx)
        | (go_at_call 13; (with_reducible refine h3.mono ?_); rintro e wf ⟨rfl, Tf⟩; have Nf := Ne.below Tf; have Sf := ups Se Tf Se.size; have h4 := no_drop (k := k) (keep := keep) Nf)
        | (go_at_call 14; (with_reducible refine h4.mono ?_); rintro e wg ⟨rfl, Tg⟩; have Ng := Nf.below Tg; have Sg := ups Sf Tg Sf.size; have h5 := no_settle Ng; have h6 := no_rate Ng; have h7 := no_ids Ng; have h8 := no_ghosts Ng)
        | (go_at_call 15; (with_reducible refine h5.mono ?_); rintro e wh ⟨rfl, rfl⟩)
        | (go_at_call 16; (with_reducible refine h6.mono ?_); rintro e wh ⟨rfl, rfl⟩)
        | (go_at_call 17; (with_reducible refine h7.mono ?_); rintro e wh ⟨rfl, rfl⟩)
        | (go_at_call 18; (with_reducible refine h8.mono ?_); rintro e wh ⟨rfl, rfl⟩))
      exact ⟨⟨i + 1, rfl, by omega, ups hT Sg hT.size⟩, by simp [intOf]; omega⟩
    · have i1 : ¬ (i : Int) < 2 := by omega
      go_wp2_with (first
        | (go_at_call 19; (with_reducible refine (hcp _).mono ?_); rintro e wh ⟨rfl, rfl⟩))
      go_ret
      exact ⟨rfl, S⟩
end Go.Proofs.Ytjbpaapglamilaa.H
