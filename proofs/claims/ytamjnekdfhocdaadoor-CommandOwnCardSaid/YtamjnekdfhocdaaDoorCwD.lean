/- CommandApart: its walk. No condition but those of the row. -/
import Derived.Test.YtamjnekdfhocdaaDoorCwC
import Derived.Test.YtamjnekdfhocdaaDoorCmY
namespace Go.Proofs.YtamjnekdfhocdaaDoor
open Go.ChangeShapes Go.WideShapes Go.Deep Go.RowKit
set_option linter.unusedVariables false
set_option linter.unusedSimpArgs false
section
variable {P : Program} {o : Oper} {a : Act} {w : World} {K : Act → World → Prop} {Q : Exit → Act → World → Prop}
theorem ow_alloc (t : TypeId) {c : Array Value} (ho : o.op = .alloc t) (hz : (P.info? t).map (fun i => i.zero) = some (some (.agg c)))
    (h : ∀ w', Box w' w.heap.size c t → Below w.heap.size w w' → K (a.put o.dst (.pointer (some ⟨w.heap.size, 0, none⟩))) w') : o.wp P a w K Q := by
  cases hq : P.info? t with
  | none => simp [hq] at hz
  | some i =>
    have hz' : i.zero = some (.agg c) := by simpa [hq] using hz
    unfold Oper.wp execOp
    simp only [ho, Sem.run_bind, Instr.alloc, zeroValue, typeInfo, hq, hz', newVar, newRow, run_newObj_alloc, Sem.run_pure, Result.andThen_ok, Value.cells, run_program]
    exact h _ (Box.new w t c) (up1 w _)
theorem ow_store (ty : TypeId) {i j B k n : Nat} {c vs c' : Array Value} {t : TypeId} (hB : Box w B c t) (ho : o.op = .store ty (.tmp i) (.tmp j)) (hx : a.tmps.toList.getD i undef = .pointer (some ⟨B, k, none⟩)) (hy : a.tmps.toList.getD j undef = .agg vs)
    (hi : (P.info? ty).map (·.size) = some n) (hn : vs.size = n) (hs : k + n ≤ c.size) (h1 : vs.all (·.oneCell') = true) (hc : spl c k vs.toList = c')
    (h : ∀ w', Box w' B c' t → But B w w' → K (a.put o.dst undef) w') : o.wp P a w K Q := by
  subst hn
  refine wp_store_mid ty (.tmp i) (.tmp j) ho B k vs ((evf a i).trans hx) ((evf a j).trans hy) (hB.there hs) hi h1 (h _ ?_ ?_)
  · rw [← hc]
    exact Box.setCells (W := w) vs.toList k w c hB
  · exact But.setCells vs.toList k w w (But.refl B w)
end
set_option maxHeartbeats 16000000 in
set_option maxRecDepth 100000 in
theorem apart_no1 (C D : Cm) (r q : Rp) (w : World) (hN : Names w) (hC : (ownC C).ok) (hD : (ownC D).ok) (hr : r.ok) (hq : q.ok) (X1 X2 U V : ByteArray) (b0 b1 : Bool) (h1 : cmdV (ownC C) = .tuple #[.string X1, .int .i64 2]) (E2 : Int) (h2 : cmdV (ownC D) = .tuple #[.string X2, .int .i64 E2])
    (hu : repV r = .tuple #[.string U, .int .i64 0]) (hv : repV q = .tuple #[.string V, .int .i64 0]) (hb0 : decide (ownC C = ownC D) = b0) (hb1 : decide (r = q) = b1) (hUV : (U.toList == V.toList) = b1) :
    Calls Tryd.prog 7 #[.agg (cmV C), .agg (cmV D), .agg (rpV r), .agg (rpV q)] w fun e w' => e = .returned (.bool true) ∧ Below w.heap.size w w' := by
  have aw := fun W hN => awake_any W hN
  have p1 := fun W hN => Command_any (ownC C) W hN hC
  have p2 := fun W hN => Command_any (ownC D) W hN hD
  have p3 := fun W => Reply_any r W hr
  have p4 := fun W => Reply_any q W hq
  rw [h1] at p1
  rw [h2] at p2
  rw [hu] at p3
  rw [hv] at p4
  clear h1 h2 hu hv
  replace hb0 := Lib.hid hb0
  replace hb1 := Lib.hid hb1
  go_enter Tryd.func7, Tryd.ntmps7
  go_upto_region 1 with (with_reducible refine at_list ?_; first
    | (refine wl_box 32 (x := .tmp 0) rfl rfl rfl ?_; intro w1 X1 T1; (try simp only [Act.put, List.setIfInBounds_toArray, List.set_cons_zero, List.set_cons_succ]))
    | (refine wl_box 32 (x := .tmp 1) rfl rfl rfl ?_; intro w2 Y2 U2; (try simp only [Act.put, List.setIfInBounds_toArray, List.set_cons_zero, List.set_cons_succ]); have X2 := X1.below U2; have T2 := ups T1 U2 T1.size)
    | (refine wl_box 37 (x := .tmp 2) rfl rfl rfl ?_; intro w3 R3 U3; (try simp only [Act.put, List.setIfInBounds_toArray, List.set_cons_zero, List.set_cons_succ]); have X3 := X2.below U3; have Y3 := Y2.below U3; have T3 := ups T2 U3 T2.size)
    | (refine wl_box 37 (x := .tmp 3) rfl rfl rfl ?_; intro w4 S4 U4; (try simp only [Act.put, List.setIfInBounds_toArray, List.set_cons_zero, List.set_cons_succ]); have X4 := X3.below U4; have Y4 := Y3.below U4; have R4 := R3.below U4; have T4 := ups T3 U4 T3.size; have a1 := aw w4 (hN.up T4)))
  clear X1 T1 Y2 U2 X2 T2 R3 U3 X3 Y3 T3 U4
  obtain ⟨x0, hx0⟩ : ∃ A, w.heap.size = A := ⟨_, rfl⟩
  obtain ⟨y0, hy0⟩ : ∃ A, w1.heap.size = A := ⟨_, rfl⟩
  obtain ⟨r0, hr0⟩ : ∃ A, w2.heap.size = A := ⟨_, rfl⟩
  obtain ⟨s0, hs0⟩ : ∃ A, w3.heap.size = A := ⟨_, rfl⟩
  rw [hx0] at X4 ⊢
  rw [hy0] at Y4 ⊢
  rw [hr0] at R4 ⊢
  rw [hs0] at S4 ⊢
  clear hy0 hr0 hs0 hx0
  go_upto_region 3 with (go_at_call 23; (with_reducible refine a1.mono ?_); rintro e w5 ⟨rfl, U5⟩)
  have X5 := X4.below U5
  have Y5 := Y4.below U5
  have R5 := R4.below U5
  have S5 := S4.below U5
  have T5 := ups T4 U5 T4.size
  clear a1 aw X4 Y4 R4 S4 U5 T4
  go_cut [9, 10] (fun s9 s10 wx => ∃ G H, s9 = .pointer (some ⟨G, 0, none⟩) ∧ s10 = .pointer (some ⟨H, 0, none⟩) ∧ Box wx G (cmV (ownC C)) 32 ∧ Box wx H (cmV (ownC D)) 32 ∧ Box wx r0 (rpV r) 37 ∧ Box wx s0 (rpV q) 37 ∧ Below w.heap.size w wx)
  case first =>
    clear p1 p2 p3 p4
    refine wp_region_held_drew (S := fun W => Box W x0 (cmV C) 32 ∧ Box W y0 (cmV D) 32) (by kernel_rfl) ⟨X5.drew, Y5.drew⟩ (fun hHeld => ?_)
    replace X5 := X5.drew
    replace Y5 := Y5.drew
    replace R5 := R5.drew
    replace S5 := S5.drew
    replace T5 := T5.drew
    generalize w5.drew = w6 at *
    refine wpAnyH_take (i := 0) (v := .agg (cmV C)) (by simp only [List.getElem?_toArray, List.getElem?_cons_zero]; rfl) (by kernel_rfl) (by kernel_rfl) (by kernel_rfl) (by exact fun _ _ _ h => h) (Or.inl ⟨by rfl, fun w hSw => xl_loadf 32 hSw.1 rfl rfl Tryd.underlying32 rfl size32 (by omega : 0 + 24 ≤ 24) (cmV_all _)⟩) (by assumption) ?_
    try simp only [Act.put, List.setIfInBounds_toArray, List.set_cons_zero, List.set_cons_succ]
    refine wpAnyH_take (i := 2) (v := .agg (cmV D)) (by simp only [List.getElem?_toArray, List.getElem?_cons_zero, List.getElem?_cons_succ]; rfl) (by kernel_rfl) (by kernel_rfl) (by kernel_rfl) (by exact fun _ _ _ h => h) (Or.inl ⟨by rfl, fun w hSw => xl_loadf 32 hSw.2 rfl rfl Tryd.underlying32 rfl size32 (by omega : 0 + 24 ≤ 24) (cmV_all _)⟩) (by assumption) ?_
    try simp only [Act.put, List.setIfInBounds_toArray, List.set_cons_zero, List.set_cons_succ]
    refine wpAnyH_ready (rs := [1, 4, 5]) (by kernel_rfl) (by simp) ?_
    refine AllReadyH.cons (by simp only [List.getElem?_toArray, List.getElem?_cons_zero, List.getElem?_cons_succ]; rfl) (fun K hK => ?_) ?_
    · go_simp
      go_at_call 17
      (with_reducible refine (Own_any C _).mono ?_)
      rintro e v6 ⟨rfl, U⟩
      replace X5 := X5.below U
      replace Y5 := Y5.below U
      replace R5 := R5.below U
      replace S5 := S5.below U
      replace T5 := ups T5 U T5.size
      clear U
      refine hK.out _ _ ⟨X5, Y5⟩ (fun hHeld => ?_)
      clear hK K
      try simp only [Act.put, List.setIfInBounds_toArray, List.set_cons_zero, List.set_cons_succ]
      refine wpAnyH_ready (rs := [3, 4, 5]) (by kernel_rfl) (by simp) ?_
      refine AllReadyH.cons (by simp only [List.getElem?_toArray, List.getElem?_cons_zero, List.getElem?_cons_succ]; rfl) (fun K hK => ?_) ?_
      · go_simp
        go_at_call 17
        (with_reducible refine (Own_any D _).mono ?_)
        rintro e v7 ⟨rfl, U⟩
        replace X5 := X5.below U
        replace Y5 := Y5.below U
        replace R5 := R5.below U
        replace S5 := S5.below U
        replace T5 := ups T5 U T5.size
        clear U
        refine hK.out _ _ ⟨X5, Y5⟩ (fun hHeld => ?_)
        clear hK K
        try simp only [Act.put, List.setIfInBounds_toArray, List.set_cons_zero, List.set_cons_succ]
        refine wpAnyH_ready (rs := [4, 5]) (by kernel_rfl) (by simp) ?_
        refine AllReadyH.cons (by simp only [List.getElem?_toArray, List.getElem?_cons_zero, List.getElem?_cons_succ]; rfl) (fun K hK => ?_) ?_
        · have mT4 := T5.size
          have mX54 := X5.lt
          have mY54 := Y5.lt
          have mR54 := R5.lt
          have mS54 := S5.lt
          rw [if_pos (by rfl)]
          refine ow_alloc 32 rfl zero32 ?_
          intro v8 Z4 U
          replace X5 := X5.below U
          replace Y5 := Y5.below U
          replace R5 := R5.below U
          replace S5 := S5.below U
          replace T5 := ups T5 U T5.size
          clear U
          refine hK.out _ _ ⟨X5, Y5⟩ (fun hHeld => ?_)
          clear hK K
          try simp only [Act.put, List.setIfInBounds_toArray, List.set_cons_zero, List.set_cons_succ]
          refine wpAnyH_ready (rs := [5]) (by kernel_rfl) (by simp) ?_
          refine AllReadyH.cons (by simp only [List.getElem?_toArray, List.getElem?_cons_zero, List.getElem?_cons_succ]; rfl) (fun K hK => ?_) AllReadyH.nil
          have mT5 := T5.size
          have mX55 := X5.lt
          have mY55 := Y5.lt
          have mR55 := R5.lt
          have mS55 := S5.lt
          have mZ45 := Z4.lt
          rw [if_pos (by rfl)]
          refine ow_alloc 32 rfl zero32 ?_
          intro v9 Z5 U
          replace X5 := X5.below U
          replace Y5 := Y5.below U
          replace R5 := R5.below U
          replace S5 := S5.below U
          replace Z4 := Z4.below U
          replace T5 := ups T5 U T5.size
          clear U
          refine hK.out _ _ ⟨X5, Y5⟩ (fun hHeld => ?_)
          clear hK K
          try simp only [Act.put, List.setIfInBounds_toArray, List.set_cons_zero, List.set_cons_succ]
          refine wpAnyH_ready (rs := [6]) (by kernel_rfl) (by simp) ?_
          refine AllReadyH.cons (by simp only [List.getElem?_toArray, List.getElem?_cons_zero, List.getElem?_cons_succ]; rfl) (fun K hK => ?_) AllReadyH.nil
          rw [if_pos (by rfl)]
          refine ow_store 32 Z4 rfl rfl rfl size32 rfl (by omega : 0 + 24 ≤ 24) (cmV_one _) (spl24 _ _) ?_
          intro v10 Q6 B6
          replace X5 := B6.box X5 (by omega)
          replace Y5 := B6.box Y5 (by omega)
          replace R5 := B6.box R5 (by omega)
          replace S5 := B6.box S5 (by omega)
          replace Z5 := B6.box Z5 (by omega)
          replace Z4 := Q6
          replace T5 := B6.up T5 (by omega)
          clear B6
          refine hK.out _ _ ⟨X5, Y5⟩ (fun hHeld => ?_)
          clear hK K
          try simp only [Act.put, List.setIfInBounds_toArray, List.set_cons_zero, List.set_cons_succ]
          refine wpAnyH_ready (rs := [7]) (by kernel_rfl) (by simp) ?_
          refine AllReadyH.cons (by simp only [List.getElem?_toArray, List.getElem?_cons_zero, List.getElem?_cons_succ]; rfl) (fun K hK => ?_) AllReadyH.nil
          rw [if_pos (by rfl)]
          refine ow_store 32 Z5 rfl rfl rfl size32 rfl (by omega : 0 + 24 ≤ 24) (cmV_one _) (spl24 _ _) ?_
          intro v11 Q7 B7
          replace X5 := B7.box X5 (by omega)
          replace Y5 := B7.box Y5 (by omega)
          replace R5 := B7.box R5 (by omega)
          replace S5 := B7.box S5 (by omega)
          replace Z4 := B7.box Z4 (by omega)
          replace Z5 := Q7
          replace T5 := B7.up T5 (by omega)
          clear B7
          refine hK.out _ _ ⟨X5, Y5⟩ (fun hHeld => ?_)
          clear hK K
          try simp only [Act.put, List.setIfInBounds_toArray, List.set_cons_zero, List.set_cons_succ]
          refine wpAnyH_done (by kernel_rfl) ?_ _
          go_wp2_with fail
          go_meet
          exact ⟨_, _, rfl, rfl, Z4, Z5, R5, S5, T5⟩
        refine AllReadyH.cons (by simp only [List.getElem?_toArray, List.getElem?_cons_zero, List.getElem?_cons_succ]; rfl) (fun K hK => ?_) AllReadyH.nil
        have mT5 := T5.size
        have mX55 := X5.lt
        have mY55 := Y5.lt
        have mR55 := R5.lt
        have mS55 := S5.lt
        rw [if_pos (by rfl)]
        refine ow_alloc 32 rfl zero32 ?_
        intro v12 Z5 U
        replace X5 := X5.below U
        replace Y5 := Y5.below U
        replace R5 := R5.below U
        replace S5 := S5.below U
        replace T5 := ups T5 U T5.size
        clear U
        refine hK.out _ _ ⟨X5, Y5⟩ (fun hHeld => ?_)
        clear hK K
        try simp only [Act.put, List.setIfInBounds_toArray, List.set_cons_zero, List.set_cons_succ]
        refine wpAnyH_ready (rs := [4]) (by kernel_rfl) (by simp) ?_
        refine AllReadyH.cons (by simp only [List.getElem?_toArray, List.getElem?_cons_zero, List.getElem?_cons_succ]; rfl) (fun K hK => ?_) AllReadyH.nil
        have mT4 := T5.size
        have mX54 := X5.lt
        have mY54 := Y5.lt
        have mR54 := R5.lt
        have mS54 := S5.lt
        have mZ54 := Z5.lt
        rw [if_pos (by rfl)]
        refine ow_alloc 32 rfl zero32 ?_
        intro v13 Z4 U
        replace X5 := X5.below U
        replace Y5 := Y5.below U
        replace R5 := R5.below U
        replace S5 := S5.below U
        replace Z5 := Z5.below U
        replace T5 := ups T5 U T5.size
        clear U
        refine hK.out _ _ ⟨X5, Y5⟩ (fun hHeld => ?_)
        clear hK K
        try simp only [Act.put, List.setIfInBounds_toArray, List.set_cons_zero, List.set_cons_succ]
        refine wpAnyH_ready (rs := [6]) (by kernel_rfl) (by simp) ?_
        refine AllReadyH.cons (by simp only [List.getElem?_toArray, List.getElem?_cons_zero, List.getElem?_cons_succ]; rfl) (fun K hK => ?_) AllReadyH.nil
        rw [if_pos (by rfl)]
        refine ow_store 32 Z4 rfl rfl rfl size32 rfl (by omega : 0 + 24 ≤ 24) (cmV_one _) (spl24 _ _) ?_
        intro v14 Q6 B6
        replace X5 := B6.box X5 (by omega)
        replace Y5 := B6.box Y5 (by omega)
        replace R5 := B6.box R5 (by omega)
        replace S5 := B6.box S5 (by omega)
        replace Z5 := B6.box Z5 (by omega)
        replace Z4 := Q6
        replace T5 := B6.up T5 (by omega)
        clear B6
        refine hK.out _ _ ⟨X5, Y5⟩ (fun hHeld => ?_)
        clear hK K
        try simp only [Act.put, List.setIfInBounds_toArray, List.set_cons_zero, List.set_cons_succ]
        refine wpAnyH_ready (rs := [7]) (by kernel_rfl) (by simp) ?_
        refine AllReadyH.cons (by simp only [List.getElem?_toArray, List.getElem?_cons_zero, List.getElem?_cons_succ]; rfl) (fun K hK => ?_) AllReadyH.nil
        rw [if_pos (by rfl)]
        refine ow_store 32 Z5 rfl rfl rfl size32 rfl (by omega : 0 + 24 ≤ 24) (cmV_one _) (spl24 _ _) ?_
        intro v15 Q7 B7
        replace X5 := B7.box X5 (by omega)
        replace Y5 := B7.box Y5 (by omega)
        replace R5 := B7.box R5 (by omega)
        replace S5 := B7.box S5 (by omega)
        replace Z4 := B7.box Z4 (by omega)
        replace Z5 := Q7
        replace T5 := B7.up T5 (by omega)
        clear B7
        refine hK.out _ _ ⟨X5, Y5⟩ (fun hHeld => ?_)
        clear hK K
        try simp only [Act.put, List.setIfInBounds_toArray, List.set_cons_zero, List.set_cons_succ]
        refine wpAnyH_done (by kernel_rfl) ?_ _
        go_wp2_with fail
        go_meet
        exact ⟨_, _, rfl, rfl, Z4, Z5, R5, S5, T5⟩
      refine AllReadyH.cons (by simp only [List.getElem?_toArray, List.getElem?_cons_zero, List.getElem?_cons_succ]; rfl) (fun K hK => ?_) ?_
      · have mT4 := T5.size
        have mX54 := X5.lt
        have mY54 := Y5.lt
        have mR54 := R5.lt
        have mS54 := S5.lt
        rw [if_pos (by rfl)]
        refine ow_alloc 32 rfl zero32 ?_
        intro v16 Z4 U
        replace X5 := X5.below U
        replace Y5 := Y5.below U
        replace R5 := R5.below U
        replace S5 := S5.below U
        replace T5 := ups T5 U T5.size
        clear U
        refine hK.out _ _ ⟨X5, Y5⟩ (fun hHeld => ?_)
        clear hK K
        try simp only [Act.put, List.setIfInBounds_toArray, List.set_cons_zero, List.set_cons_succ]
        refine wpAnyH_ready (rs := [3, 5]) (by kernel_rfl) (by simp) ?_
        refine AllReadyH.cons (by simp only [List.getElem?_toArray, List.getElem?_cons_zero, List.getElem?_cons_succ]; rfl) (fun K hK => ?_) ?_
        · go_simp
          go_at_call 17
          (with_reducible refine (Own_any D _).mono ?_)
          rintro e v17 ⟨rfl, U⟩
          replace X5 := X5.below U
          replace Y5 := Y5.below U
          replace R5 := R5.below U
          replace S5 := S5.below U
          replace Z4 := Z4.below U
          replace T5 := ups T5 U T5.size
          clear U
          refine hK.out _ _ ⟨X5, Y5⟩ (fun hHeld => ?_)
          clear hK K
          try simp only [Act.put, List.setIfInBounds_toArray, List.set_cons_zero, List.set_cons_succ]
          refine wpAnyH_ready (rs := [5]) (by kernel_rfl) (by simp) ?_
          refine AllReadyH.cons (by simp only [List.getElem?_toArray, List.getElem?_cons_zero, List.getElem?_cons_succ]; rfl) (fun K hK => ?_) AllReadyH.nil
          have mT5 := T5.size
          have mX55 := X5.lt
          have mY55 := Y5.lt
          have mR55 := R5.lt
          have mS55 := S5.lt
          have mZ45 := Z4.lt
          rw [if_pos (by rfl)]
          refine ow_alloc 32 rfl zero32 ?_
          intro v18 Z5 U
          replace X5 := X5.below U
          replace Y5 := Y5.below U
          replace R5 := R5.below U
          replace S5 := S5.below U
          replace Z4 := Z4.below U
          replace T5 := ups T5 U T5.size
          clear U
          refine hK.out _ _ ⟨X5, Y5⟩ (fun hHeld => ?_)
          clear hK K
          try simp only [Act.put, List.setIfInBounds_toArray, List.set_cons_zero, List.set_cons_succ]
          refine wpAnyH_ready (rs := [6]) (by kernel_rfl) (by simp) ?_
          refine AllReadyH.cons (by simp only [List.getElem?_toArray, List.getElem?_cons_zero, List.getElem?_cons_succ]; rfl) (fun K hK => ?_) AllReadyH.nil
          rw [if_pos (by rfl)]
          refine ow_store 32 Z4 rfl rfl rfl size32 rfl (by omega : 0 + 24 ≤ 24) (cmV_one _) (spl24 _ _) ?_
          intro v19 Q6 B6
          replace X5 := B6.box X5 (by omega)
          replace Y5 := B6.box Y5 (by omega)
          replace R5 := B6.box R5 (by omega)
          replace S5 := B6.box S5 (by omega)
          replace Z5 := B6.box Z5 (by omega)
          replace Z4 := Q6
          replace T5 := B6.up T5 (by omega)
          clear B6
          refine hK.out _ _ ⟨X5, Y5⟩ (fun hHeld => ?_)
          clear hK K
          try simp only [Act.put, List.setIfInBounds_toArray, List.set_cons_zero, List.set_cons_succ]
          refine wpAnyH_ready (rs := [7]) (by kernel_rfl) (by simp) ?_
          refine AllReadyH.cons (by simp only [List.getElem?_toArray, List.getElem?_cons_zero, List.getElem?_cons_succ]; rfl) (fun K hK => ?_) AllReadyH.nil
          rw [if_pos (by rfl)]
          refine ow_store 32 Z5 rfl rfl rfl size32 rfl (by omega : 0 + 24 ≤ 24) (cmV_one _) (spl24 _ _) ?_
          intro v20 Q7 B7
          replace X5 := B7.box X5 (by omega)
          replace Y5 := B7.box Y5 (by omega)
          replace R5 := B7.box R5 (by omega)
          replace S5 := B7.box S5 (by omega)
          replace Z4 := B7.box Z4 (by omega)
          replace Z5 := Q7
          replace T5 := B7.up T5 (by omega)
          clear B7
          refine hK.out _ _ ⟨X5, Y5⟩ (fun hHeld => ?_)
          clear hK K
          try simp only [Act.put, List.setIfInBounds_toArray, List.set_cons_zero, List.set_cons_succ]
          refine wpAnyH_done (by kernel_rfl) ?_ _
          go_wp2_with fail
          go_meet
          exact ⟨_, _, rfl, rfl, Z4, Z5, R5, S5, T5⟩
        refine AllReadyH.cons (by simp only [List.getElem?_toArray, List.getElem?_cons_zero, List.getElem?_cons_succ]; rfl) (fun K hK => ?_) AllReadyH.nil
        have mT5 := T5.size
        have mX55 := X5.lt
        have mY55 := Y5.lt
        have mR55 := R5.lt
        have mS55 := S5.lt
        have mZ45 := Z4.lt
        rw [if_pos (by rfl)]
        refine ow_alloc 32 rfl zero32 ?_
        intro v21 Z5 U
        replace X5 := X5.below U
        replace Y5 := Y5.below U
        replace R5 := R5.below U
        replace S5 := S5.below U
        replace Z4 := Z4.below U
        replace T5 := ups T5 U T5.size
        clear U
        refine hK.out _ _ ⟨X5, Y5⟩ (fun hHeld => ?_)
        clear hK K
        try simp only [Act.put, List.setIfInBounds_toArray, List.set_cons_zero, List.set_cons_succ]
        refine wpAnyH_ready (rs := [3]) (by kernel_rfl) (by simp) ?_
        refine AllReadyH.cons (by simp only [List.getElem?_toArray, List.getElem?_cons_zero, List.getElem?_cons_succ]; rfl) (fun K hK => ?_) AllReadyH.nil
        go_simp
        go_at_call 17
        (with_reducible refine (Own_any D _).mono ?_)
        rintro e v22 ⟨rfl, U⟩
        replace X5 := X5.below U
        replace Y5 := Y5.below U
        replace R5 := R5.below U
        replace S5 := S5.below U
        replace Z4 := Z4.below U
        replace Z5 := Z5.below U
        replace T5 := ups T5 U T5.size
        clear U
        refine hK.out _ _ ⟨X5, Y5⟩ (fun hHeld => ?_)
        clear hK K
        try simp only [Act.put, List.setIfInBounds_toArray, List.set_cons_zero, List.set_cons_succ]
        refine wpAnyH_ready (rs := [6]) (by kernel_rfl) (by simp) ?_
        refine AllReadyH.cons (by simp only [List.getElem?_toArray, List.getElem?_cons_zero, List.getElem?_cons_succ]; rfl) (fun K hK => ?_) AllReadyH.nil
        rw [if_pos (by rfl)]
        refine ow_store 32 Z4 rfl rfl rfl size32 rfl (by omega : 0 + 24 ≤ 24) (cmV_one _) (spl24 _ _) ?_
        intro v23 Q6 B6
        replace X5 := B6.box X5 (by omega)
        replace Y5 := B6.box Y5 (by omega)
        replace R5 := B6.box R5 (by omega)
        replace S5 := B6.box S5 (by omega)
        replace Z5 := B6.box Z5 (by omega)
        replace Z4 := Q6
        replace T5 := B6.up T5 (by omega)
        clear B6
        refine hK.out _ _ ⟨X5, Y5⟩ (fun hHeld => ?_)
        clear hK K
        try simp only [Act.put, List.setIfInBounds_toArray, List.set_cons_zero, List.set_cons_succ]
        refine wpAnyH_ready (rs := [7]) (by kernel_rfl) (by simp) ?_
        refine AllReadyH.cons (by simp only [List.getElem?_toArray, List.getElem?_cons_zero, List.getElem?_cons_succ]; rfl) (fun K hK => ?_) AllReadyH.nil
        rw [if_pos (by rfl)]
        refine ow_store 32 Z5 rfl rfl rfl size32 rfl (by omega : 0 + 24 ≤ 24) (cmV_one _) (spl24 _ _) ?_
        intro v24 Q7 B7
        replace X5 := B7.box X5 (by omega)
        replace Y5 := B7.box Y5 (by omega)
        replace R5 := B7.box R5 (by omega)
        replace S5 := B7.box S5 (by omega)
        replace Z4 := B7.box Z4 (by omega)
        replace Z5 := Q7
        replace T5 := B7.up T5 (by omega)
        clear B7
        refine hK.out _ _ ⟨X5, Y5⟩ (fun hHeld => ?_)
        clear hK K
        try simp only [Act.put, List.setIfInBounds_toArray, List.set_cons_zero, List.set_cons_succ]
        refine wpAnyH_done (by kernel_rfl) ?_ _
        go_wp2_with fail
        go_meet
        exact ⟨_, _, rfl, rfl, Z4, Z5, R5, S5, T5⟩
      refine AllReadyH.cons (by simp only [List.getElem?_toArray, List.getElem?_cons_zero, List.getElem?_cons_succ]; rfl) (fun K hK => ?_) AllReadyH.nil
      have mT5 := T5.size
      have mX55 := X5.lt
      have mY55 := Y5.lt
      have mR55 := R5.lt
      have mS55 := S5.lt
      rw [if_pos (by rfl)]
      refine ow_alloc 32 rfl zero32 ?_
      intro v25 Z5 U
      replace X5 := X5.below U
      replace Y5 := Y5.below U
      replace R5 := R5.below U
      replace S5 := S5.below U
      replace T5 := ups T5 U T5.size
      clear U
      refine hK.out _ _ ⟨X5, Y5⟩ (fun hHeld => ?_)
      clear hK K
      try simp only [Act.put, List.setIfInBounds_toArray, List.set_cons_zero, List.set_cons_succ]
      refine wpAnyH_ready (rs := [3, 4]) (by kernel_rfl) (by simp) ?_
      refine AllReadyH.cons (by simp only [List.getElem?_toArray, List.getElem?_cons_zero, List.getElem?_cons_succ]; rfl) (fun K hK => ?_) ?_
      · go_simp
        go_at_call 17
        (with_reducible refine (Own_any D _).mono ?_)
        rintro e v26 ⟨rfl, U⟩
        replace X5 := X5.below U
        replace Y5 := Y5.below U
        replace R5 := R5.below U
        replace S5 := S5.below U
        replace Z5 := Z5.below U
        replace T5 := ups T5 U T5.size
        clear U
        refine hK.out _ _ ⟨X5, Y5⟩ (fun hHeld => ?_)
        clear hK K
        try simp only [Act.put, List.setIfInBounds_toArray, List.set_cons_zero, List.set_cons_succ]
        refine wpAnyH_ready (rs := [4]) (by kernel_rfl) (by simp) ?_
        refine AllReadyH.cons (by simp only [List.getElem?_toArray, List.getElem?_cons_zero, List.getElem?_cons_succ]; rfl) (fun K hK => ?_) AllReadyH.nil
        have mT4 := T5.size
        have mX54 := X5.lt
        have mY54 := Y5.lt
        have mR54 := R5.lt
        have mS54 := S5.lt
        have mZ54 := Z5.lt
        rw [if_pos (by rfl)]
        refine ow_alloc 32 rfl zero32 ?_
        intro v27 Z4 U
        replace X5 := X5.below U
        replace Y5 := Y5.below U
        replace R5 := R5.below U
        replace S5 := S5.below U
        replace Z5 := Z5.below U
        replace T5 := ups T5 U T5.size
        clear U
        refine hK.out _ _ ⟨X5, Y5⟩ (fun hHeld => ?_)
        clear hK K
        try simp only [Act.put, List.setIfInBounds_toArray, List.set_cons_zero, List.set_cons_succ]
        refine wpAnyH_ready (rs := [6]) (by kernel_rfl) (by simp) ?_
        refine AllReadyH.cons (by simp only [List.getElem?_toArray, List.getElem?_cons_zero, List.getElem?_cons_succ]; rfl) (fun K hK => ?_) AllReadyH.nil
        rw [if_pos (by rfl)]
        refine ow_store 32 Z4 rfl rfl rfl size32 rfl (by omega : 0 + 24 ≤ 24) (cmV_one _) (spl24 _ _) ?_
        intro v28 Q6 B6
        replace X5 := B6.box X5 (by omega)
        replace Y5 := B6.box Y5 (by omega)
        replace R5 := B6.box R5 (by omega)
        replace S5 := B6.box S5 (by omega)
        replace Z5 := B6.box Z5 (by omega)
        replace Z4 := Q6
        replace T5 := B6.up T5 (by omega)
        clear B6
        refine hK.out _ _ ⟨X5, Y5⟩ (fun hHeld => ?_)
        clear hK K
        try simp only [Act.put, List.setIfInBounds_toArray, List.set_cons_zero, List.set_cons_succ]
        refine wpAnyH_ready (rs := [7]) (by kernel_rfl) (by simp) ?_
        refine AllReadyH.cons (by simp only [List.getElem?_toArray, List.getElem?_cons_zero, List.getElem?_cons_succ]; rfl) (fun K hK => ?_) AllReadyH.nil
        rw [if_pos (by rfl)]
        refine ow_store 32 Z5 rfl rfl rfl size32 rfl (by omega : 0 + 24 ≤ 24) (cmV_one _) (spl24 _ _) ?_
        intro v29 Q7 B7
        replace X5 := B7.box X5 (by omega)
        replace Y5 := B7.box Y5 (by omega)
        replace R5 := B7.box R5 (by omega)
        replace S5 := B7.box S5 (by omega)
        replace Z4 := B7.box Z4 (by omega)
        replace Z5 := Q7
        replace T5 := B7.up T5 (by omega)
        clear B7
        refine hK.out _ _ ⟨X5, Y5⟩ (fun hHeld => ?_)
        clear hK K
        try simp only [Act.put, List.setIfInBounds_toArray, List.set_cons_zero, List.set_cons_succ]
        refine wpAnyH_done (by kernel_rfl) ?_ _
        go_wp2_with fail
        go_meet
        exact ⟨_, _, rfl, rfl, Z4, Z5, R5, S5, T5⟩
      refine AllReadyH.cons (by simp only [List.getElem?_toArray, List.getElem?_cons_zero, List.getElem?_cons_succ]; rfl) (fun K hK => ?_) AllReadyH.nil
      have mT4 := T5.size
      have mX54 := X5.lt
      have mY54 := Y5.lt
      have mR54 := R5.lt
      have mS54 := S5.lt
      have mZ54 := Z5.lt
      rw [if_pos (by rfl)]
      refine ow_alloc 32 rfl zero32 ?_
      intro v30 Z4 U
      replace X5 := X5.below U
      replace Y5 := Y5.below U
      replace R5 := R5.below U
      replace S5 := S5.below U
      replace Z5 := Z5.below U
      replace T5 := ups T5 U T5.size
      clear U
      refine hK.out _ _ ⟨X5, Y5⟩ (fun hHeld => ?_)
      clear hK K
      try simp only [Act.put, List.setIfInBounds_toArray, List.set_cons_zero, List.set_cons_succ]
      refine wpAnyH_ready (rs := [3]) (by kernel_rfl) (by simp) ?_
      refine AllReadyH.cons (by simp only [List.getElem?_toArray, List.getElem?_cons_zero, List.getElem?_cons_succ]; rfl) (fun K hK => ?_) AllReadyH.nil
      go_simp
      go_at_call 17
      (with_reducible refine (Own_any D _).mono ?_)
      rintro e v31 ⟨rfl, U⟩
      replace X5 := X5.below U
      replace Y5 := Y5.below U
      replace R5 := R5.below U
      replace S5 := S5.below U
      replace Z4 := Z4.below U
      replace Z5 := Z5.below U
      replace T5 := ups T5 U T5.size
      clear U
      refine hK.out _ _ ⟨X5, Y5⟩ (fun hHeld => ?_)
      clear hK K
      try simp only [Act.put, List.setIfInBounds_toArray, List.set_cons_zero, List.set_cons_succ]
      refine wpAnyH_ready (rs := [6]) (by kernel_rfl) (by simp) ?_
      refine AllReadyH.cons (by simp only [List.getElem?_toArray, List.getElem?_cons_zero, List.getElem?_cons_succ]; rfl) (fun K hK => ?_) AllReadyH.nil
      rw [if_pos (by rfl)]
      refine ow_store 32 Z4 rfl rfl rfl size32 rfl (by omega : 0 + 24 ≤ 24) (cmV_one _) (spl24 _ _) ?_
      intro v32 Q6 B6
      replace X5 := B6.box X5 (by omega)
      replace Y5 := B6.box Y5 (by omega)
      replace R5 := B6.box R5 (by omega)
      replace S5 := B6.box S5 (by omega)
      replace Z5 := B6.box Z5 (by omega)
      replace Z4 := Q6
      replace T5 := B6.up T5 (by omega)
      clear B6
      refine hK.out _ _ ⟨X5, Y5⟩ (fun hHeld => ?_)
      clear hK K
      try simp only [Act.put, List.setIfInBounds_toArray, List.set_cons_zero, List.set_cons_succ]
      refine wpAnyH_ready (rs := [7]) (by kernel_rfl) (by simp) ?_
      refine AllReadyH.cons (by simp only [List.getElem?_toArray, List.getElem?_cons_zero, List.getElem?_cons_succ]; rfl) (fun K hK => ?_) AllReadyH.nil
      rw [if_pos (by rfl)]
      refine ow_store 32 Z5 rfl rfl rfl size32 rfl (by omega : 0 + 24 ≤ 24) (cmV_one _) (spl24 _ _) ?_
      intro v33 Q7 B7
      replace X5 := B7.box X5 (by omega)
      replace Y5 := B7.box Y5 (by omega)
      replace R5 := B7.box R5 (by omega)
      replace S5 := B7.box S5 (by omega)
      replace Z4 := B7.box Z4 (by omega)
      replace Z5 := Q7
      replace T5 := B7.up T5 (by omega)
      clear B7
      refine hK.out _ _ ⟨X5, Y5⟩ (fun hHeld => ?_)
      clear hK K
      try simp only [Act.put, List.setIfInBounds_toArray, List.set_cons_zero, List.set_cons_succ]
      refine wpAnyH_done (by kernel_rfl) ?_ _
      go_wp2_with fail
      go_meet
      exact ⟨_, _, rfl, rfl, Z4, Z5, R5, S5, T5⟩
    refine AllReadyH.cons (by simp only [List.getElem?_toArray, List.getElem?_cons_zero, List.getElem?_cons_succ]; rfl) (fun K hK => ?_) ?_
    · have mT4 := T5.size
      have mX54 := X5.lt
      have mY54 := Y5.lt
      have mR54 := R5.lt
      have mS54 := S5.lt
      rw [if_pos (by rfl)]
      refine ow_alloc 32 rfl zero32 ?_
      intro v34 Z4 U
      replace X5 := X5.below U
      replace Y5 := Y5.below U
      replace R5 := R5.below U
      replace S5 := S5.below U
      replace T5 := ups T5 U T5.size
      clear U
      refine hK.out _ _ ⟨X5, Y5⟩ (fun hHeld => ?_)
      clear hK K
      try simp only [Act.put, List.setIfInBounds_toArray, List.set_cons_zero, List.set_cons_succ]
      refine wpAnyH_ready (rs := [1, 5]) (by kernel_rfl) (by simp) ?_
      refine AllReadyH.cons (by simp only [List.getElem?_toArray, List.getElem?_cons_zero, List.getElem?_cons_succ]; rfl) (fun K hK => ?_) ?_
      · go_simp
        go_at_call 17
        (with_reducible refine (Own_any C _).mono ?_)
        rintro e v35 ⟨rfl, U⟩
        replace X5 := X5.below U
        replace Y5 := Y5.below U
        replace R5 := R5.below U
        replace S5 := S5.below U
        replace Z4 := Z4.below U
        replace T5 := ups T5 U T5.size
        clear U
        refine hK.out _ _ ⟨X5, Y5⟩ (fun hHeld => ?_)
        clear hK K
        try simp only [Act.put, List.setIfInBounds_toArray, List.set_cons_zero, List.set_cons_succ]
        refine wpAnyH_ready (rs := [3, 5]) (by kernel_rfl) (by simp) ?_
        refine AllReadyH.cons (by simp only [List.getElem?_toArray, List.getElem?_cons_zero, List.getElem?_cons_succ]; rfl) (fun K hK => ?_) ?_
        · go_simp
          go_at_call 17
          (with_reducible refine (Own_any D _).mono ?_)
          rintro e v36 ⟨rfl, U⟩
          replace X5 := X5.below U
          replace Y5 := Y5.below U
          replace R5 := R5.below U
          replace S5 := S5.below U
          replace Z4 := Z4.below U
          replace T5 := ups T5 U T5.size
          clear U
          refine hK.out _ _ ⟨X5, Y5⟩ (fun hHeld => ?_)
          clear hK K
          try simp only [Act.put, List.setIfInBounds_toArray, List.set_cons_zero, List.set_cons_succ]
          refine wpAnyH_ready (rs := [5]) (by kernel_rfl) (by simp) ?_
          refine AllReadyH.cons (by simp only [List.getElem?_toArray, List.getElem?_cons_zero, List.getElem?_cons_succ]; rfl) (fun K hK => ?_) AllReadyH.nil
          have mT5 := T5.size
          have mX55 := X5.lt
          have mY55 := Y5.lt
          have mR55 := R5.lt
          have mS55 := S5.lt
          have mZ45 := Z4.lt
          rw [if_pos (by rfl)]
          refine ow_alloc 32 rfl zero32 ?_
          intro v37 Z5 U
          replace X5 := X5.below U
          replace Y5 := Y5.below U
          replace R5 := R5.below U
          replace S5 := S5.below U
          replace Z4 := Z4.below U
          replace T5 := ups T5 U T5.size
          clear U
          refine hK.out _ _ ⟨X5, Y5⟩ (fun hHeld => ?_)
          clear hK K
          try simp only [Act.put, List.setIfInBounds_toArray, List.set_cons_zero, List.set_cons_succ]
          refine wpAnyH_ready (rs := [6]) (by kernel_rfl) (by simp) ?_
          refine AllReadyH.cons (by simp only [List.getElem?_toArray, List.getElem?_cons_zero, List.getElem?_cons_succ]; rfl) (fun K hK => ?_) AllReadyH.nil
          rw [if_pos (by rfl)]
          refine ow_store 32 Z4 rfl rfl rfl size32 rfl (by omega : 0 + 24 ≤ 24) (cmV_one _) (spl24 _ _) ?_
          intro v38 Q6 B6
          replace X5 := B6.box X5 (by omega)
          replace Y5 := B6.box Y5 (by omega)
          replace R5 := B6.box R5 (by omega)
          replace S5 := B6.box S5 (by omega)
          replace Z5 := B6.box Z5 (by omega)
          replace Z4 := Q6
          replace T5 := B6.up T5 (by omega)
          clear B6
          refine hK.out _ _ ⟨X5, Y5⟩ (fun hHeld => ?_)
          clear hK K
          try simp only [Act.put, List.setIfInBounds_toArray, List.set_cons_zero, List.set_cons_succ]
          refine wpAnyH_ready (rs := [7]) (by kernel_rfl) (by simp) ?_
          refine AllReadyH.cons (by simp only [List.getElem?_toArray, List.getElem?_cons_zero, List.getElem?_cons_succ]; rfl) (fun K hK => ?_) AllReadyH.nil
          rw [if_pos (by rfl)]
          refine ow_store 32 Z5 rfl rfl rfl size32 rfl (by omega : 0 + 24 ≤ 24) (cmV_one _) (spl24 _ _) ?_
          intro v39 Q7 B7
          replace X5 := B7.box X5 (by omega)
          replace Y5 := B7.box Y5 (by omega)
          replace R5 := B7.box R5 (by omega)
          replace S5 := B7.box S5 (by omega)
          replace Z4 := B7.box Z4 (by omega)
          replace Z5 := Q7
          replace T5 := B7.up T5 (by omega)
          clear B7
          refine hK.out _ _ ⟨X5, Y5⟩ (fun hHeld => ?_)
          clear hK K
          try simp only [Act.put, List.setIfInBounds_toArray, List.set_cons_zero, List.set_cons_succ]
          refine wpAnyH_done (by kernel_rfl) ?_ _
          go_wp2_with fail
          go_meet
          exact ⟨_, _, rfl, rfl, Z4, Z5, R5, S5, T5⟩
        refine AllReadyH.cons (by simp only [List.getElem?_toArray, List.getElem?_cons_zero, List.getElem?_cons_succ]; rfl) (fun K hK => ?_) AllReadyH.nil
        have mT5 := T5.size
        have mX55 := X5.lt
        have mY55 := Y5.lt
        have mR55 := R5.lt
        have mS55 := S5.lt
        have mZ45 := Z4.lt
        rw [if_pos (by rfl)]
        refine ow_alloc 32 rfl zero32 ?_
        intro v40 Z5 U
        replace X5 := X5.below U
        replace Y5 := Y5.below U
        replace R5 := R5.below U
        replace S5 := S5.below U
        replace Z4 := Z4.below U
        replace T5 := ups T5 U T5.size
        clear U
        refine hK.out _ _ ⟨X5, Y5⟩ (fun hHeld => ?_)
        clear hK K
        try simp only [Act.put, List.setIfInBounds_toArray, List.set_cons_zero, List.set_cons_succ]
        refine wpAnyH_ready (rs := [3]) (by kernel_rfl) (by simp) ?_
        refine AllReadyH.cons (by simp only [List.getElem?_toArray, List.getElem?_cons_zero, List.getElem?_cons_succ]; rfl) (fun K hK => ?_) AllReadyH.nil
        go_simp
        go_at_call 17
        (with_reducible refine (Own_any D _).mono ?_)
        rintro e v41 ⟨rfl, U⟩
        replace X5 := X5.below U
        replace Y5 := Y5.below U
        replace R5 := R5.below U
        replace S5 := S5.below U
        replace Z4 := Z4.below U
        replace Z5 := Z5.below U
        replace T5 := ups T5 U T5.size
        clear U
        refine hK.out _ _ ⟨X5, Y5⟩ (fun hHeld => ?_)
        clear hK K
        try simp only [Act.put, List.setIfInBounds_toArray, List.set_cons_zero, List.set_cons_succ]
        refine wpAnyH_ready (rs := [6]) (by kernel_rfl) (by simp) ?_
        refine AllReadyH.cons (by simp only [List.getElem?_toArray, List.getElem?_cons_zero, List.getElem?_cons_succ]; rfl) (fun K hK => ?_) AllReadyH.nil
        rw [if_pos (by rfl)]
        refine ow_store 32 Z4 rfl rfl rfl size32 rfl (by omega : 0 + 24 ≤ 24) (cmV_one _) (spl24 _ _) ?_
        intro v42 Q6 B6
        replace X5 := B6.box X5 (by omega)
        replace Y5 := B6.box Y5 (by omega)
        replace R5 := B6.box R5 (by omega)
        replace S5 := B6.box S5 (by omega)
        replace Z5 := B6.box Z5 (by omega)
        replace Z4 := Q6
        replace T5 := B6.up T5 (by omega)
        clear B6
        refine hK.out _ _ ⟨X5, Y5⟩ (fun hHeld => ?_)
        clear hK K
        try simp only [Act.put, List.setIfInBounds_toArray, List.set_cons_zero, List.set_cons_succ]
        refine wpAnyH_ready (rs := [7]) (by kernel_rfl) (by simp) ?_
        refine AllReadyH.cons (by simp only [List.getElem?_toArray, List.getElem?_cons_zero, List.getElem?_cons_succ]; rfl) (fun K hK => ?_) AllReadyH.nil
        rw [if_pos (by rfl)]
        refine ow_store 32 Z5 rfl rfl rfl size32 rfl (by omega : 0 + 24 ≤ 24) (cmV_one _) (spl24 _ _) ?_
        intro v43 Q7 B7
        replace X5 := B7.box X5 (by omega)
        replace Y5 := B7.box Y5 (by omega)
        replace R5 := B7.box R5 (by omega)
        replace S5 := B7.box S5 (by omega)
        replace Z4 := B7.box Z4 (by omega)
        replace Z5 := Q7
        replace T5 := B7.up T5 (by omega)
        clear B7
        refine hK.out _ _ ⟨X5, Y5⟩ (fun hHeld => ?_)
        clear hK K
        try simp only [Act.put, List.setIfInBounds_toArray, List.set_cons_zero, List.set_cons_succ]
        refine wpAnyH_done (by kernel_rfl) ?_ _
        go_wp2_with fail
        go_meet
        exact ⟨_, _, rfl, rfl, Z4, Z5, R5, S5, T5⟩
      refine AllReadyH.cons (by simp only [List.getElem?_toArray, List.getElem?_cons_zero, List.getElem?_cons_succ]; rfl) (fun K hK => ?_) AllReadyH.nil
      have mT5 := T5.size
      have mX55 := X5.lt
      have mY55 := Y5.lt
      have mR55 := R5.lt
      have mS55 := S5.lt
      have mZ45 := Z4.lt
      rw [if_pos (by rfl)]
      refine ow_alloc 32 rfl zero32 ?_
      intro v44 Z5 U
      replace X5 := X5.below U
      replace Y5 := Y5.below U
      replace R5 := R5.below U
      replace S5 := S5.below U
      replace Z4 := Z4.below U
      replace T5 := ups T5 U T5.size
      clear U
      refine hK.out _ _ ⟨X5, Y5⟩ (fun hHeld => ?_)
      clear hK K
      try simp only [Act.put, List.setIfInBounds_toArray, List.set_cons_zero, List.set_cons_succ]
      refine wpAnyH_ready (rs := [1]) (by kernel_rfl) (by simp) ?_
      refine AllReadyH.cons (by simp only [List.getElem?_toArray, List.getElem?_cons_zero, List.getElem?_cons_succ]; rfl) (fun K hK => ?_) AllReadyH.nil
      go_simp
      go_at_call 17
      (with_reducible refine (Own_any C _).mono ?_)
      rintro e v45 ⟨rfl, U⟩
      replace X5 := X5.below U
      replace Y5 := Y5.below U
      replace R5 := R5.below U
      replace S5 := S5.below U
      replace Z4 := Z4.below U
      replace Z5 := Z5.below U
      replace T5 := ups T5 U T5.size
      clear U
      refine hK.out _ _ ⟨X5, Y5⟩ (fun hHeld => ?_)
      clear hK K
      try simp only [Act.put, List.setIfInBounds_toArray, List.set_cons_zero, List.set_cons_succ]
      refine wpAnyH_ready (rs := [3]) (by kernel_rfl) (by simp) ?_
      refine AllReadyH.cons (by simp only [List.getElem?_toArray, List.getElem?_cons_zero, List.getElem?_cons_succ]; rfl) (fun K hK => ?_) AllReadyH.nil
      go_simp
      go_at_call 17
      (with_reducible refine (Own_any D _).mono ?_)
      rintro e v46 ⟨rfl, U⟩
      replace X5 := X5.below U
      replace Y5 := Y5.below U
      replace R5 := R5.below U
      replace S5 := S5.below U
      replace Z4 := Z4.below U
      replace Z5 := Z5.below U
      replace T5 := ups T5 U T5.size
      clear U
      refine hK.out _ _ ⟨X5, Y5⟩ (fun hHeld => ?_)
      clear hK K
      try simp only [Act.put, List.setIfInBounds_toArray, List.set_cons_zero, List.set_cons_succ]
      refine wpAnyH_ready (rs := [6]) (by kernel_rfl) (by simp) ?_
      refine AllReadyH.cons (by simp only [List.getElem?_toArray, List.getElem?_cons_zero, List.getElem?_cons_succ]; rfl) (fun K hK => ?_) AllReadyH.nil
      rw [if_pos (by rfl)]
      refine ow_store 32 Z4 rfl rfl rfl size32 rfl (by omega : 0 + 24 ≤ 24) (cmV_one _) (spl24 _ _) ?_
      intro v47 Q6 B6
      replace X5 := B6.box X5 (by omega)
      replace Y5 := B6.box Y5 (by omega)
      replace R5 := B6.box R5 (by omega)
      replace S5 := B6.box S5 (by omega)
      replace Z5 := B6.box Z5 (by omega)
      replace Z4 := Q6
      replace T5 := B6.up T5 (by omega)
      clear B6
      refine hK.out _ _ ⟨X5, Y5⟩ (fun hHeld => ?_)
      clear hK K
      try simp only [Act.put, List.setIfInBounds_toArray, List.set_cons_zero, List.set_cons_succ]
      refine wpAnyH_ready (rs := [7]) (by kernel_rfl) (by simp) ?_
      refine AllReadyH.cons (by simp only [List.getElem?_toArray, List.getElem?_cons_zero, List.getElem?_cons_succ]; rfl) (fun K hK => ?_) AllReadyH.nil
      rw [if_pos (by rfl)]
      refine ow_store 32 Z5 rfl rfl rfl size32 rfl (by omega : 0 + 24 ≤ 24) (cmV_one _) (spl24 _ _) ?_
      intro v48 Q7 B7
      replace X5 := B7.box X5 (by omega)
      replace Y5 := B7.box Y5 (by omega)
      replace R5 := B7.box R5 (by omega)
      replace S5 := B7.box S5 (by omega)
      replace Z4 := B7.box Z4 (by omega)
      replace Z5 := Q7
      replace T5 := B7.up T5 (by omega)
      clear B7
      refine hK.out _ _ ⟨X5, Y5⟩ (fun hHeld => ?_)
      clear hK K
      try simp only [Act.put, List.setIfInBounds_toArray, List.set_cons_zero, List.set_cons_succ]
      refine wpAnyH_done (by kernel_rfl) ?_ _
      go_wp2_with fail
      go_meet
      exact ⟨_, _, rfl, rfl, Z4, Z5, R5, S5, T5⟩
    refine AllReadyH.cons (by simp only [List.getElem?_toArray, List.getElem?_cons_zero, List.getElem?_cons_succ]; rfl) (fun K hK => ?_) AllReadyH.nil
    have mT5 := T5.size
    have mX55 := X5.lt
    have mY55 := Y5.lt
    have mR55 := R5.lt
    have mS55 := S5.lt
    rw [if_pos (by rfl)]
    refine ow_alloc 32 rfl zero32 ?_
    intro v49 Z5 U
    replace X5 := X5.below U
    replace Y5 := Y5.below U
    replace R5 := R5.below U
    replace S5 := S5.below U
    replace T5 := ups T5 U T5.size
    clear U
    refine hK.out _ _ ⟨X5, Y5⟩ (fun hHeld => ?_)
    clear hK K
    try simp only [Act.put, List.setIfInBounds_toArray, List.set_cons_zero, List.set_cons_succ]
    refine wpAnyH_ready (rs := [1, 4]) (by kernel_rfl) (by simp) ?_
    refine AllReadyH.cons (by simp only [List.getElem?_toArray, List.getElem?_cons_zero, List.getElem?_cons_succ]; rfl) (fun K hK => ?_) ?_
    · go_simp
      go_at_call 17
      (with_reducible refine (Own_any C _).mono ?_)
      rintro e v50 ⟨rfl, U⟩
      replace X5 := X5.below U
      replace Y5 := Y5.below U
      replace R5 := R5.below U
      replace S5 := S5.below U
      replace Z5 := Z5.below U
      replace T5 := ups T5 U T5.size
      clear U
      refine hK.out _ _ ⟨X5, Y5⟩ (fun hHeld => ?_)
      clear hK K
      try simp only [Act.put, List.setIfInBounds_toArray, List.set_cons_zero, List.set_cons_succ]
      refine wpAnyH_ready (rs := [3, 4]) (by kernel_rfl) (by simp) ?_
      refine AllReadyH.cons (by simp only [List.getElem?_toArray, List.getElem?_cons_zero, List.getElem?_cons_succ]; rfl) (fun K hK => ?_) ?_
      · go_simp
        go_at_call 17
        (with_reducible refine (Own_any D _).mono ?_)
        rintro e v51 ⟨rfl, U⟩
        replace X5 := X5.below U
        replace Y5 := Y5.below U
        replace R5 := R5.below U
        replace S5 := S5.below U
        replace Z5 := Z5.below U
        replace T5 := ups T5 U T5.size
        clear U
        refine hK.out _ _ ⟨X5, Y5⟩ (fun hHeld => ?_)
        clear hK K
        try simp only [Act.put, List.setIfInBounds_toArray, List.set_cons_zero, List.set_cons_succ]
        refine wpAnyH_ready (rs := [4]) (by kernel_rfl) (by simp) ?_
        refine AllReadyH.cons (by simp only [List.getElem?_toArray, List.getElem?_cons_zero, List.getElem?_cons_succ]; rfl) (fun K hK => ?_) AllReadyH.nil
        have mT4 := T5.size
        have mX54 := X5.lt
        have mY54 := Y5.lt
        have mR54 := R5.lt
        have mS54 := S5.lt
        have mZ54 := Z5.lt
        rw [if_pos (by rfl)]
        refine ow_alloc 32 rfl zero32 ?_
        intro v52 Z4 U
        replace X5 := X5.below U
        replace Y5 := Y5.below U
        replace R5 := R5.below U
        replace S5 := S5.below U
        replace Z5 := Z5.below U
        replace T5 := ups T5 U T5.size
        clear U
        refine hK.out _ _ ⟨X5, Y5⟩ (fun hHeld => ?_)
        clear hK K
        try simp only [Act.put, List.setIfInBounds_toArray, List.set_cons_zero, List.set_cons_succ]
        refine wpAnyH_ready (rs := [6]) (by kernel_rfl) (by simp) ?_
        refine AllReadyH.cons (by simp only [List.getElem?_toArray, List.getElem?_cons_zero, List.getElem?_cons_succ]; rfl) (fun K hK => ?_) AllReadyH.nil
        rw [if_pos (by rfl)]
        refine ow_store 32 Z4 rfl rfl rfl size32 rfl (by omega : 0 + 24 ≤ 24) (cmV_one _) (spl24 _ _) ?_
        intro v53 Q6 B6
        replace X5 := B6.box X5 (by omega)
        replace Y5 := B6.box Y5 (by omega)
        replace R5 := B6.box R5 (by omega)
        replace S5 := B6.box S5 (by omega)
        replace Z5 := B6.box Z5 (by omega)
        replace Z4 := Q6
        replace T5 := B6.up T5 (by omega)
        clear B6
        refine hK.out _ _ ⟨X5, Y5⟩ (fun hHeld => ?_)
        clear hK K
        try simp only [Act.put, List.setIfInBounds_toArray, List.set_cons_zero, List.set_cons_succ]
        refine wpAnyH_ready (rs := [7]) (by kernel_rfl) (by simp) ?_
        refine AllReadyH.cons (by simp only [List.getElem?_toArray, List.getElem?_cons_zero, List.getElem?_cons_succ]; rfl) (fun K hK => ?_) AllReadyH.nil
        rw [if_pos (by rfl)]
        refine ow_store 32 Z5 rfl rfl rfl size32 rfl (by omega : 0 + 24 ≤ 24) (cmV_one _) (spl24 _ _) ?_
        intro v54 Q7 B7
        replace X5 := B7.box X5 (by omega)
        replace Y5 := B7.box Y5 (by omega)
        replace R5 := B7.box R5 (by omega)
        replace S5 := B7.box S5 (by omega)
        replace Z4 := B7.box Z4 (by omega)
        replace Z5 := Q7
        replace T5 := B7.up T5 (by omega)
        clear B7
        refine hK.out _ _ ⟨X5, Y5⟩ (fun hHeld => ?_)
        clear hK K
        try simp only [Act.put, List.setIfInBounds_toArray, List.set_cons_zero, List.set_cons_succ]
        refine wpAnyH_done (by kernel_rfl) ?_ _
        go_wp2_with fail
        go_meet
        exact ⟨_, _, rfl, rfl, Z4, Z5, R5, S5, T5⟩
      refine AllReadyH.cons (by simp only [List.getElem?_toArray, List.getElem?_cons_zero, List.getElem?_cons_succ]; rfl) (fun K hK => ?_) AllReadyH.nil
      have mT4 := T5.size
      have mX54 := X5.lt
      have mY54 := Y5.lt
      have mR54 := R5.lt
      have mS54 := S5.lt
      have mZ54 := Z5.lt
      rw [if_pos (by rfl)]
      refine ow_alloc 32 rfl zero32 ?_
      intro v55 Z4 U
      replace X5 := X5.below U
      replace Y5 := Y5.below U
      replace R5 := R5.below U
      replace S5 := S5.below U
      replace Z5 := Z5.below U
      replace T5 := ups T5 U T5.size
      clear U
      refine hK.out _ _ ⟨X5, Y5⟩ (fun hHeld => ?_)
      clear hK K
      try simp only [Act.put, List.setIfInBounds_toArray, List.set_cons_zero, List.set_cons_succ]
      refine wpAnyH_ready (rs := [3]) (by kernel_rfl) (by simp) ?_
      refine AllReadyH.cons (by simp only [List.getElem?_toArray, List.getElem?_cons_zero, List.getElem?_cons_succ]; rfl) (fun K hK => ?_) AllReadyH.nil
      go_simp
      go_at_call 17
      (with_reducible refine (Own_any D _).mono ?_)
      rintro e v56 ⟨rfl, U⟩
      replace X5 := X5.below U
      replace Y5 := Y5.below U
      replace R5 := R5.below U
      replace S5 := S5.below U
      replace Z4 := Z4.below U
      replace Z5 := Z5.below U
      replace T5 := ups T5 U T5.size
      clear U
      refine hK.out _ _ ⟨X5, Y5⟩ (fun hHeld => ?_)
      clear hK K
      try simp only [Act.put, List.setIfInBounds_toArray, List.set_cons_zero, List.set_cons_succ]
      refine wpAnyH_ready (rs := [6]) (by kernel_rfl) (by simp) ?_
      refine AllReadyH.cons (by simp only [List.getElem?_toArray, List.getElem?_cons_zero, List.getElem?_cons_succ]; rfl) (fun K hK => ?_) AllReadyH.nil
      rw [if_pos (by rfl)]
      refine ow_store 32 Z4 rfl rfl rfl size32 rfl (by omega : 0 + 24 ≤ 24) (cmV_one _) (spl24 _ _) ?_
      intro v57 Q6 B6
      replace X5 := B6.box X5 (by omega)
      replace Y5 := B6.box Y5 (by omega)
      replace R5 := B6.box R5 (by omega)
      replace S5 := B6.box S5 (by omega)
      replace Z5 := B6.box Z5 (by omega)
      replace Z4 := Q6
      replace T5 := B6.up T5 (by omega)
      clear B6
      refine hK.out _ _ ⟨X5, Y5⟩ (fun hHeld => ?_)
      clear hK K
      try simp only [Act.put, List.setIfInBounds_toArray, List.set_cons_zero, List.set_cons_succ]
      refine wpAnyH_ready (rs := [7]) (by kernel_rfl) (by simp) ?_
      refine AllReadyH.cons (by simp only [List.getElem?_toArray, List.getElem?_cons_zero, List.getElem?_cons_succ]; rfl) (fun K hK => ?_) AllReadyH.nil
      rw [if_pos (by rfl)]
      refine ow_store 32 Z5 rfl rfl rfl size32 rfl (by omega : 0 + 24 ≤ 24) (cmV_one _) (spl24 _ _) ?_
      intro v58 Q7 B7
      replace X5 := B7.box X5 (by omega)
      replace Y5 := B7.box Y5 (by omega)
      replace R5 := B7.box R5 (by omega)
      replace S5 := B7.box S5 (by omega)
      replace Z4 := B7.box Z4 (by omega)
      replace Z5 := Q7
      replace T5 := B7.up T5 (by omega)
      clear B7
      refine hK.out _ _ ⟨X5, Y5⟩ (fun hHeld => ?_)
      clear hK K
      try simp only [Act.put, List.setIfInBounds_toArray, List.set_cons_zero, List.set_cons_succ]
      refine wpAnyH_done (by kernel_rfl) ?_ _
      go_wp2_with fail
      go_meet
      exact ⟨_, _, rfl, rfl, Z4, Z5, R5, S5, T5⟩
    refine AllReadyH.cons (by simp only [List.getElem?_toArray, List.getElem?_cons_zero, List.getElem?_cons_succ]; rfl) (fun K hK => ?_) AllReadyH.nil
    have mT4 := T5.size
    have mX54 := X5.lt
    have mY54 := Y5.lt
    have mR54 := R5.lt
    have mS54 := S5.lt
    have mZ54 := Z5.lt
    rw [if_pos (by rfl)]
    refine ow_alloc 32 rfl zero32 ?_
    intro v59 Z4 U
    replace X5 := X5.below U
    replace Y5 := Y5.below U
    replace R5 := R5.below U
    replace S5 := S5.below U
    replace Z5 := Z5.below U
    replace T5 := ups T5 U T5.size
    clear U
    refine hK.out _ _ ⟨X5, Y5⟩ (fun hHeld => ?_)
    clear hK K
    try simp only [Act.put, List.setIfInBounds_toArray, List.set_cons_zero, List.set_cons_succ]
    refine wpAnyH_ready (rs := [1]) (by kernel_rfl) (by simp) ?_
    refine AllReadyH.cons (by simp only [List.getElem?_toArray, List.getElem?_cons_zero, List.getElem?_cons_succ]; rfl) (fun K hK => ?_) AllReadyH.nil
    go_simp
    go_at_call 17
    (with_reducible refine (Own_any C _).mono ?_)
    rintro e v60 ⟨rfl, U⟩
    replace X5 := X5.below U
    replace Y5 := Y5.below U
    replace R5 := R5.below U
    replace S5 := S5.below U
    replace Z4 := Z4.below U
    replace Z5 := Z5.below U
    replace T5 := ups T5 U T5.size
    clear U
    refine hK.out _ _ ⟨X5, Y5⟩ (fun hHeld => ?_)
    clear hK K
    try simp only [Act.put, List.setIfInBounds_toArray, List.set_cons_zero, List.set_cons_succ]
    refine wpAnyH_ready (rs := [3]) (by kernel_rfl) (by simp) ?_
    refine AllReadyH.cons (by simp only [List.getElem?_toArray, List.getElem?_cons_zero, List.getElem?_cons_succ]; rfl) (fun K hK => ?_) AllReadyH.nil
    go_simp
    go_at_call 17
    (with_reducible refine (Own_any D _).mono ?_)
    rintro e v61 ⟨rfl, U⟩
    replace X5 := X5.below U
    replace Y5 := Y5.below U
    replace R5 := R5.below U
    replace S5 := S5.below U
    replace Z4 := Z4.below U
    replace Z5 := Z5.below U
    replace T5 := ups T5 U T5.size
    clear U
    refine hK.out _ _ ⟨X5, Y5⟩ (fun hHeld => ?_)
    clear hK K
    try simp only [Act.put, List.setIfInBounds_toArray, List.set_cons_zero, List.set_cons_succ]
    refine wpAnyH_ready (rs := [6]) (by kernel_rfl) (by simp) ?_
    refine AllReadyH.cons (by simp only [List.getElem?_toArray, List.getElem?_cons_zero, List.getElem?_cons_succ]; rfl) (fun K hK => ?_) AllReadyH.nil
    rw [if_pos (by rfl)]
    refine ow_store 32 Z4 rfl rfl rfl size32 rfl (by omega : 0 + 24 ≤ 24) (cmV_one _) (spl24 _ _) ?_
    intro v62 Q6 B6
    replace X5 := B6.box X5 (by omega)
    replace Y5 := B6.box Y5 (by omega)
    replace R5 := B6.box R5 (by omega)
    replace S5 := B6.box S5 (by omega)
    replace Z5 := B6.box Z5 (by omega)
    replace Z4 := Q6
    replace T5 := B6.up T5 (by omega)
    clear B6
    refine hK.out _ _ ⟨X5, Y5⟩ (fun hHeld => ?_)
    clear hK K
    try simp only [Act.put, List.setIfInBounds_toArray, List.set_cons_zero, List.set_cons_succ]
    refine wpAnyH_ready (rs := [7]) (by kernel_rfl) (by simp) ?_
    refine AllReadyH.cons (by simp only [List.getElem?_toArray, List.getElem?_cons_zero, List.getElem?_cons_succ]; rfl) (fun K hK => ?_) AllReadyH.nil
    rw [if_pos (by rfl)]
    refine ow_store 32 Z5 rfl rfl rfl size32 rfl (by omega : 0 + 24 ≤ 24) (cmV_one _) (spl24 _ _) ?_
    intro v63 Q7 B7
    replace X5 := B7.box X5 (by omega)
    replace Y5 := B7.box Y5 (by omega)
    replace R5 := B7.box R5 (by omega)
    replace S5 := B7.box S5 (by omega)
    replace Z4 := B7.box Z4 (by omega)
    replace Z5 := Q7
    replace T5 := B7.up T5 (by omega)
    clear B7
    refine hK.out _ _ ⟨X5, Y5⟩ (fun hHeld => ?_)
    clear hK K
    try simp only [Act.put, List.setIfInBounds_toArray, List.set_cons_zero, List.set_cons_succ]
    refine wpAnyH_done (by kernel_rfl) ?_ _
    go_wp2_with fail
    go_meet
    exact ⟨_, _, rfl, rfl, Z4, Z5, R5, S5, T5⟩
  case rest =>
    rename World => w7
    obtain ⟨G, H, rfl, rfl, Z1, Z2, R7, S7, T7⟩ := hcut
    clear X5 Y5 R5 S5 T5
    have a1 := p1 w7 (hN.up T7)
    go_wp2_with (first
      | (go_at_call 9; (with_reducible refine a1.mono ?_); rintro e w8 ⟨rfl, U8⟩; have Z18 := Z1.below U8; have Z28 := Z2.below U8; have R8 := R7.below U8; have S8 := S7.below U8; have T8 := ups T7 U8 T7.size; have a2 := p2 w8 (hN.up T8))
      | (go_at_call 9; (with_reducible refine a2.mono ?_); rintro e w9 ⟨rfl, U9⟩; have Z19 := Z18.below U9; have Z29 := Z28.below U9; have R9 := R8.below U9; have S9 := S8.below U9; have T9 := ups T8 U9 T8.size; have a3 := p3 w9)
      | (go_at_call 11; (with_reducible refine a3.mono ?_); rintro e wa ⟨rfl, Ua⟩; have Z1a := Z19.below Ua; have Z2a := Z29.below Ua; have Ra := R9.below Ua; have Sa := S9.below Ua; have Ta := ups T9 Ua T9.size; have a4 := p4 wa)
      | (go_at_call 11; (with_reducible refine a4.mono ?_); rintro e wb ⟨rfl, Ub⟩; have Z1b := Z1a.below Ub; have Z2b := Z2a.below Ub; have Rb := Ra.below Ub; have Sb := Sa.below Ub; have Tb := ups Ta Ub Ta.size)
      | (with_reducible refine at_list ?_; first
        | (refine wl_loadf 32 Z1 rfl rfl rfl Tryd.underlying32 rfl size32 (by omega : 0 + 24 ≤ 24) (cmV_all _) ?_; (try simp only [Act.put, List.setIfInBounds_toArray, List.set_cons_zero, List.set_cons_succ]))
        | (refine wl_loadf 32 Z28 rfl rfl rfl Tryd.underlying32 rfl size32 (by omega : 0 + 24 ≤ 24) (cmV_all _) ?_; (try simp only [Act.put, List.setIfInBounds_toArray, List.set_cons_zero, List.set_cons_succ]))
        | (refine wl_loadf 37 R9 rfl rfl rfl Tryd.underlying37 rfl size37 (by omega : 0 + 10 ≤ 10) (rpV_all _) ?_; (try simp only [Act.put, List.setIfInBounds_toArray, List.set_cons_zero, List.set_cons_succ]))
        | (refine wl_loadf 37 Sa rfl rfl rfl Tryd.underlying37 rfl size37 (by omega : 0 + 10 ≤ 10) (rpV_all _) ?_; (try simp only [Act.put, List.setIfInBounds_toArray, List.set_cons_zero, List.set_cons_succ]))
        | (refine wl_run (xl_loadf 32 Z1b rfl rfl Tryd.underlying32 rfl size32 (by omega : 0 + 24 ≤ 24) (cmV_all _)) (wanted_f rfl rfl rfl rfl) ?_; (try simp only [Act.put, List.setIfInBounds_toArray, List.set_cons_zero, List.set_cons_succ]))
        | (refine wl_run (xl_loadf 32 Z2b rfl rfl Tryd.underlying32 rfl size32 (by omega : 0 + 24 ≤ 24) (cmV_all _)) (wanted_f rfl rfl rfl rfl) ?_; (try simp only [Act.put, List.setIfInBounds_toArray, List.set_cons_zero, List.set_cons_succ]))
        | (refine wl_run (xl_eqf32 hb0.out rfl rfl rfl) (wanted_f rfl rfl rfl rfl) ?_; (try simp only [Act.put, List.setIfInBounds_toArray, List.set_cons_zero, List.set_cons_succ]))
        | (refine wl_loadf 37 Rb rfl rfl rfl Tryd.underlying37 rfl size37 (by omega : 0 + 10 ≤ 10) (rpV_all _) ?_; (try simp only [Act.put, List.setIfInBounds_toArray, List.set_cons_zero, List.set_cons_succ]))
        | (refine wl_loadf 37 Sb rfl rfl rfl Tryd.underlying37 rfl size37 (by omega : 0 + 10 ≤ 10) (rpV_all _) ?_; (try simp only [Act.put, List.setIfInBounds_toArray, List.set_cons_zero, List.set_cons_succ]))
        | (refine wl_run (xl_eqf37 hb1.out rfl rfl rfl) rfl ?_; (try simp only [Act.put, List.setIfInBounds_toArray, List.set_cons_zero, List.set_cons_succ]))))
    go_ret
    exact ⟨by simp, Tb⟩
set_option maxHeartbeats 16000000 in
set_option maxRecDepth 100000 in
theorem apart_no2 (C D : Cm) (r q : Rp) (w : World) (hN : Names w) (hC : (ownC C).ok) (hD : (ownC D).ok) (hr : r.ok) (hq : q.ok) (X1 X2 U V : ByteArray) (b0 b1 : Bool) (h1 : cmdV (ownC C) = .tuple #[.string X1, .int .i64 0]) (h2 : cmdV (ownC D) = .tuple #[.string X2, .int .i64 2])
    (hu : repV r = .tuple #[.string U, .int .i64 0]) (hv : repV q = .tuple #[.string V, .int .i64 0]) (hb0 : decide (ownC C = ownC D) = b0) (hb1 : decide (r = q) = b1) (hUV : (U.toList == V.toList) = b1) :
    Calls Tryd.prog 7 #[.agg (cmV C), .agg (cmV D), .agg (rpV r), .agg (rpV q)] w fun e w' => e = .returned (.bool true) ∧ Below w.heap.size w w' := by
  have aw := fun W hN => awake_any W hN
  have p1 := fun W hN => Command_any (ownC C) W hN hC
  have p2 := fun W hN => Command_any (ownC D) W hN hD
  have p3 := fun W => Reply_any r W hr
  have p4 := fun W => Reply_any q W hq
  rw [h1] at p1
  rw [h2] at p2
  rw [hu] at p3
  rw [hv] at p4
  clear h1 h2 hu hv
  replace hb0 := Lib.hid hb0
  replace hb1 := Lib.hid hb1
  go_enter Tryd.func7, Tryd.ntmps7
  go_upto_region 1 with (with_reducible refine at_list ?_; first
    | (refine wl_box 32 (x := .tmp 0) rfl rfl rfl ?_; intro w1 X1 T1; (try simp only [Act.put, List.setIfInBounds_toArray, List.set_cons_zero, List.set_cons_succ]))
    | (refine wl_box 32 (x := .tmp 1) rfl rfl rfl ?_; intro w2 Y2 U2; (try simp only [Act.put, List.setIfInBounds_toArray, List.set_cons_zero, List.set_cons_succ]); have X2 := X1.below U2; have T2 := ups T1 U2 T1.size)
    | (refine wl_box 37 (x := .tmp 2) rfl rfl rfl ?_; intro w3 R3 U3; (try simp only [Act.put, List.setIfInBounds_toArray, List.set_cons_zero, List.set_cons_succ]); have X3 := X2.below U3; have Y3 := Y2.below U3; have T3 := ups T2 U3 T2.size)
    | (refine wl_box 37 (x := .tmp 3) rfl rfl rfl ?_; intro w4 S4 U4; (try simp only [Act.put, List.setIfInBounds_toArray, List.set_cons_zero, List.set_cons_succ]); have X4 := X3.below U4; have Y4 := Y3.below U4; have R4 := R3.below U4; have T4 := ups T3 U4 T3.size; have a1 := aw w4 (hN.up T4)))
  clear X1 T1 Y2 U2 X2 T2 R3 U3 X3 Y3 T3 U4
  obtain ⟨x0, hx0⟩ : ∃ A, w.heap.size = A := ⟨_, rfl⟩
  obtain ⟨y0, hy0⟩ : ∃ A, w1.heap.size = A := ⟨_, rfl⟩
  obtain ⟨r0, hr0⟩ : ∃ A, w2.heap.size = A := ⟨_, rfl⟩
  obtain ⟨s0, hs0⟩ : ∃ A, w3.heap.size = A := ⟨_, rfl⟩
  rw [hx0] at X4 ⊢
  rw [hy0] at Y4 ⊢
  rw [hr0] at R4 ⊢
  rw [hs0] at S4 ⊢
  clear hy0 hr0 hs0 hx0
  go_upto_region 3 with (go_at_call 23; (with_reducible refine a1.mono ?_); rintro e w5 ⟨rfl, U5⟩)
  have X5 := X4.below U5
  have Y5 := Y4.below U5
  have R5 := R4.below U5
  have S5 := S4.below U5
  have T5 := ups T4 U5 T4.size
  clear a1 aw X4 Y4 R4 S4 U5 T4
  go_cut [9, 10] (fun s9 s10 wx => ∃ G H, s9 = .pointer (some ⟨G, 0, none⟩) ∧ s10 = .pointer (some ⟨H, 0, none⟩) ∧ Box wx G (cmV (ownC C)) 32 ∧ Box wx H (cmV (ownC D)) 32 ∧ Box wx r0 (rpV r) 37 ∧ Box wx s0 (rpV q) 37 ∧ Below w.heap.size w wx)
  case first =>
    clear p1 p2 p3 p4
    refine wp_region_held_drew (S := fun W => Box W x0 (cmV C) 32 ∧ Box W y0 (cmV D) 32) (by kernel_rfl) ⟨X5.drew, Y5.drew⟩ (fun hHeld => ?_)
    replace X5 := X5.drew
    replace Y5 := Y5.drew
    replace R5 := R5.drew
    replace S5 := S5.drew
    replace T5 := T5.drew
    generalize w5.drew = w6 at *
    refine wpAnyH_take (i := 0) (v := .agg (cmV C)) (by simp only [List.getElem?_toArray, List.getElem?_cons_zero]; rfl) (by kernel_rfl) (by kernel_rfl) (by kernel_rfl) (by exact fun _ _ _ h => h) (Or.inl ⟨by rfl, fun w hSw => xl_loadf 32 hSw.1 rfl rfl Tryd.underlying32 rfl size32 (by omega : 0 + 24 ≤ 24) (cmV_all _)⟩) (by assumption) ?_
    try simp only [Act.put, List.setIfInBounds_toArray, List.set_cons_zero, List.set_cons_succ]
    refine wpAnyH_take (i := 2) (v := .agg (cmV D)) (by simp only [List.getElem?_toArray, List.getElem?_cons_zero, List.getElem?_cons_succ]; rfl) (by kernel_rfl) (by kernel_rfl) (by kernel_rfl) (by exact fun _ _ _ h => h) (Or.inl ⟨by rfl, fun w hSw => xl_loadf 32 hSw.2 rfl rfl Tryd.underlying32 rfl size32 (by omega : 0 + 24 ≤ 24) (cmV_all _)⟩) (by assumption) ?_
    try simp only [Act.put, List.setIfInBounds_toArray, List.set_cons_zero, List.set_cons_succ]
    refine wpAnyH_ready (rs := [1, 4, 5]) (by kernel_rfl) (by simp) ?_
    refine AllReadyH.cons (by simp only [List.getElem?_toArray, List.getElem?_cons_zero, List.getElem?_cons_succ]; rfl) (fun K hK => ?_) ?_
    · go_simp
      go_at_call 17
      (with_reducible refine (Own_any C _).mono ?_)
      rintro e v64 ⟨rfl, U⟩
      replace X5 := X5.below U
      replace Y5 := Y5.below U
      replace R5 := R5.below U
      replace S5 := S5.below U
      replace T5 := ups T5 U T5.size
      clear U
      refine hK.out _ _ ⟨X5, Y5⟩ (fun hHeld => ?_)
      clear hK K
      try simp only [Act.put, List.setIfInBounds_toArray, List.set_cons_zero, List.set_cons_succ]
      refine wpAnyH_ready (rs := [3, 4, 5]) (by kernel_rfl) (by simp) ?_
      refine AllReadyH.cons (by simp only [List.getElem?_toArray, List.getElem?_cons_zero, List.getElem?_cons_succ]; rfl) (fun K hK => ?_) ?_
      · go_simp
        go_at_call 17
        (with_reducible refine (Own_any D _).mono ?_)
        rintro e v65 ⟨rfl, U⟩
        replace X5 := X5.below U
        replace Y5 := Y5.below U
        replace R5 := R5.below U
        replace S5 := S5.below U
        replace T5 := ups T5 U T5.size
        clear U
        refine hK.out _ _ ⟨X5, Y5⟩ (fun hHeld => ?_)
        clear hK K
        try simp only [Act.put, List.setIfInBounds_toArray, List.set_cons_zero, List.set_cons_succ]
        refine wpAnyH_ready (rs := [4, 5]) (by kernel_rfl) (by simp) ?_
        refine AllReadyH.cons (by simp only [List.getElem?_toArray, List.getElem?_cons_zero, List.getElem?_cons_succ]; rfl) (fun K hK => ?_) ?_
        · have mT4 := T5.size
          have mX54 := X5.lt
          have mY54 := Y5.lt
          have mR54 := R5.lt
          have mS54 := S5.lt
          rw [if_pos (by rfl)]
          refine ow_alloc 32 rfl zero32 ?_
          intro v66 Z4 U
          replace X5 := X5.below U
          replace Y5 := Y5.below U
          replace R5 := R5.below U
          replace S5 := S5.below U
          replace T5 := ups T5 U T5.size
          clear U
          refine hK.out _ _ ⟨X5, Y5⟩ (fun hHeld => ?_)
          clear hK K
          try simp only [Act.put, List.setIfInBounds_toArray, List.set_cons_zero, List.set_cons_succ]
          refine wpAnyH_ready (rs := [5]) (by kernel_rfl) (by simp) ?_
          refine AllReadyH.cons (by simp only [List.getElem?_toArray, List.getElem?_cons_zero, List.getElem?_cons_succ]; rfl) (fun K hK => ?_) AllReadyH.nil
          have mT5 := T5.size
          have mX55 := X5.lt
          have mY55 := Y5.lt
          have mR55 := R5.lt
          have mS55 := S5.lt
          have mZ45 := Z4.lt
          rw [if_pos (by rfl)]
          refine ow_alloc 32 rfl zero32 ?_
          intro v67 Z5 U
          replace X5 := X5.below U
          replace Y5 := Y5.below U
          replace R5 := R5.below U
          replace S5 := S5.below U
          replace Z4 := Z4.below U
          replace T5 := ups T5 U T5.size
          clear U
          refine hK.out _ _ ⟨X5, Y5⟩ (fun hHeld => ?_)
          clear hK K
          try simp only [Act.put, List.setIfInBounds_toArray, List.set_cons_zero, List.set_cons_succ]
          refine wpAnyH_ready (rs := [6]) (by kernel_rfl) (by simp) ?_
          refine AllReadyH.cons (by simp only [List.getElem?_toArray, List.getElem?_cons_zero, List.getElem?_cons_succ]; rfl) (fun K hK => ?_) AllReadyH.nil
          rw [if_pos (by rfl)]
          refine ow_store 32 Z4 rfl rfl rfl size32 rfl (by omega : 0 + 24 ≤ 24) (cmV_one _) (spl24 _ _) ?_
          intro v68 Q6 B6
          replace X5 := B6.box X5 (by omega)
          replace Y5 := B6.box Y5 (by omega)
          replace R5 := B6.box R5 (by omega)
          replace S5 := B6.box S5 (by omega)
          replace Z5 := B6.box Z5 (by omega)
          replace Z4 := Q6
          replace T5 := B6.up T5 (by omega)
          clear B6
          refine hK.out _ _ ⟨X5, Y5⟩ (fun hHeld => ?_)
          clear hK K
          try simp only [Act.put, List.setIfInBounds_toArray, List.set_cons_zero, List.set_cons_succ]
          refine wpAnyH_ready (rs := [7]) (by kernel_rfl) (by simp) ?_
          refine AllReadyH.cons (by simp only [List.getElem?_toArray, List.getElem?_cons_zero, List.getElem?_cons_succ]; rfl) (fun K hK => ?_) AllReadyH.nil
          rw [if_pos (by rfl)]
          refine ow_store 32 Z5 rfl rfl rfl size32 rfl (by omega : 0 + 24 ≤ 24) (cmV_one _) (spl24 _ _) ?_
          intro v69 Q7 B7
          replace X5 := B7.box X5 (by omega)
          replace Y5 := B7.box Y5 (by omega)
          replace R5 := B7.box R5 (by omega)
          replace S5 := B7.box S5 (by omega)
          replace Z4 := B7.box Z4 (by omega)
          replace Z5 := Q7
          replace T5 := B7.up T5 (by omega)
          clear B7
          refine hK.out _ _ ⟨X5, Y5⟩ (fun hHeld => ?_)
          clear hK K
          try simp only [Act.put, List.setIfInBounds_toArray, List.set_cons_zero, List.set_cons_succ]
          refine wpAnyH_done (by kernel_rfl) ?_ _
          go_wp2_with fail
          go_meet
          exact ⟨_, _, rfl, rfl, Z4, Z5, R5, S5, T5⟩
        refine AllReadyH.cons (by simp only [List.getElem?_toArray, List.getElem?_cons_zero, List.getElem?_cons_succ]; rfl) (fun K hK => ?_) AllReadyH.nil
        have mT5 := T5.size
        have mX55 := X5.lt
        have mY55 := Y5.lt
        have mR55 := R5.lt
        have mS55 := S5.lt
        rw [if_pos (by rfl)]
        refine ow_alloc 32 rfl zero32 ?_
        intro v70 Z5 U
        replace X5 := X5.below U
        replace Y5 := Y5.below U
        replace R5 := R5.below U
        replace S5 := S5.below U
        replace T5 := ups T5 U T5.size
        clear U
        refine hK.out _ _ ⟨X5, Y5⟩ (fun hHeld => ?_)
        clear hK K
        try simp only [Act.put, List.setIfInBounds_toArray, List.set_cons_zero, List.set_cons_succ]
        refine wpAnyH_ready (rs := [4]) (by kernel_rfl) (by simp) ?_
        refine AllReadyH.cons (by simp only [List.getElem?_toArray, List.getElem?_cons_zero, List.getElem?_cons_succ]; rfl) (fun K hK => ?_) AllReadyH.nil
        have mT4 := T5.size
        have mX54 := X5.lt
        have mY54 := Y5.lt
        have mR54 := R5.lt
        have mS54 := S5.lt
        have mZ54 := Z5.lt
        rw [if_pos (by rfl)]
        refine ow_alloc 32 rfl zero32 ?_
        intro v71 Z4 U
        replace X5 := X5.below U
        replace Y5 := Y5.below U
        replace R5 := R5.below U
        replace S5 := S5.below U
        replace Z5 := Z5.below U
        replace T5 := ups T5 U T5.size
        clear U
        refine hK.out _ _ ⟨X5, Y5⟩ (fun hHeld => ?_)
        clear hK K
        try simp only [Act.put, List.setIfInBounds_toArray, List.set_cons_zero, List.set_cons_succ]
        refine wpAnyH_ready (rs := [6]) (by kernel_rfl) (by simp) ?_
        refine AllReadyH.cons (by simp only [List.getElem?_toArray, List.getElem?_cons_zero, List.getElem?_cons_succ]; rfl) (fun K hK => ?_) AllReadyH.nil
        rw [if_pos (by rfl)]
        refine ow_store 32 Z4 rfl rfl rfl size32 rfl (by omega : 0 + 24 ≤ 24) (cmV_one _) (spl24 _ _) ?_
        intro v72 Q6 B6
        replace X5 := B6.box X5 (by omega)
        replace Y5 := B6.box Y5 (by omega)
        replace R5 := B6.box R5 (by omega)
        replace S5 := B6.box S5 (by omega)
        replace Z5 := B6.box Z5 (by omega)
        replace Z4 := Q6
        replace T5 := B6.up T5 (by omega)
        clear B6
        refine hK.out _ _ ⟨X5, Y5⟩ (fun hHeld => ?_)
        clear hK K
        try simp only [Act.put, List.setIfInBounds_toArray, List.set_cons_zero, List.set_cons_succ]
        refine wpAnyH_ready (rs := [7]) (by kernel_rfl) (by simp) ?_
        refine AllReadyH.cons (by simp only [List.getElem?_toArray, List.getElem?_cons_zero, List.getElem?_cons_succ]; rfl) (fun K hK => ?_) AllReadyH.nil
        rw [if_pos (by rfl)]
        refine ow_store 32 Z5 rfl rfl rfl size32 rfl (by omega : 0 + 24 ≤ 24) (cmV_one _) (spl24 _ _) ?_
        intro v73 Q7 B7
        replace X5 := B7.box X5 (by omega)
        replace Y5 := B7.box Y5 (by omega)
        replace R5 := B7.box R5 (by omega)
        replace S5 := B7.box S5 (by omega)
        replace Z4 := B7.box Z4 (by omega)
        replace Z5 := Q7
        replace T5 := B7.up T5 (by omega)
        clear B7
        refine hK.out _ _ ⟨X5, Y5⟩ (fun hHeld => ?_)
        clear hK K
        try simp only [Act.put, List.setIfInBounds_toArray, List.set_cons_zero, List.set_cons_succ]
        refine wpAnyH_done (by kernel_rfl) ?_ _
        go_wp2_with fail
        go_meet
        exact ⟨_, _, rfl, rfl, Z4, Z5, R5, S5, T5⟩
      refine AllReadyH.cons (by simp only [List.getElem?_toArray, List.getElem?_cons_zero, List.getElem?_cons_succ]; rfl) (fun K hK => ?_) ?_
      · have mT4 := T5.size
        have mX54 := X5.lt
        have mY54 := Y5.lt
        have mR54 := R5.lt
        have mS54 := S5.lt
        rw [if_pos (by rfl)]
        refine ow_alloc 32 rfl zero32 ?_
        intro v74 Z4 U
        replace X5 := X5.below U
        replace Y5 := Y5.below U
        replace R5 := R5.below U
        replace S5 := S5.below U
        replace T5 := ups T5 U T5.size
        clear U
        refine hK.out _ _ ⟨X5, Y5⟩ (fun hHeld => ?_)
        clear hK K
        try simp only [Act.put, List.setIfInBounds_toArray, List.set_cons_zero, List.set_cons_succ]
        refine wpAnyH_ready (rs := [3, 5]) (by kernel_rfl) (by simp) ?_
        refine AllReadyH.cons (by simp only [List.getElem?_toArray, List.getElem?_cons_zero, List.getElem?_cons_succ]; rfl) (fun K hK => ?_) ?_
        · go_simp
          go_at_call 17
          (with_reducible refine (Own_any D _).mono ?_)
          rintro e v75 ⟨rfl, U⟩
          replace X5 := X5.below U
          replace Y5 := Y5.below U
          replace R5 := R5.below U
          replace S5 := S5.below U
          replace Z4 := Z4.below U
          replace T5 := ups T5 U T5.size
          clear U
          refine hK.out _ _ ⟨X5, Y5⟩ (fun hHeld => ?_)
          clear hK K
          try simp only [Act.put, List.setIfInBounds_toArray, List.set_cons_zero, List.set_cons_succ]
          refine wpAnyH_ready (rs := [5]) (by kernel_rfl) (by simp) ?_
          refine AllReadyH.cons (by simp only [List.getElem?_toArray, List.getElem?_cons_zero, List.getElem?_cons_succ]; rfl) (fun K hK => ?_) AllReadyH.nil
          have mT5 := T5.size
          have mX55 := X5.lt
          have mY55 := Y5.lt
          have mR55 := R5.lt
          have mS55 := S5.lt
          have mZ45 := Z4.lt
          rw [if_pos (by rfl)]
          refine ow_alloc 32 rfl zero32 ?_
          intro v76 Z5 U
          replace X5 := X5.below U
          replace Y5 := Y5.below U
          replace R5 := R5.below U
          replace S5 := S5.below U
          replace Z4 := Z4.below U
          replace T5 := ups T5 U T5.size
          clear U
          refine hK.out _ _ ⟨X5, Y5⟩ (fun hHeld => ?_)
          clear hK K
          try simp only [Act.put, List.setIfInBounds_toArray, List.set_cons_zero, List.set_cons_succ]
          refine wpAnyH_ready (rs := [6]) (by kernel_rfl) (by simp) ?_
          refine AllReadyH.cons (by simp only [List.getElem?_toArray, List.getElem?_cons_zero, List.getElem?_cons_succ]; rfl) (fun K hK => ?_) AllReadyH.nil
          rw [if_pos (by rfl)]
          refine ow_store 32 Z4 rfl rfl rfl size32 rfl (by omega : 0 + 24 ≤ 24) (cmV_one _) (spl24 _ _) ?_
          intro v77 Q6 B6
          replace X5 := B6.box X5 (by omega)
          replace Y5 := B6.box Y5 (by omega)
          replace R5 := B6.box R5 (by omega)
          replace S5 := B6.box S5 (by omega)
          replace Z5 := B6.box Z5 (by omega)
          replace Z4 := Q6
          replace T5 := B6.up T5 (by omega)
          clear B6
          refine hK.out _ _ ⟨X5, Y5⟩ (fun hHeld => ?_)
          clear hK K
          try simp only [Act.put, List.setIfInBounds_toArray, List.set_cons_zero, List.set_cons_succ]
          refine wpAnyH_ready (rs := [7]) (by kernel_rfl) (by simp) ?_
          refine AllReadyH.cons (by simp only [List.getElem?_toArray, List.getElem?_cons_zero, List.getElem?_cons_succ]; rfl) (fun K hK => ?_) AllReadyH.nil
          rw [if_pos (by rfl)]
          refine ow_store 32 Z5 rfl rfl rfl size32 rfl (by omega : 0 + 24 ≤ 24) (cmV_one _) (spl24 _ _) ?_
          intro v78 Q7 B7
          replace X5 := B7.box X5 (by omega)
          replace Y5 := B7.box Y5 (by omega)
          replace R5 := B7.box R5 (by omega)
          replace S5 := B7.box S5 (by omega)
          replace Z4 := B7.box Z4 (by omega)
          replace Z5 := Q7
          replace T5 := B7.up T5 (by omega)
          clear B7
          refine hK.out _ _ ⟨X5, Y5⟩ (fun hHeld => ?_)
          clear hK K
          try simp only [Act.put, List.setIfInBounds_toArray, List.set_cons_zero, List.set_cons_succ]
          refine wpAnyH_done (by kernel_rfl) ?_ _
          go_wp2_with fail
          go_meet
          exact ⟨_, _, rfl, rfl, Z4, Z5, R5, S5, T5⟩
        refine AllReadyH.cons (by simp only [List.getElem?_toArray, List.getElem?_cons_zero, List.getElem?_cons_succ]; rfl) (fun K hK => ?_) AllReadyH.nil
        have mT5 := T5.size
        have mX55 := X5.lt
        have mY55 := Y5.lt
        have mR55 := R5.lt
        have mS55 := S5.lt
        have mZ45 := Z4.lt
        rw [if_pos (by rfl)]
        refine ow_alloc 32 rfl zero32 ?_
        intro v79 Z5 U
        replace X5 := X5.below U
        replace Y5 := Y5.below U
        replace R5 := R5.below U
        replace S5 := S5.below U
        replace Z4 := Z4.below U
        replace T5 := ups T5 U T5.size
        clear U
        refine hK.out _ _ ⟨X5, Y5⟩ (fun hHeld => ?_)
        clear hK K
        try simp only [Act.put, List.setIfInBounds_toArray, List.set_cons_zero, List.set_cons_succ]
        refine wpAnyH_ready (rs := [3]) (by kernel_rfl) (by simp) ?_
        refine AllReadyH.cons (by simp only [List.getElem?_toArray, List.getElem?_cons_zero, List.getElem?_cons_succ]; rfl) (fun K hK => ?_) AllReadyH.nil
        go_simp
        go_at_call 17
        (with_reducible refine (Own_any D _).mono ?_)
        rintro e v80 ⟨rfl, U⟩
        replace X5 := X5.below U
        replace Y5 := Y5.below U
        replace R5 := R5.below U
        replace S5 := S5.below U
        replace Z4 := Z4.below U
        replace Z5 := Z5.below U
        replace T5 := ups T5 U T5.size
        clear U
        refine hK.out _ _ ⟨X5, Y5⟩ (fun hHeld => ?_)
        clear hK K
        try simp only [Act.put, List.setIfInBounds_toArray, List.set_cons_zero, List.set_cons_succ]
        refine wpAnyH_ready (rs := [6]) (by kernel_rfl) (by simp) ?_
        refine AllReadyH.cons (by simp only [List.getElem?_toArray, List.getElem?_cons_zero, List.getElem?_cons_succ]; rfl) (fun K hK => ?_) AllReadyH.nil
        rw [if_pos (by rfl)]
        refine ow_store 32 Z4 rfl rfl rfl size32 rfl (by omega : 0 + 24 ≤ 24) (cmV_one _) (spl24 _ _) ?_
        intro v81 Q6 B6
        replace X5 := B6.box X5 (by omega)
        replace Y5 := B6.box Y5 (by omega)
        replace R5 := B6.box R5 (by omega)
        replace S5 := B6.box S5 (by omega)
        replace Z5 := B6.box Z5 (by omega)
        replace Z4 := Q6
        replace T5 := B6.up T5 (by omega)
        clear B6
        refine hK.out _ _ ⟨X5, Y5⟩ (fun hHeld => ?_)
        clear hK K
        try simp only [Act.put, List.setIfInBounds_toArray, List.set_cons_zero, List.set_cons_succ]
        refine wpAnyH_ready (rs := [7]) (by kernel_rfl) (by simp) ?_
        refine AllReadyH.cons (by simp only [List.getElem?_toArray, List.getElem?_cons_zero, List.getElem?_cons_succ]; rfl) (fun K hK => ?_) AllReadyH.nil
        rw [if_pos (by rfl)]
        refine ow_store 32 Z5 rfl rfl rfl size32 rfl (by omega : 0 + 24 ≤ 24) (cmV_one _) (spl24 _ _) ?_
        intro v82 Q7 B7
        replace X5 := B7.box X5 (by omega)
        replace Y5 := B7.box Y5 (by omega)
        replace R5 := B7.box R5 (by omega)
        replace S5 := B7.box S5 (by omega)
        replace Z4 := B7.box Z4 (by omega)
        replace Z5 := Q7
        replace T5 := B7.up T5 (by omega)
        clear B7
        refine hK.out _ _ ⟨X5, Y5⟩ (fun hHeld => ?_)
        clear hK K
        try simp only [Act.put, List.setIfInBounds_toArray, List.set_cons_zero, List.set_cons_succ]
        refine wpAnyH_done (by kernel_rfl) ?_ _
        go_wp2_with fail
        go_meet
        exact ⟨_, _, rfl, rfl, Z4, Z5, R5, S5, T5⟩
      refine AllReadyH.cons (by simp only [List.getElem?_toArray, List.getElem?_cons_zero, List.getElem?_cons_succ]; rfl) (fun K hK => ?_) AllReadyH.nil
      have mT5 := T5.size
      have mX55 := X5.lt
      have mY55 := Y5.lt
      have mR55 := R5.lt
      have mS55 := S5.lt
      rw [if_pos (by rfl)]
      refine ow_alloc 32 rfl zero32 ?_
      intro v83 Z5 U
      replace X5 := X5.below U
      replace Y5 := Y5.below U
      replace R5 := R5.below U
      replace S5 := S5.below U
      replace T5 := ups T5 U T5.size
      clear U
      refine hK.out _ _ ⟨X5, Y5⟩ (fun hHeld => ?_)
      clear hK K
      try simp only [Act.put, List.setIfInBounds_toArray, List.set_cons_zero, List.set_cons_succ]
      refine wpAnyH_ready (rs := [3, 4]) (by kernel_rfl) (by simp) ?_
      refine AllReadyH.cons (by simp only [List.getElem?_toArray, List.getElem?_cons_zero, List.getElem?_cons_succ]; rfl) (fun K hK => ?_) ?_
      · go_simp
        go_at_call 17
        (with_reducible refine (Own_any D _).mono ?_)
        rintro e v84 ⟨rfl, U⟩
        replace X5 := X5.below U
        replace Y5 := Y5.below U
        replace R5 := R5.below U
        replace S5 := S5.below U
        replace Z5 := Z5.below U
        replace T5 := ups T5 U T5.size
        clear U
        refine hK.out _ _ ⟨X5, Y5⟩ (fun hHeld => ?_)
        clear hK K
        try simp only [Act.put, List.setIfInBounds_toArray, List.set_cons_zero, List.set_cons_succ]
        refine wpAnyH_ready (rs := [4]) (by kernel_rfl) (by simp) ?_
        refine AllReadyH.cons (by simp only [List.getElem?_toArray, List.getElem?_cons_zero, List.getElem?_cons_succ]; rfl) (fun K hK => ?_) AllReadyH.nil
        have mT4 := T5.size
        have mX54 := X5.lt
        have mY54 := Y5.lt
        have mR54 := R5.lt
        have mS54 := S5.lt
        have mZ54 := Z5.lt
        rw [if_pos (by rfl)]
        refine ow_alloc 32 rfl zero32 ?_
        intro v85 Z4 U
        replace X5 := X5.below U
        replace Y5 := Y5.below U
        replace R5 := R5.below U
        replace S5 := S5.below U
        replace Z5 := Z5.below U
        replace T5 := ups T5 U T5.size
        clear U
        refine hK.out _ _ ⟨X5, Y5⟩ (fun hHeld => ?_)
        clear hK K
        try simp only [Act.put, List.setIfInBounds_toArray, List.set_cons_zero, List.set_cons_succ]
        refine wpAnyH_ready (rs := [6]) (by kernel_rfl) (by simp) ?_
        refine AllReadyH.cons (by simp only [List.getElem?_toArray, List.getElem?_cons_zero, List.getElem?_cons_succ]; rfl) (fun K hK => ?_) AllReadyH.nil
        rw [if_pos (by rfl)]
        refine ow_store 32 Z4 rfl rfl rfl size32 rfl (by omega : 0 + 24 ≤ 24) (cmV_one _) (spl24 _ _) ?_
        intro v86 Q6 B6
        replace X5 := B6.box X5 (by omega)
        replace Y5 := B6.box Y5 (by omega)
        replace R5 := B6.box R5 (by omega)
        replace S5 := B6.box S5 (by omega)
        replace Z5 := B6.box Z5 (by omega)
        replace Z4 := Q6
        replace T5 := B6.up T5 (by omega)
        clear B6
        refine hK.out _ _ ⟨X5, Y5⟩ (fun hHeld => ?_)
        clear hK K
        try simp only [Act.put, List.setIfInBounds_toArray, List.set_cons_zero, List.set_cons_succ]
        refine wpAnyH_ready (rs := [7]) (by kernel_rfl) (by simp) ?_
        refine AllReadyH.cons (by simp only [List.getElem?_toArray, List.getElem?_cons_zero, List.getElem?_cons_succ]; rfl) (fun K hK => ?_) AllReadyH.nil
        rw [if_pos (by rfl)]
        refine ow_store 32 Z5 rfl rfl rfl size32 rfl (by omega : 0 + 24 ≤ 24) (cmV_one _) (spl24 _ _) ?_
        intro v87 Q7 B7
        replace X5 := B7.box X5 (by omega)
        replace Y5 := B7.box Y5 (by omega)
        replace R5 := B7.box R5 (by omega)
        replace S5 := B7.box S5 (by omega)
        replace Z4 := B7.box Z4 (by omega)
        replace Z5 := Q7
        replace T5 := B7.up T5 (by omega)
        clear B7
        refine hK.out _ _ ⟨X5, Y5⟩ (fun hHeld => ?_)
        clear hK K
        try simp only [Act.put, List.setIfInBounds_toArray, List.set_cons_zero, List.set_cons_succ]
        refine wpAnyH_done (by kernel_rfl) ?_ _
        go_wp2_with fail
        go_meet
        exact ⟨_, _, rfl, rfl, Z4, Z5, R5, S5, T5⟩
      refine AllReadyH.cons (by simp only [List.getElem?_toArray, List.getElem?_cons_zero, List.getElem?_cons_succ]; rfl) (fun K hK => ?_) AllReadyH.nil
      have mT4 := T5.size
      have mX54 := X5.lt
      have mY54 := Y5.lt
      have mR54 := R5.lt
      have mS54 := S5.lt
      have mZ54 := Z5.lt
      rw [if_pos (by rfl)]
      refine ow_alloc 32 rfl zero32 ?_
      intro v88 Z4 U
      replace X5 := X5.below U
      replace Y5 := Y5.below U
      replace R5 := R5.below U
      replace S5 := S5.below U
      replace Z5 := Z5.below U
      replace T5 := ups T5 U T5.size
      clear U
      refine hK.out _ _ ⟨X5, Y5⟩ (fun hHeld => ?_)
      clear hK K
      try simp only [Act.put, List.setIfInBounds_toArray, List.set_cons_zero, List.set_cons_succ]
      refine wpAnyH_ready (rs := [3]) (by kernel_rfl) (by simp) ?_
      refine AllReadyH.cons (by simp only [List.getElem?_toArray, List.getElem?_cons_zero, List.getElem?_cons_succ]; rfl) (fun K hK => ?_) AllReadyH.nil
      go_simp
      go_at_call 17
      (with_reducible refine (Own_any D _).mono ?_)
      rintro e v89 ⟨rfl, U⟩
      replace X5 := X5.below U
      replace Y5 := Y5.below U
      replace R5 := R5.below U
      replace S5 := S5.below U
      replace Z4 := Z4.below U
      replace Z5 := Z5.below U
      replace T5 := ups T5 U T5.size
      clear U
      refine hK.out _ _ ⟨X5, Y5⟩ (fun hHeld => ?_)
      clear hK K
      try simp only [Act.put, List.setIfInBounds_toArray, List.set_cons_zero, List.set_cons_succ]
      refine wpAnyH_ready (rs := [6]) (by kernel_rfl) (by simp) ?_
      refine AllReadyH.cons (by simp only [List.getElem?_toArray, List.getElem?_cons_zero, List.getElem?_cons_succ]; rfl) (fun K hK => ?_) AllReadyH.nil
      rw [if_pos (by rfl)]
      refine ow_store 32 Z4 rfl rfl rfl size32 rfl (by omega : 0 + 24 ≤ 24) (cmV_one _) (spl24 _ _) ?_
      intro v90 Q6 B6
      replace X5 := B6.box X5 (by omega)
      replace Y5 := B6.box Y5 (by omega)
      replace R5 := B6.box R5 (by omega)
      replace S5 := B6.box S5 (by omega)
      replace Z5 := B6.box Z5 (by omega)
      replace Z4 := Q6
      replace T5 := B6.up T5 (by omega)
      clear B6
      refine hK.out _ _ ⟨X5, Y5⟩ (fun hHeld => ?_)
      clear hK K
      try simp only [Act.put, List.setIfInBounds_toArray, List.set_cons_zero, List.set_cons_succ]
      refine wpAnyH_ready (rs := [7]) (by kernel_rfl) (by simp) ?_
      refine AllReadyH.cons (by simp only [List.getElem?_toArray, List.getElem?_cons_zero, List.getElem?_cons_succ]; rfl) (fun K hK => ?_) AllReadyH.nil
      rw [if_pos (by rfl)]
      refine ow_store 32 Z5 rfl rfl rfl size32 rfl (by omega : 0 + 24 ≤ 24) (cmV_one _) (spl24 _ _) ?_
      intro v91 Q7 B7
      replace X5 := B7.box X5 (by omega)
      replace Y5 := B7.box Y5 (by omega)
      replace R5 := B7.box R5 (by omega)
      replace S5 := B7.box S5 (by omega)
      replace Z4 := B7.box Z4 (by omega)
      replace Z5 := Q7
      replace T5 := B7.up T5 (by omega)
      clear B7
      refine hK.out _ _ ⟨X5, Y5⟩ (fun hHeld => ?_)
      clear hK K
      try simp only [Act.put, List.setIfInBounds_toArray, List.set_cons_zero, List.set_cons_succ]
      refine wpAnyH_done (by kernel_rfl) ?_ _
      go_wp2_with fail
      go_meet
      exact ⟨_, _, rfl, rfl, Z4, Z5, R5, S5, T5⟩
    refine AllReadyH.cons (by simp only [List.getElem?_toArray, List.getElem?_cons_zero, List.getElem?_cons_succ]; rfl) (fun K hK => ?_) ?_
    · have mT4 := T5.size
      have mX54 := X5.lt
      have mY54 := Y5.lt
      have mR54 := R5.lt
      have mS54 := S5.lt
      rw [if_pos (by rfl)]
      refine ow_alloc 32 rfl zero32 ?_
      intro v92 Z4 U
      replace X5 := X5.below U
      replace Y5 := Y5.below U
      replace R5 := R5.below U
      replace S5 := S5.below U
      replace T5 := ups T5 U T5.size
      clear U
      refine hK.out _ _ ⟨X5, Y5⟩ (fun hHeld => ?_)
      clear hK K
      try simp only [Act.put, List.setIfInBounds_toArray, List.set_cons_zero, List.set_cons_succ]
      refine wpAnyH_ready (rs := [1, 5]) (by kernel_rfl) (by simp) ?_
      refine AllReadyH.cons (by simp only [List.getElem?_toArray, List.getElem?_cons_zero, List.getElem?_cons_succ]; rfl) (fun K hK => ?_) ?_
      · go_simp
        go_at_call 17
        (with_reducible refine (Own_any C _).mono ?_)
        rintro e v93 ⟨rfl, U⟩
        replace X5 := X5.below U
        replace Y5 := Y5.below U
        replace R5 := R5.below U
        replace S5 := S5.below U
        replace Z4 := Z4.below U
        replace T5 := ups T5 U T5.size
        clear U
        refine hK.out _ _ ⟨X5, Y5⟩ (fun hHeld => ?_)
        clear hK K
        try simp only [Act.put, List.setIfInBounds_toArray, List.set_cons_zero, List.set_cons_succ]
        refine wpAnyH_ready (rs := [3, 5]) (by kernel_rfl) (by simp) ?_
        refine AllReadyH.cons (by simp only [List.getElem?_toArray, List.getElem?_cons_zero, List.getElem?_cons_succ]; rfl) (fun K hK => ?_) ?_
        · go_simp
          go_at_call 17
          (with_reducible refine (Own_any D _).mono ?_)
          rintro e v94 ⟨rfl, U⟩
          replace X5 := X5.below U
          replace Y5 := Y5.below U
          replace R5 := R5.below U
          replace S5 := S5.below U
          replace Z4 := Z4.below U
          replace T5 := ups T5 U T5.size
          clear U
          refine hK.out _ _ ⟨X5, Y5⟩ (fun hHeld => ?_)
          clear hK K
          try simp only [Act.put, List.setIfInBounds_toArray, List.set_cons_zero, List.set_cons_succ]
          refine wpAnyH_ready (rs := [5]) (by kernel_rfl) (by simp) ?_
          refine AllReadyH.cons (by simp only [List.getElem?_toArray, List.getElem?_cons_zero, List.getElem?_cons_succ]; rfl) (fun K hK => ?_) AllReadyH.nil
          have mT5 := T5.size
          have mX55 := X5.lt
          have mY55 := Y5.lt
          have mR55 := R5.lt
          have mS55 := S5.lt
          have mZ45 := Z4.lt
          rw [if_pos (by rfl)]
          refine ow_alloc 32 rfl zero32 ?_
          intro v95 Z5 U
          replace X5 := X5.below U
          replace Y5 := Y5.below U
          replace R5 := R5.below U
          replace S5 := S5.below U
          replace Z4 := Z4.below U
          replace T5 := ups T5 U T5.size
          clear U
          refine hK.out _ _ ⟨X5, Y5⟩ (fun hHeld => ?_)
          clear hK K
          try simp only [Act.put, List.setIfInBounds_toArray, List.set_cons_zero, List.set_cons_succ]
          refine wpAnyH_ready (rs := [6]) (by kernel_rfl) (by simp) ?_
          refine AllReadyH.cons (by simp only [List.getElem?_toArray, List.getElem?_cons_zero, List.getElem?_cons_succ]; rfl) (fun K hK => ?_) AllReadyH.nil
          rw [if_pos (by rfl)]
          refine ow_store 32 Z4 rfl rfl rfl size32 rfl (by omega : 0 + 24 ≤ 24) (cmV_one _) (spl24 _ _) ?_
          intro v96 Q6 B6
          replace X5 := B6.box X5 (by omega)
          replace Y5 := B6.box Y5 (by omega)
          replace R5 := B6.box R5 (by omega)
          replace S5 := B6.box S5 (by omega)
          replace Z5 := B6.box Z5 (by omega)
          replace Z4 := Q6
          replace T5 := B6.up T5 (by omega)
          clear B6
          refine hK.out _ _ ⟨X5, Y5⟩ (fun hHeld => ?_)
          clear hK K
          try simp only [Act.put, List.setIfInBounds_toArray, List.set_cons_zero, List.set_cons_succ]
          refine wpAnyH_ready (rs := [7]) (by kernel_rfl) (by simp) ?_
          refine AllReadyH.cons (by simp only [List.getElem?_toArray, List.getElem?_cons_zero, List.getElem?_cons_succ]; rfl) (fun K hK => ?_) AllReadyH.nil
          rw [if_pos (by rfl)]
          refine ow_store 32 Z5 rfl rfl rfl size32 rfl (by omega : 0 + 24 ≤ 24) (cmV_one _) (spl24 _ _) ?_
          intro v97 Q7 B7
          replace X5 := B7.box X5 (by omega)
          replace Y5 := B7.box Y5 (by omega)
          replace R5 := B7.box R5 (by omega)
          replace S5 := B7.box S5 (by omega)
          replace Z4 := B7.box Z4 (by omega)
          replace Z5 := Q7
          replace T5 := B7.up T5 (by omega)
          clear B7
          refine hK.out _ _ ⟨X5, Y5⟩ (fun hHeld => ?_)
          clear hK K
          try simp only [Act.put, List.setIfInBounds_toArray, List.set_cons_zero, List.set_cons_succ]
          refine wpAnyH_done (by kernel_rfl) ?_ _
          go_wp2_with fail
          go_meet
          exact ⟨_, _, rfl, rfl, Z4, Z5, R5, S5, T5⟩
        refine AllReadyH.cons (by simp only [List.getElem?_toArray, List.getElem?_cons_zero, List.getElem?_cons_succ]; rfl) (fun K hK => ?_) AllReadyH.nil
        have mT5 := T5.size
        have mX55 := X5.lt
        have mY55 := Y5.lt
        have mR55 := R5.lt
        have mS55 := S5.lt
        have mZ45 := Z4.lt
        rw [if_pos (by rfl)]
        refine ow_alloc 32 rfl zero32 ?_
        intro v98 Z5 U
        replace X5 := X5.below U
        replace Y5 := Y5.below U
        replace R5 := R5.below U
        replace S5 := S5.below U
        replace Z4 := Z4.below U
        replace T5 := ups T5 U T5.size
        clear U
        refine hK.out _ _ ⟨X5, Y5⟩ (fun hHeld => ?_)
        clear hK K
        try simp only [Act.put, List.setIfInBounds_toArray, List.set_cons_zero, List.set_cons_succ]
        refine wpAnyH_ready (rs := [3]) (by kernel_rfl) (by simp) ?_
        refine AllReadyH.cons (by simp only [List.getElem?_toArray, List.getElem?_cons_zero, List.getElem?_cons_succ]; rfl) (fun K hK => ?_) AllReadyH.nil
        go_simp
        go_at_call 17
        (with_reducible refine (Own_any D _).mono ?_)
        rintro e v99 ⟨rfl, U⟩
        replace X5 := X5.below U
        replace Y5 := Y5.below U
        replace R5 := R5.below U
        replace S5 := S5.below U
        replace Z4 := Z4.below U
        replace Z5 := Z5.below U
        replace T5 := ups T5 U T5.size
        clear U
        refine hK.out _ _ ⟨X5, Y5⟩ (fun hHeld => ?_)
        clear hK K
        try simp only [Act.put, List.setIfInBounds_toArray, List.set_cons_zero, List.set_cons_succ]
        refine wpAnyH_ready (rs := [6]) (by kernel_rfl) (by simp) ?_
        refine AllReadyH.cons (by simp only [List.getElem?_toArray, List.getElem?_cons_zero, List.getElem?_cons_succ]; rfl) (fun K hK => ?_) AllReadyH.nil
        rw [if_pos (by rfl)]
        refine ow_store 32 Z4 rfl rfl rfl size32 rfl (by omega : 0 + 24 ≤ 24) (cmV_one _) (spl24 _ _) ?_
        intro v100 Q6 B6
        replace X5 := B6.box X5 (by omega)
        replace Y5 := B6.box Y5 (by omega)
        replace R5 := B6.box R5 (by omega)
        replace S5 := B6.box S5 (by omega)
        replace Z5 := B6.box Z5 (by omega)
        replace Z4 := Q6
        replace T5 := B6.up T5 (by omega)
        clear B6
        refine hK.out _ _ ⟨X5, Y5⟩ (fun hHeld => ?_)
        clear hK K
        try simp only [Act.put, List.setIfInBounds_toArray, List.set_cons_zero, List.set_cons_succ]
        refine wpAnyH_ready (rs := [7]) (by kernel_rfl) (by simp) ?_
        refine AllReadyH.cons (by simp only [List.getElem?_toArray, List.getElem?_cons_zero, List.getElem?_cons_succ]; rfl) (fun K hK => ?_) AllReadyH.nil
        rw [if_pos (by rfl)]
        refine ow_store 32 Z5 rfl rfl rfl size32 rfl (by omega : 0 + 24 ≤ 24) (cmV_one _) (spl24 _ _) ?_
        intro v101 Q7 B7
        replace X5 := B7.box X5 (by omega)
        replace Y5 := B7.box Y5 (by omega)
        replace R5 := B7.box R5 (by omega)
        replace S5 := B7.box S5 (by omega)
        replace Z4 := B7.box Z4 (by omega)
        replace Z5 := Q7
        replace T5 := B7.up T5 (by omega)
        clear B7
        refine hK.out _ _ ⟨X5, Y5⟩ (fun hHeld => ?_)
        clear hK K
        try simp only [Act.put, List.setIfInBounds_toArray, List.set_cons_zero, List.set_cons_succ]
        refine wpAnyH_done (by kernel_rfl) ?_ _
        go_wp2_with fail
        go_meet
        exact ⟨_, _, rfl, rfl, Z4, Z5, R5, S5, T5⟩
      refine AllReadyH.cons (by simp only [List.getElem?_toArray, List.getElem?_cons_zero, List.getElem?_cons_succ]; rfl) (fun K hK => ?_) AllReadyH.nil
      have mT5 := T5.size
      have mX55 := X5.lt
      have mY55 := Y5.lt
      have mR55 := R5.lt
      have mS55 := S5.lt
      have mZ45 := Z4.lt
      rw [if_pos (by rfl)]
      refine ow_alloc 32 rfl zero32 ?_
      intro v102 Z5 U
      replace X5 := X5.below U
      replace Y5 := Y5.below U
      replace R5 := R5.below U
      replace S5 := S5.below U
      replace Z4 := Z4.below U
      replace T5 := ups T5 U T5.size
      clear U
      refine hK.out _ _ ⟨X5, Y5⟩ (fun hHeld => ?_)
      clear hK K
      try simp only [Act.put, List.setIfInBounds_toArray, List.set_cons_zero, List.set_cons_succ]
      refine wpAnyH_ready (rs := [1]) (by kernel_rfl) (by simp) ?_
      refine AllReadyH.cons (by simp only [List.getElem?_toArray, List.getElem?_cons_zero, List.getElem?_cons_succ]; rfl) (fun K hK => ?_) AllReadyH.nil
      go_simp
      go_at_call 17
      (with_reducible refine (Own_any C _).mono ?_)
      rintro e v103 ⟨rfl, U⟩
      replace X5 := X5.below U
      replace Y5 := Y5.below U
      replace R5 := R5.below U
      replace S5 := S5.below U
      replace Z4 := Z4.below U
      replace Z5 := Z5.below U
      replace T5 := ups T5 U T5.size
      clear U
      refine hK.out _ _ ⟨X5, Y5⟩ (fun hHeld => ?_)
      clear hK K
      try simp only [Act.put, List.setIfInBounds_toArray, List.set_cons_zero, List.set_cons_succ]
      refine wpAnyH_ready (rs := [3]) (by kernel_rfl) (by simp) ?_
      refine AllReadyH.cons (by simp only [List.getElem?_toArray, List.getElem?_cons_zero, List.getElem?_cons_succ]; rfl) (fun K hK => ?_) AllReadyH.nil
      go_simp
      go_at_call 17
      (with_reducible refine (Own_any D _).mono ?_)
      rintro e v104 ⟨rfl, U⟩
      replace X5 := X5.below U
      replace Y5 := Y5.below U
      replace R5 := R5.below U
      replace S5 := S5.below U
      replace Z4 := Z4.below U
      replace Z5 := Z5.below U
      replace T5 := ups T5 U T5.size
      clear U
      refine hK.out _ _ ⟨X5, Y5⟩ (fun hHeld => ?_)
      clear hK K
      try simp only [Act.put, List.setIfInBounds_toArray, List.set_cons_zero, List.set_cons_succ]
      refine wpAnyH_ready (rs := [6]) (by kernel_rfl) (by simp) ?_
      refine AllReadyH.cons (by simp only [List.getElem?_toArray, List.getElem?_cons_zero, List.getElem?_cons_succ]; rfl) (fun K hK => ?_) AllReadyH.nil
      rw [if_pos (by rfl)]
      refine ow_store 32 Z4 rfl rfl rfl size32 rfl (by omega : 0 + 24 ≤ 24) (cmV_one _) (spl24 _ _) ?_
      intro v105 Q6 B6
      replace X5 := B6.box X5 (by omega)
      replace Y5 := B6.box Y5 (by omega)
      replace R5 := B6.box R5 (by omega)
      replace S5 := B6.box S5 (by omega)
      replace Z5 := B6.box Z5 (by omega)
      replace Z4 := Q6
      replace T5 := B6.up T5 (by omega)
      clear B6
      refine hK.out _ _ ⟨X5, Y5⟩ (fun hHeld => ?_)
      clear hK K
      try simp only [Act.put, List.setIfInBounds_toArray, List.set_cons_zero, List.set_cons_succ]
      refine wpAnyH_ready (rs := [7]) (by kernel_rfl) (by simp) ?_
      refine AllReadyH.cons (by simp only [List.getElem?_toArray, List.getElem?_cons_zero, List.getElem?_cons_succ]; rfl) (fun K hK => ?_) AllReadyH.nil
      rw [if_pos (by rfl)]
      refine ow_store 32 Z5 rfl rfl rfl size32 rfl (by omega : 0 + 24 ≤ 24) (cmV_one _) (spl24 _ _) ?_
      intro v106 Q7 B7
      replace X5 := B7.box X5 (by omega)
      replace Y5 := B7.box Y5 (by omega)
      replace R5 := B7.box R5 (by omega)
      replace S5 := B7.box S5 (by omega)
      replace Z4 := B7.box Z4 (by omega)
      replace Z5 := Q7
      replace T5 := B7.up T5 (by omega)
      clear B7
      refine hK.out _ _ ⟨X5, Y5⟩ (fun hHeld => ?_)
      clear hK K
      try simp only [Act.put, List.setIfInBounds_toArray, List.set_cons_zero, List.set_cons_succ]
      refine wpAnyH_done (by kernel_rfl) ?_ _
      go_wp2_with fail
      go_meet
      exact ⟨_, _, rfl, rfl, Z4, Z5, R5, S5, T5⟩
    refine AllReadyH.cons (by simp only [List.getElem?_toArray, List.getElem?_cons_zero, List.getElem?_cons_succ]; rfl) (fun K hK => ?_) AllReadyH.nil
    have mT5 := T5.size
    have mX55 := X5.lt
    have mY55 := Y5.lt
    have mR55 := R5.lt
    have mS55 := S5.lt
    rw [if_pos (by rfl)]
    refine ow_alloc 32 rfl zero32 ?_
    intro v107 Z5 U
    replace X5 := X5.below U
    replace Y5 := Y5.below U
    replace R5 := R5.below U
    replace S5 := S5.below U
    replace T5 := ups T5 U T5.size
    clear U
    refine hK.out _ _ ⟨X5, Y5⟩ (fun hHeld => ?_)
    clear hK K
    try simp only [Act.put, List.setIfInBounds_toArray, List.set_cons_zero, List.set_cons_succ]
    refine wpAnyH_ready (rs := [1, 4]) (by kernel_rfl) (by simp) ?_
    refine AllReadyH.cons (by simp only [List.getElem?_toArray, List.getElem?_cons_zero, List.getElem?_cons_succ]; rfl) (fun K hK => ?_) ?_
    · go_simp
      go_at_call 17
      (with_reducible refine (Own_any C _).mono ?_)
      rintro e v108 ⟨rfl, U⟩
      replace X5 := X5.below U
      replace Y5 := Y5.below U
      replace R5 := R5.below U
      replace S5 := S5.below U
      replace Z5 := Z5.below U
      replace T5 := ups T5 U T5.size
      clear U
      refine hK.out _ _ ⟨X5, Y5⟩ (fun hHeld => ?_)
      clear hK K
      try simp only [Act.put, List.setIfInBounds_toArray, List.set_cons_zero, List.set_cons_succ]
      refine wpAnyH_ready (rs := [3, 4]) (by kernel_rfl) (by simp) ?_
      refine AllReadyH.cons (by simp only [List.getElem?_toArray, List.getElem?_cons_zero, List.getElem?_cons_succ]; rfl) (fun K hK => ?_) ?_
      · go_simp
        go_at_call 17
        (with_reducible refine (Own_any D _).mono ?_)
        rintro e v109 ⟨rfl, U⟩
        replace X5 := X5.below U
        replace Y5 := Y5.below U
        replace R5 := R5.below U
        replace S5 := S5.below U
        replace Z5 := Z5.below U
        replace T5 := ups T5 U T5.size
        clear U
        refine hK.out _ _ ⟨X5, Y5⟩ (fun hHeld => ?_)
        clear hK K
        try simp only [Act.put, List.setIfInBounds_toArray, List.set_cons_zero, List.set_cons_succ]
        refine wpAnyH_ready (rs := [4]) (by kernel_rfl) (by simp) ?_
        refine AllReadyH.cons (by simp only [List.getElem?_toArray, List.getElem?_cons_zero, List.getElem?_cons_succ]; rfl) (fun K hK => ?_) AllReadyH.nil
        have mT4 := T5.size
        have mX54 := X5.lt
        have mY54 := Y5.lt
        have mR54 := R5.lt
        have mS54 := S5.lt
        have mZ54 := Z5.lt
        rw [if_pos (by rfl)]
        refine ow_alloc 32 rfl zero32 ?_
        intro v110 Z4 U
        replace X5 := X5.below U
        replace Y5 := Y5.below U
        replace R5 := R5.below U
        replace S5 := S5.below U
        replace Z5 := Z5.below U
        replace T5 := ups T5 U T5.size
        clear U
        refine hK.out _ _ ⟨X5, Y5⟩ (fun hHeld => ?_)
        clear hK K
        try simp only [Act.put, List.setIfInBounds_toArray, List.set_cons_zero, List.set_cons_succ]
        refine wpAnyH_ready (rs := [6]) (by kernel_rfl) (by simp) ?_
        refine AllReadyH.cons (by simp only [List.getElem?_toArray, List.getElem?_cons_zero, List.getElem?_cons_succ]; rfl) (fun K hK => ?_) AllReadyH.nil
        rw [if_pos (by rfl)]
        refine ow_store 32 Z4 rfl rfl rfl size32 rfl (by omega : 0 + 24 ≤ 24) (cmV_one _) (spl24 _ _) ?_
        intro v111 Q6 B6
        replace X5 := B6.box X5 (by omega)
        replace Y5 := B6.box Y5 (by omega)
        replace R5 := B6.box R5 (by omega)
        replace S5 := B6.box S5 (by omega)
        replace Z5 := B6.box Z5 (by omega)
        replace Z4 := Q6
        replace T5 := B6.up T5 (by omega)
        clear B6
        refine hK.out _ _ ⟨X5, Y5⟩ (fun hHeld => ?_)
        clear hK K
        try simp only [Act.put, List.setIfInBounds_toArray, List.set_cons_zero, List.set_cons_succ]
        refine wpAnyH_ready (rs := [7]) (by kernel_rfl) (by simp) ?_
        refine AllReadyH.cons (by simp only [List.getElem?_toArray, List.getElem?_cons_zero, List.getElem?_cons_succ]; rfl) (fun K hK => ?_) AllReadyH.nil
        rw [if_pos (by rfl)]
        refine ow_store 32 Z5 rfl rfl rfl size32 rfl (by omega : 0 + 24 ≤ 24) (cmV_one _) (spl24 _ _) ?_
        intro v112 Q7 B7
        replace X5 := B7.box X5 (by omega)
        replace Y5 := B7.box Y5 (by omega)
        replace R5 := B7.box R5 (by omega)
        replace S5 := B7.box S5 (by omega)
        replace Z4 := B7.box Z4 (by omega)
        replace Z5 := Q7
        replace T5 := B7.up T5 (by omega)
        clear B7
        refine hK.out _ _ ⟨X5, Y5⟩ (fun hHeld => ?_)
        clear hK K
        try simp only [Act.put, List.setIfInBounds_toArray, List.set_cons_zero, List.set_cons_succ]
        refine wpAnyH_done (by kernel_rfl) ?_ _
        go_wp2_with fail
        go_meet
        exact ⟨_, _, rfl, rfl, Z4, Z5, R5, S5, T5⟩
      refine AllReadyH.cons (by simp only [List.getElem?_toArray, List.getElem?_cons_zero, List.getElem?_cons_succ]; rfl) (fun K hK => ?_) AllReadyH.nil
      have mT4 := T5.size
      have mX54 := X5.lt
      have mY54 := Y5.lt
      have mR54 := R5.lt
      have mS54 := S5.lt
      have mZ54 := Z5.lt
      rw [if_pos (by rfl)]
      refine ow_alloc 32 rfl zero32 ?_
      intro v113 Z4 U
      replace X5 := X5.below U
      replace Y5 := Y5.below U
      replace R5 := R5.below U
      replace S5 := S5.below U
      replace Z5 := Z5.below U
      replace T5 := ups T5 U T5.size
      clear U
      refine hK.out _ _ ⟨X5, Y5⟩ (fun hHeld => ?_)
      clear hK K
      try simp only [Act.put, List.setIfInBounds_toArray, List.set_cons_zero, List.set_cons_succ]
      refine wpAnyH_ready (rs := [3]) (by kernel_rfl) (by simp) ?_
      refine AllReadyH.cons (by simp only [List.getElem?_toArray, List.getElem?_cons_zero, List.getElem?_cons_succ]; rfl) (fun K hK => ?_) AllReadyH.nil
      go_simp
      go_at_call 17
      (with_reducible refine (Own_any D _).mono ?_)
      rintro e v114 ⟨rfl, U⟩
      replace X5 := X5.below U
      replace Y5 := Y5.below U
      replace R5 := R5.below U
      replace S5 := S5.below U
      replace Z4 := Z4.below U
      replace Z5 := Z5.below U
      replace T5 := ups T5 U T5.size
      clear U
      refine hK.out _ _ ⟨X5, Y5⟩ (fun hHeld => ?_)
      clear hK K
      try simp only [Act.put, List.setIfInBounds_toArray, List.set_cons_zero, List.set_cons_succ]
      refine wpAnyH_ready (rs := [6]) (by kernel_rfl) (by simp) ?_
      refine AllReadyH.cons (by simp only [List.getElem?_toArray, List.getElem?_cons_zero, List.getElem?_cons_succ]; rfl) (fun K hK => ?_) AllReadyH.nil
      rw [if_pos (by rfl)]
      refine ow_store 32 Z4 rfl rfl rfl size32 rfl (by omega : 0 + 24 ≤ 24) (cmV_one _) (spl24 _ _) ?_
      intro v115 Q6 B6
      replace X5 := B6.box X5 (by omega)
      replace Y5 := B6.box Y5 (by omega)
      replace R5 := B6.box R5 (by omega)
      replace S5 := B6.box S5 (by omega)
      replace Z5 := B6.box Z5 (by omega)
      replace Z4 := Q6
      replace T5 := B6.up T5 (by omega)
      clear B6
      refine hK.out _ _ ⟨X5, Y5⟩ (fun hHeld => ?_)
      clear hK K
      try simp only [Act.put, List.setIfInBounds_toArray, List.set_cons_zero, List.set_cons_succ]
      refine wpAnyH_ready (rs := [7]) (by kernel_rfl) (by simp) ?_
      refine AllReadyH.cons (by simp only [List.getElem?_toArray, List.getElem?_cons_zero, List.getElem?_cons_succ]; rfl) (fun K hK => ?_) AllReadyH.nil
      rw [if_pos (by rfl)]
      refine ow_store 32 Z5 rfl rfl rfl size32 rfl (by omega : 0 + 24 ≤ 24) (cmV_one _) (spl24 _ _) ?_
      intro v116 Q7 B7
      replace X5 := B7.box X5 (by omega)
      replace Y5 := B7.box Y5 (by omega)
      replace R5 := B7.box R5 (by omega)
      replace S5 := B7.box S5 (by omega)
      replace Z4 := B7.box Z4 (by omega)
      replace Z5 := Q7
      replace T5 := B7.up T5 (by omega)
      clear B7
      refine hK.out _ _ ⟨X5, Y5⟩ (fun hHeld => ?_)
      clear hK K
      try simp only [Act.put, List.setIfInBounds_toArray, List.set_cons_zero, List.set_cons_succ]
      refine wpAnyH_done (by kernel_rfl) ?_ _
      go_wp2_with fail
      go_meet
      exact ⟨_, _, rfl, rfl, Z4, Z5, R5, S5, T5⟩
    refine AllReadyH.cons (by simp only [List.getElem?_toArray, List.getElem?_cons_zero, List.getElem?_cons_succ]; rfl) (fun K hK => ?_) AllReadyH.nil
    have mT4 := T5.size
    have mX54 := X5.lt
    have mY54 := Y5.lt
    have mR54 := R5.lt
    have mS54 := S5.lt
    have mZ54 := Z5.lt
    rw [if_pos (by rfl)]
    refine ow_alloc 32 rfl zero32 ?_
    intro v117 Z4 U
    replace X5 := X5.below U
    replace Y5 := Y5.below U
    replace R5 := R5.below U
    replace S5 := S5.below U
    replace Z5 := Z5.below U
    replace T5 := ups T5 U T5.size
    clear U
    refine hK.out _ _ ⟨X5, Y5⟩ (fun hHeld => ?_)
    clear hK K
    try simp only [Act.put, List.setIfInBounds_toArray, List.set_cons_zero, List.set_cons_succ]
    refine wpAnyH_ready (rs := [1]) (by kernel_rfl) (by simp) ?_
    refine AllReadyH.cons (by simp only [List.getElem?_toArray, List.getElem?_cons_zero, List.getElem?_cons_succ]; rfl) (fun K hK => ?_) AllReadyH.nil
    go_simp
    go_at_call 17
    (with_reducible refine (Own_any C _).mono ?_)
    rintro e v118 ⟨rfl, U⟩
    replace X5 := X5.below U
    replace Y5 := Y5.below U
    replace R5 := R5.below U
    replace S5 := S5.below U
    replace Z4 := Z4.below U
    replace Z5 := Z5.below U
    replace T5 := ups T5 U T5.size
    clear U
    refine hK.out _ _ ⟨X5, Y5⟩ (fun hHeld => ?_)
    clear hK K
    try simp only [Act.put, List.setIfInBounds_toArray, List.set_cons_zero, List.set_cons_succ]
    refine wpAnyH_ready (rs := [3]) (by kernel_rfl) (by simp) ?_
    refine AllReadyH.cons (by simp only [List.getElem?_toArray, List.getElem?_cons_zero, List.getElem?_cons_succ]; rfl) (fun K hK => ?_) AllReadyH.nil
    go_simp
    go_at_call 17
    (with_reducible refine (Own_any D _).mono ?_)
    rintro e v119 ⟨rfl, U⟩
    replace X5 := X5.below U
    replace Y5 := Y5.below U
    replace R5 := R5.below U
    replace S5 := S5.below U
    replace Z4 := Z4.below U
    replace Z5 := Z5.below U
    replace T5 := ups T5 U T5.size
    clear U
    refine hK.out _ _ ⟨X5, Y5⟩ (fun hHeld => ?_)
    clear hK K
    try simp only [Act.put, List.setIfInBounds_toArray, List.set_cons_zero, List.set_cons_succ]
    refine wpAnyH_ready (rs := [6]) (by kernel_rfl) (by simp) ?_
    refine AllReadyH.cons (by simp only [List.getElem?_toArray, List.getElem?_cons_zero, List.getElem?_cons_succ]; rfl) (fun K hK => ?_) AllReadyH.nil
    rw [if_pos (by rfl)]
    refine ow_store 32 Z4 rfl rfl rfl size32 rfl (by omega : 0 + 24 ≤ 24) (cmV_one _) (spl24 _ _) ?_
    intro v120 Q6 B6
    replace X5 := B6.box X5 (by omega)
    replace Y5 := B6.box Y5 (by omega)
    replace R5 := B6.box R5 (by omega)
    replace S5 := B6.box S5 (by omega)
    replace Z5 := B6.box Z5 (by omega)
    replace Z4 := Q6
    replace T5 := B6.up T5 (by omega)
    clear B6
    refine hK.out _ _ ⟨X5, Y5⟩ (fun hHeld => ?_)
    clear hK K
    try simp only [Act.put, List.setIfInBounds_toArray, List.set_cons_zero, List.set_cons_succ]
    refine wpAnyH_ready (rs := [7]) (by kernel_rfl) (by simp) ?_
    refine AllReadyH.cons (by simp only [List.getElem?_toArray, List.getElem?_cons_zero, List.getElem?_cons_succ]; rfl) (fun K hK => ?_) AllReadyH.nil
    rw [if_pos (by rfl)]
    refine ow_store 32 Z5 rfl rfl rfl size32 rfl (by omega : 0 + 24 ≤ 24) (cmV_one _) (spl24 _ _) ?_
    intro v121 Q7 B7
    replace X5 := B7.box X5 (by omega)
    replace Y5 := B7.box Y5 (by omega)
    replace R5 := B7.box R5 (by omega)
    replace S5 := B7.box S5 (by omega)
    replace Z4 := B7.box Z4 (by omega)
    replace Z5 := Q7
    replace T5 := B7.up T5 (by omega)
    clear B7
    refine hK.out _ _ ⟨X5, Y5⟩ (fun hHeld => ?_)
    clear hK K
    try simp only [Act.put, List.setIfInBounds_toArray, List.set_cons_zero, List.set_cons_succ]
    refine wpAnyH_done (by kernel_rfl) ?_ _
    go_wp2_with fail
    go_meet
    exact ⟨_, _, rfl, rfl, Z4, Z5, R5, S5, T5⟩
  case rest =>
    rename World => w7
    obtain ⟨G, H, rfl, rfl, Z1, Z2, R7, S7, T7⟩ := hcut
    clear X5 Y5 R5 S5 T5
    have a1 := p1 w7 (hN.up T7)
    go_wp2_with (first
      | (go_at_call 9; (with_reducible refine a1.mono ?_); rintro e w8 ⟨rfl, U8⟩; have Z18 := Z1.below U8; have Z28 := Z2.below U8; have R8 := R7.below U8; have S8 := S7.below U8; have T8 := ups T7 U8 T7.size; have a2 := p2 w8 (hN.up T8))
      | (go_at_call 9; (with_reducible refine a2.mono ?_); rintro e w9 ⟨rfl, U9⟩; have Z19 := Z18.below U9; have Z29 := Z28.below U9; have R9 := R8.below U9; have S9 := S8.below U9; have T9 := ups T8 U9 T8.size; have a3 := p3 w9)
      | (go_at_call 11; (with_reducible refine a3.mono ?_); rintro e wa ⟨rfl, Ua⟩; have Z1a := Z19.below Ua; have Z2a := Z29.below Ua; have Ra := R9.below Ua; have Sa := S9.below Ua; have Ta := ups T9 Ua T9.size; have a4 := p4 wa)
      | (go_at_call 11; (with_reducible refine a4.mono ?_); rintro e wb ⟨rfl, Ub⟩; have Z1b := Z1a.below Ub; have Z2b := Z2a.below Ub; have Rb := Ra.below Ub; have Sb := Sa.below Ub; have Tb := ups Ta Ub Ta.size)
      | (with_reducible refine at_list ?_; first
        | (refine wl_loadf 32 Z1 rfl rfl rfl Tryd.underlying32 rfl size32 (by omega : 0 + 24 ≤ 24) (cmV_all _) ?_; (try simp only [Act.put, List.setIfInBounds_toArray, List.set_cons_zero, List.set_cons_succ]))
        | (refine wl_loadf 32 Z28 rfl rfl rfl Tryd.underlying32 rfl size32 (by omega : 0 + 24 ≤ 24) (cmV_all _) ?_; (try simp only [Act.put, List.setIfInBounds_toArray, List.set_cons_zero, List.set_cons_succ]))
        | (refine wl_loadf 37 R9 rfl rfl rfl Tryd.underlying37 rfl size37 (by omega : 0 + 10 ≤ 10) (rpV_all _) ?_; (try simp only [Act.put, List.setIfInBounds_toArray, List.set_cons_zero, List.set_cons_succ]))
        | (refine wl_loadf 37 Sa rfl rfl rfl Tryd.underlying37 rfl size37 (by omega : 0 + 10 ≤ 10) (rpV_all _) ?_; (try simp only [Act.put, List.setIfInBounds_toArray, List.set_cons_zero, List.set_cons_succ]))
        | (refine wl_run (xl_loadf 32 Z1b rfl rfl Tryd.underlying32 rfl size32 (by omega : 0 + 24 ≤ 24) (cmV_all _)) (wanted_f rfl rfl rfl rfl) ?_; (try simp only [Act.put, List.setIfInBounds_toArray, List.set_cons_zero, List.set_cons_succ]))
        | (refine wl_run (xl_loadf 32 Z2b rfl rfl Tryd.underlying32 rfl size32 (by omega : 0 + 24 ≤ 24) (cmV_all _)) (wanted_f rfl rfl rfl rfl) ?_; (try simp only [Act.put, List.setIfInBounds_toArray, List.set_cons_zero, List.set_cons_succ]))
        | (refine wl_run (xl_eqf32 hb0.out rfl rfl rfl) (wanted_f rfl rfl rfl rfl) ?_; (try simp only [Act.put, List.setIfInBounds_toArray, List.set_cons_zero, List.set_cons_succ]))
        | (refine wl_loadf 37 Rb rfl rfl rfl Tryd.underlying37 rfl size37 (by omega : 0 + 10 ≤ 10) (rpV_all _) ?_; (try simp only [Act.put, List.setIfInBounds_toArray, List.set_cons_zero, List.set_cons_succ]))
        | (refine wl_loadf 37 Sb rfl rfl rfl Tryd.underlying37 rfl size37 (by omega : 0 + 10 ≤ 10) (rpV_all _) ?_; (try simp only [Act.put, List.setIfInBounds_toArray, List.set_cons_zero, List.set_cons_succ]))
        | (refine wl_run (xl_eqf37 hb1.out rfl rfl rfl) rfl ?_; (try simp only [Act.put, List.setIfInBounds_toArray, List.set_cons_zero, List.set_cons_succ]))))
    go_ret
    exact ⟨by simp, Tb⟩
set_option maxHeartbeats 16000000 in
set_option maxRecDepth 100000 in
theorem apart_yes (C D : Cm) (r q : Rp) (w : World) (hN : Names w) (hC : (ownC C).ok) (hD : (ownC D).ok) (hr : r.ok) (hq : q.ok) (X1 X2 U V : ByteArray) (b0 b1 : Bool) (h1 : cmdV (ownC C) = .tuple #[.string X1, .int .i64 0]) (h2 : cmdV (ownC D) = .tuple #[.string X2, .int .i64 0])
    (hu : repV r = .tuple #[.string U, .int .i64 0]) (hv : repV q = .tuple #[.string V, .int .i64 0]) (hb0 : decide (ownC C = ownC D) = b0) (hb1 : decide (r = q) = b1) (hUV : (U.toList == V.toList) = b1) (hXX : (X1.toList == X2.toList) = b0) :
    Calls Tryd.prog 7 #[.agg (cmV C), .agg (cmV D), .agg (rpV r), .agg (rpV q)] w fun e w' => e = .returned (.bool true) ∧ Below w.heap.size w w' := by
  have aw := fun W hN => awake_any W hN
  have p1 := fun W hN => Command_any (ownC C) W hN hC
  have p2 := fun W hN => Command_any (ownC D) W hN hD
  have p3 := fun W => Reply_any r W hr
  have p4 := fun W => Reply_any q W hq
  rw [h1] at p1
  rw [h2] at p2
  rw [hu] at p3
  rw [hv] at p4
  clear h1 h2 hu hv
  replace hb0 := Lib.hid hb0
  replace hb1 := Lib.hid hb1
  go_enter Tryd.func7, Tryd.ntmps7
  go_upto_region 1 with (with_reducible refine at_list ?_; first
    | (refine wl_box 32 (x := .tmp 0) rfl rfl rfl ?_; intro w1 X1 T1; (try simp only [Act.put, List.setIfInBounds_toArray, List.set_cons_zero, List.set_cons_succ]))
    | (refine wl_box 32 (x := .tmp 1) rfl rfl rfl ?_; intro w2 Y2 U2; (try simp only [Act.put, List.setIfInBounds_toArray, List.set_cons_zero, List.set_cons_succ]); have X2 := X1.below U2; have T2 := ups T1 U2 T1.size)
    | (refine wl_box 37 (x := .tmp 2) rfl rfl rfl ?_; intro w3 R3 U3; (try simp only [Act.put, List.setIfInBounds_toArray, List.set_cons_zero, List.set_cons_succ]); have X3 := X2.below U3; have Y3 := Y2.below U3; have T3 := ups T2 U3 T2.size)
    | (refine wl_box 37 (x := .tmp 3) rfl rfl rfl ?_; intro w4 S4 U4; (try simp only [Act.put, List.setIfInBounds_toArray, List.set_cons_zero, List.set_cons_succ]); have X4 := X3.below U4; have Y4 := Y3.below U4; have R4 := R3.below U4; have T4 := ups T3 U4 T3.size; have a1 := aw w4 (hN.up T4)))
  clear X1 T1 Y2 U2 X2 T2 R3 U3 X3 Y3 T3 U4
  obtain ⟨x0, hx0⟩ : ∃ A, w.heap.size = A := ⟨_, rfl⟩
  obtain ⟨y0, hy0⟩ : ∃ A, w1.heap.size = A := ⟨_, rfl⟩
  obtain ⟨r0, hr0⟩ : ∃ A, w2.heap.size = A := ⟨_, rfl⟩
  obtain ⟨s0, hs0⟩ : ∃ A, w3.heap.size = A := ⟨_, rfl⟩
  rw [hx0] at X4 ⊢
  rw [hy0] at Y4 ⊢
  rw [hr0] at R4 ⊢
  rw [hs0] at S4 ⊢
  clear hy0 hr0 hs0 hx0
  go_upto_region 3 with (go_at_call 23; (with_reducible refine a1.mono ?_); rintro e w5 ⟨rfl, U5⟩)
  have X5 := X4.below U5
  have Y5 := Y4.below U5
  have R5 := R4.below U5
  have S5 := S4.below U5
  have T5 := ups T4 U5 T4.size
  clear a1 aw X4 Y4 R4 S4 U5 T4
  go_cut [9, 10] (fun s9 s10 wx => ∃ G H, s9 = .pointer (some ⟨G, 0, none⟩) ∧ s10 = .pointer (some ⟨H, 0, none⟩) ∧ Box wx G (cmV (ownC C)) 32 ∧ Box wx H (cmV (ownC D)) 32 ∧ Box wx r0 (rpV r) 37 ∧ Box wx s0 (rpV q) 37 ∧ Below w.heap.size w wx)
  case first =>
    clear p1 p2 p3 p4
    refine wp_region_held_drew (S := fun W => Box W x0 (cmV C) 32 ∧ Box W y0 (cmV D) 32) (by kernel_rfl) ⟨X5.drew, Y5.drew⟩ (fun hHeld => ?_)
    replace X5 := X5.drew
    replace Y5 := Y5.drew
    replace R5 := R5.drew
    replace S5 := S5.drew
    replace T5 := T5.drew
    generalize w5.drew = w6 at *
    refine wpAnyH_take (i := 0) (v := .agg (cmV C)) (by simp only [List.getElem?_toArray, List.getElem?_cons_zero]; rfl) (by kernel_rfl) (by kernel_rfl) (by kernel_rfl) (by exact fun _ _ _ h => h) (Or.inl ⟨by rfl, fun w hSw => xl_loadf 32 hSw.1 rfl rfl Tryd.underlying32 rfl size32 (by omega : 0 + 24 ≤ 24) (cmV_all _)⟩) (by assumption) ?_
    try simp only [Act.put, List.setIfInBounds_toArray, List.set_cons_zero, List.set_cons_succ]
    refine wpAnyH_take (i := 2) (v := .agg (cmV D)) (by simp only [List.getElem?_toArray, List.getElem?_cons_zero, List.getElem?_cons_succ]; rfl) (by kernel_rfl) (by kernel_rfl) (by kernel_rfl) (by exact fun _ _ _ h => h) (Or.inl ⟨by rfl, fun w hSw => xl_loadf 32 hSw.2 rfl rfl Tryd.underlying32 rfl size32 (by omega : 0 + 24 ≤ 24) (cmV_all _)⟩) (by assumption) ?_
    try simp only [Act.put, List.setIfInBounds_toArray, List.set_cons_zero, List.set_cons_succ]
    refine wpAnyH_ready (rs := [1, 4, 5]) (by kernel_rfl) (by simp) ?_
    refine AllReadyH.cons (by simp only [List.getElem?_toArray, List.getElem?_cons_zero, List.getElem?_cons_succ]; rfl) (fun K hK => ?_) ?_
    · go_simp
      go_at_call 17
      (with_reducible refine (Own_any C _).mono ?_)
      rintro e v122 ⟨rfl, U⟩
      replace X5 := X5.below U
      replace Y5 := Y5.below U
      replace R5 := R5.below U
      replace S5 := S5.below U
      replace T5 := ups T5 U T5.size
      clear U
      refine hK.out _ _ ⟨X5, Y5⟩ (fun hHeld => ?_)
      clear hK K
      try simp only [Act.put, List.setIfInBounds_toArray, List.set_cons_zero, List.set_cons_succ]
      refine wpAnyH_ready (rs := [3, 4, 5]) (by kernel_rfl) (by simp) ?_
      refine AllReadyH.cons (by simp only [List.getElem?_toArray, List.getElem?_cons_zero, List.getElem?_cons_succ]; rfl) (fun K hK => ?_) ?_
      · go_simp
        go_at_call 17
        (with_reducible refine (Own_any D _).mono ?_)
        rintro e v123 ⟨rfl, U⟩
        replace X5 := X5.below U
        replace Y5 := Y5.below U
        replace R5 := R5.below U
        replace S5 := S5.below U
        replace T5 := ups T5 U T5.size
        clear U
        refine hK.out _ _ ⟨X5, Y5⟩ (fun hHeld => ?_)
        clear hK K
        try simp only [Act.put, List.setIfInBounds_toArray, List.set_cons_zero, List.set_cons_succ]
        refine wpAnyH_ready (rs := [4, 5]) (by kernel_rfl) (by simp) ?_
        refine AllReadyH.cons (by simp only [List.getElem?_toArray, List.getElem?_cons_zero, List.getElem?_cons_succ]; rfl) (fun K hK => ?_) ?_
        · have mT4 := T5.size
          have mX54 := X5.lt
          have mY54 := Y5.lt
          have mR54 := R5.lt
          have mS54 := S5.lt
          rw [if_pos (by rfl)]
          refine ow_alloc 32 rfl zero32 ?_
          intro v124 Z4 U
          replace X5 := X5.below U
          replace Y5 := Y5.below U
          replace R5 := R5.below U
          replace S5 := S5.below U
          replace T5 := ups T5 U T5.size
          clear U
          refine hK.out _ _ ⟨X5, Y5⟩ (fun hHeld => ?_)
          clear hK K
          try simp only [Act.put, List.setIfInBounds_toArray, List.set_cons_zero, List.set_cons_succ]
          refine wpAnyH_ready (rs := [5]) (by kernel_rfl) (by simp) ?_
          refine AllReadyH.cons (by simp only [List.getElem?_toArray, List.getElem?_cons_zero, List.getElem?_cons_succ]; rfl) (fun K hK => ?_) AllReadyH.nil
          have mT5 := T5.size
          have mX55 := X5.lt
          have mY55 := Y5.lt
          have mR55 := R5.lt
          have mS55 := S5.lt
          have mZ45 := Z4.lt
          rw [if_pos (by rfl)]
          refine ow_alloc 32 rfl zero32 ?_
          intro v125 Z5 U
          replace X5 := X5.below U
          replace Y5 := Y5.below U
          replace R5 := R5.below U
          replace S5 := S5.below U
          replace Z4 := Z4.below U
          replace T5 := ups T5 U T5.size
          clear U
          refine hK.out _ _ ⟨X5, Y5⟩ (fun hHeld => ?_)
          clear hK K
          try simp only [Act.put, List.setIfInBounds_toArray, List.set_cons_zero, List.set_cons_succ]
          refine wpAnyH_ready (rs := [6]) (by kernel_rfl) (by simp) ?_
          refine AllReadyH.cons (by simp only [List.getElem?_toArray, List.getElem?_cons_zero, List.getElem?_cons_succ]; rfl) (fun K hK => ?_) AllReadyH.nil
          rw [if_pos (by rfl)]
          refine ow_store 32 Z4 rfl rfl rfl size32 rfl (by omega : 0 + 24 ≤ 24) (cmV_one _) (spl24 _ _) ?_
          intro v126 Q6 B6
          replace X5 := B6.box X5 (by omega)
          replace Y5 := B6.box Y5 (by omega)
          replace R5 := B6.box R5 (by omega)
          replace S5 := B6.box S5 (by omega)
          replace Z5 := B6.box Z5 (by omega)
          replace Z4 := Q6
          replace T5 := B6.up T5 (by omega)
          clear B6
          refine hK.out _ _ ⟨X5, Y5⟩ (fun hHeld => ?_)
          clear hK K
          try simp only [Act.put, List.setIfInBounds_toArray, List.set_cons_zero, List.set_cons_succ]
          refine wpAnyH_ready (rs := [7]) (by kernel_rfl) (by simp) ?_
          refine AllReadyH.cons (by simp only [List.getElem?_toArray, List.getElem?_cons_zero, List.getElem?_cons_succ]; rfl) (fun K hK => ?_) AllReadyH.nil
          rw [if_pos (by rfl)]
          refine ow_store 32 Z5 rfl rfl rfl size32 rfl (by omega : 0 + 24 ≤ 24) (cmV_one _) (spl24 _ _) ?_
          intro v127 Q7 B7
          replace X5 := B7.box X5 (by omega)
          replace Y5 := B7.box Y5 (by omega)
          replace R5 := B7.box R5 (by omega)
          replace S5 := B7.box S5 (by omega)
          replace Z4 := B7.box Z4 (by omega)
          replace Z5 := Q7
          replace T5 := B7.up T5 (by omega)
          clear B7
          refine hK.out _ _ ⟨X5, Y5⟩ (fun hHeld => ?_)
          clear hK K
          try simp only [Act.put, List.setIfInBounds_toArray, List.set_cons_zero, List.set_cons_succ]
          refine wpAnyH_done (by kernel_rfl) ?_ _
          go_wp2_with fail
          go_meet
          exact ⟨_, _, rfl, rfl, Z4, Z5, R5, S5, T5⟩
        refine AllReadyH.cons (by simp only [List.getElem?_toArray, List.getElem?_cons_zero, List.getElem?_cons_succ]; rfl) (fun K hK => ?_) AllReadyH.nil
        have mT5 := T5.size
        have mX55 := X5.lt
        have mY55 := Y5.lt
        have mR55 := R5.lt
        have mS55 := S5.lt
        rw [if_pos (by rfl)]
        refine ow_alloc 32 rfl zero32 ?_
        intro v128 Z5 U
        replace X5 := X5.below U
        replace Y5 := Y5.below U
        replace R5 := R5.below U
        replace S5 := S5.below U
        replace T5 := ups T5 U T5.size
        clear U
        refine hK.out _ _ ⟨X5, Y5⟩ (fun hHeld => ?_)
        clear hK K
        try simp only [Act.put, List.setIfInBounds_toArray, List.set_cons_zero, List.set_cons_succ]
        refine wpAnyH_ready (rs := [4]) (by kernel_rfl) (by simp) ?_
        refine AllReadyH.cons (by simp only [List.getElem?_toArray, List.getElem?_cons_zero, List.getElem?_cons_succ]; rfl) (fun K hK => ?_) AllReadyH.nil
        have mT4 := T5.size
        have mX54 := X5.lt
        have mY54 := Y5.lt
        have mR54 := R5.lt
        have mS54 := S5.lt
        have mZ54 := Z5.lt
        rw [if_pos (by rfl)]
        refine ow_alloc 32 rfl zero32 ?_
        intro v129 Z4 U
        replace X5 := X5.below U
        replace Y5 := Y5.below U
        replace R5 := R5.below U
        replace S5 := S5.below U
        replace Z5 := Z5.below U
        replace T5 := ups T5 U T5.size
        clear U
        refine hK.out _ _ ⟨X5, Y5⟩ (fun hHeld => ?_)
        clear hK K
        try simp only [Act.put, List.setIfInBounds_toArray, List.set_cons_zero, List.set_cons_succ]
        refine wpAnyH_ready (rs := [6]) (by kernel_rfl) (by simp) ?_
        refine AllReadyH.cons (by simp only [List.getElem?_toArray, List.getElem?_cons_zero, List.getElem?_cons_succ]; rfl) (fun K hK => ?_) AllReadyH.nil
        rw [if_pos (by rfl)]
        refine ow_store 32 Z4 rfl rfl rfl size32 rfl (by omega : 0 + 24 ≤ 24) (cmV_one _) (spl24 _ _) ?_
        intro v130 Q6 B6
        replace X5 := B6.box X5 (by omega)
        replace Y5 := B6.box Y5 (by omega)
        replace R5 := B6.box R5 (by omega)
        replace S5 := B6.box S5 (by omega)
        replace Z5 := B6.box Z5 (by omega)
        replace Z4 := Q6
        replace T5 := B6.up T5 (by omega)
        clear B6
        refine hK.out _ _ ⟨X5, Y5⟩ (fun hHeld => ?_)
        clear hK K
        try simp only [Act.put, List.setIfInBounds_toArray, List.set_cons_zero, List.set_cons_succ]
        refine wpAnyH_ready (rs := [7]) (by kernel_rfl) (by simp) ?_
        refine AllReadyH.cons (by simp only [List.getElem?_toArray, List.getElem?_cons_zero, List.getElem?_cons_succ]; rfl) (fun K hK => ?_) AllReadyH.nil
        rw [if_pos (by rfl)]
        refine ow_store 32 Z5 rfl rfl rfl size32 rfl (by omega : 0 + 24 ≤ 24) (cmV_one _) (spl24 _ _) ?_
        intro v131 Q7 B7
        replace X5 := B7.box X5 (by omega)
        replace Y5 := B7.box Y5 (by omega)
        replace R5 := B7.box R5 (by omega)
        replace S5 := B7.box S5 (by omega)
        replace Z4 := B7.box Z4 (by omega)
        replace Z5 := Q7
        replace T5 := B7.up T5 (by omega)
        clear B7
        refine hK.out _ _ ⟨X5, Y5⟩ (fun hHeld => ?_)
        clear hK K
        try simp only [Act.put, List.setIfInBounds_toArray, List.set_cons_zero, List.set_cons_succ]
        refine wpAnyH_done (by kernel_rfl) ?_ _
        go_wp2_with fail
        go_meet
        exact ⟨_, _, rfl, rfl, Z4, Z5, R5, S5, T5⟩
      refine AllReadyH.cons (by simp only [List.getElem?_toArray, List.getElem?_cons_zero, List.getElem?_cons_succ]; rfl) (fun K hK => ?_) ?_
      · have mT4 := T5.size
        have mX54 := X5.lt
        have mY54 := Y5.lt
        have mR54 := R5.lt
        have mS54 := S5.lt
        rw [if_pos (by rfl)]
        refine ow_alloc 32 rfl zero32 ?_
        intro v132 Z4 U
        replace X5 := X5.below U
        replace Y5 := Y5.below U
        replace R5 := R5.below U
        replace S5 := S5.below U
        replace T5 := ups T5 U T5.size
        clear U
        refine hK.out _ _ ⟨X5, Y5⟩ (fun hHeld => ?_)
        clear hK K
        try simp only [Act.put, List.setIfInBounds_toArray, List.set_cons_zero, List.set_cons_succ]
        refine wpAnyH_ready (rs := [3, 5]) (by kernel_rfl) (by simp) ?_
        refine AllReadyH.cons (by simp only [List.getElem?_toArray, List.getElem?_cons_zero, List.getElem?_cons_succ]; rfl) (fun K hK => ?_) ?_
        · go_simp
          go_at_call 17
          (with_reducible refine (Own_any D _).mono ?_)
          rintro e v133 ⟨rfl, U⟩
          replace X5 := X5.below U
          replace Y5 := Y5.below U
          replace R5 := R5.below U
          replace S5 := S5.below U
          replace Z4 := Z4.below U
          replace T5 := ups T5 U T5.size
          clear U
          refine hK.out _ _ ⟨X5, Y5⟩ (fun hHeld => ?_)
          clear hK K
          try simp only [Act.put, List.setIfInBounds_toArray, List.set_cons_zero, List.set_cons_succ]
          refine wpAnyH_ready (rs := [5]) (by kernel_rfl) (by simp) ?_
          refine AllReadyH.cons (by simp only [List.getElem?_toArray, List.getElem?_cons_zero, List.getElem?_cons_succ]; rfl) (fun K hK => ?_) AllReadyH.nil
          have mT5 := T5.size
          have mX55 := X5.lt
          have mY55 := Y5.lt
          have mR55 := R5.lt
          have mS55 := S5.lt
          have mZ45 := Z4.lt
          rw [if_pos (by rfl)]
          refine ow_alloc 32 rfl zero32 ?_
          intro v134 Z5 U
          replace X5 := X5.below U
          replace Y5 := Y5.below U
          replace R5 := R5.below U
          replace S5 := S5.below U
          replace Z4 := Z4.below U
          replace T5 := ups T5 U T5.size
          clear U
          refine hK.out _ _ ⟨X5, Y5⟩ (fun hHeld => ?_)
          clear hK K
          try simp only [Act.put, List.setIfInBounds_toArray, List.set_cons_zero, List.set_cons_succ]
          refine wpAnyH_ready (rs := [6]) (by kernel_rfl) (by simp) ?_
          refine AllReadyH.cons (by simp only [List.getElem?_toArray, List.getElem?_cons_zero, List.getElem?_cons_succ]; rfl) (fun K hK => ?_) AllReadyH.nil
          rw [if_pos (by rfl)]
          refine ow_store 32 Z4 rfl rfl rfl size32 rfl (by omega : 0 + 24 ≤ 24) (cmV_one _) (spl24 _ _) ?_
          intro v135 Q6 B6
          replace X5 := B6.box X5 (by omega)
          replace Y5 := B6.box Y5 (by omega)
          replace R5 := B6.box R5 (by omega)
          replace S5 := B6.box S5 (by omega)
          replace Z5 := B6.box Z5 (by omega)
          replace Z4 := Q6
          replace T5 := B6.up T5 (by omega)
          clear B6
          refine hK.out _ _ ⟨X5, Y5⟩ (fun hHeld => ?_)
          clear hK K
          try simp only [Act.put, List.setIfInBounds_toArray, List.set_cons_zero, List.set_cons_succ]
          refine wpAnyH_ready (rs := [7]) (by kernel_rfl) (by simp) ?_
          refine AllReadyH.cons (by simp only [List.getElem?_toArray, List.getElem?_cons_zero, List.getElem?_cons_succ]; rfl) (fun K hK => ?_) AllReadyH.nil
          rw [if_pos (by rfl)]
          refine ow_store 32 Z5 rfl rfl rfl size32 rfl (by omega : 0 + 24 ≤ 24) (cmV_one _) (spl24 _ _) ?_
          intro v136 Q7 B7
          replace X5 := B7.box X5 (by omega)
          replace Y5 := B7.box Y5 (by omega)
          replace R5 := B7.box R5 (by omega)
          replace S5 := B7.box S5 (by omega)
          replace Z4 := B7.box Z4 (by omega)
          replace Z5 := Q7
          replace T5 := B7.up T5 (by omega)
          clear B7
          refine hK.out _ _ ⟨X5, Y5⟩ (fun hHeld => ?_)
          clear hK K
          try simp only [Act.put, List.setIfInBounds_toArray, List.set_cons_zero, List.set_cons_succ]
          refine wpAnyH_done (by kernel_rfl) ?_ _
          go_wp2_with fail
          go_meet
          exact ⟨_, _, rfl, rfl, Z4, Z5, R5, S5, T5⟩
        refine AllReadyH.cons (by simp only [List.getElem?_toArray, List.getElem?_cons_zero, List.getElem?_cons_succ]; rfl) (fun K hK => ?_) AllReadyH.nil
        have mT5 := T5.size
        have mX55 := X5.lt
        have mY55 := Y5.lt
        have mR55 := R5.lt
        have mS55 := S5.lt
        have mZ45 := Z4.lt
        rw [if_pos (by rfl)]
        refine ow_alloc 32 rfl zero32 ?_
        intro v137 Z5 U
        replace X5 := X5.below U
        replace Y5 := Y5.below U
        replace R5 := R5.below U
        replace S5 := S5.below U
        replace Z4 := Z4.below U
        replace T5 := ups T5 U T5.size
        clear U
        refine hK.out _ _ ⟨X5, Y5⟩ (fun hHeld => ?_)
        clear hK K
        try simp only [Act.put, List.setIfInBounds_toArray, List.set_cons_zero, List.set_cons_succ]
        refine wpAnyH_ready (rs := [3]) (by kernel_rfl) (by simp) ?_
        refine AllReadyH.cons (by simp only [List.getElem?_toArray, List.getElem?_cons_zero, List.getElem?_cons_succ]; rfl) (fun K hK => ?_) AllReadyH.nil
        go_simp
        go_at_call 17
        (with_reducible refine (Own_any D _).mono ?_)
        rintro e v138 ⟨rfl, U⟩
        replace X5 := X5.below U
        replace Y5 := Y5.below U
        replace R5 := R5.below U
        replace S5 := S5.below U
        replace Z4 := Z4.below U
        replace Z5 := Z5.below U
        replace T5 := ups T5 U T5.size
        clear U
        refine hK.out _ _ ⟨X5, Y5⟩ (fun hHeld => ?_)
        clear hK K
        try simp only [Act.put, List.setIfInBounds_toArray, List.set_cons_zero, List.set_cons_succ]
        refine wpAnyH_ready (rs := [6]) (by kernel_rfl) (by simp) ?_
        refine AllReadyH.cons (by simp only [List.getElem?_toArray, List.getElem?_cons_zero, List.getElem?_cons_succ]; rfl) (fun K hK => ?_) AllReadyH.nil
        rw [if_pos (by rfl)]
        refine ow_store 32 Z4 rfl rfl rfl size32 rfl (by omega : 0 + 24 ≤ 24) (cmV_one _) (spl24 _ _) ?_
        intro v139 Q6 B6
        replace X5 := B6.box X5 (by omega)
        replace Y5 := B6.box Y5 (by omega)
        replace R5 := B6.box R5 (by omega)
        replace S5 := B6.box S5 (by omega)
        replace Z5 := B6.box Z5 (by omega)
        replace Z4 := Q6
        replace T5 := B6.up T5 (by omega)
        clear B6
        refine hK.out _ _ ⟨X5, Y5⟩ (fun hHeld => ?_)
        clear hK K
        try simp only [Act.put, List.setIfInBounds_toArray, List.set_cons_zero, List.set_cons_succ]
        refine wpAnyH_ready (rs := [7]) (by kernel_rfl) (by simp) ?_
        refine AllReadyH.cons (by simp only [List.getElem?_toArray, List.getElem?_cons_zero, List.getElem?_cons_succ]; rfl) (fun K hK => ?_) AllReadyH.nil
        rw [if_pos (by rfl)]
        refine ow_store 32 Z5 rfl rfl rfl size32 rfl (by omega : 0 + 24 ≤ 24) (cmV_one _) (spl24 _ _) ?_
        intro v140 Q7 B7
        replace X5 := B7.box X5 (by omega)
        replace Y5 := B7.box Y5 (by omega)
        replace R5 := B7.box R5 (by omega)
        replace S5 := B7.box S5 (by omega)
        replace Z4 := B7.box Z4 (by omega)
        replace Z5 := Q7
        replace T5 := B7.up T5 (by omega)
        clear B7
        refine hK.out _ _ ⟨X5, Y5⟩ (fun hHeld => ?_)
        clear hK K
        try simp only [Act.put, List.setIfInBounds_toArray, List.set_cons_zero, List.set_cons_succ]
        refine wpAnyH_done (by kernel_rfl) ?_ _
        go_wp2_with fail
        go_meet
        exact ⟨_, _, rfl, rfl, Z4, Z5, R5, S5, T5⟩
      refine AllReadyH.cons (by simp only [List.getElem?_toArray, List.getElem?_cons_zero, List.getElem?_cons_succ]; rfl) (fun K hK => ?_) AllReadyH.nil
      have mT5 := T5.size
      have mX55 := X5.lt
      have mY55 := Y5.lt
      have mR55 := R5.lt
      have mS55 := S5.lt
      rw [if_pos (by rfl)]
      refine ow_alloc 32 rfl zero32 ?_
      intro v141 Z5 U
      replace X5 := X5.below U
      replace Y5 := Y5.below U
      replace R5 := R5.below U
      replace S5 := S5.below U
      replace T5 := ups T5 U T5.size
      clear U
      refine hK.out _ _ ⟨X5, Y5⟩ (fun hHeld => ?_)
      clear hK K
      try simp only [Act.put, List.setIfInBounds_toArray, List.set_cons_zero, List.set_cons_succ]
      refine wpAnyH_ready (rs := [3, 4]) (by kernel_rfl) (by simp) ?_
      refine AllReadyH.cons (by simp only [List.getElem?_toArray, List.getElem?_cons_zero, List.getElem?_cons_succ]; rfl) (fun K hK => ?_) ?_
      · go_simp
        go_at_call 17
        (with_reducible refine (Own_any D _).mono ?_)
        rintro e v142 ⟨rfl, U⟩
        replace X5 := X5.below U
        replace Y5 := Y5.below U
        replace R5 := R5.below U
        replace S5 := S5.below U
        replace Z5 := Z5.below U
        replace T5 := ups T5 U T5.size
        clear U
        refine hK.out _ _ ⟨X5, Y5⟩ (fun hHeld => ?_)
        clear hK K
        try simp only [Act.put, List.setIfInBounds_toArray, List.set_cons_zero, List.set_cons_succ]
        refine wpAnyH_ready (rs := [4]) (by kernel_rfl) (by simp) ?_
        refine AllReadyH.cons (by simp only [List.getElem?_toArray, List.getElem?_cons_zero, List.getElem?_cons_succ]; rfl) (fun K hK => ?_) AllReadyH.nil
        have mT4 := T5.size
        have mX54 := X5.lt
        have mY54 := Y5.lt
        have mR54 := R5.lt
        have mS54 := S5.lt
        have mZ54 := Z5.lt
        rw [if_pos (by rfl)]
        refine ow_alloc 32 rfl zero32 ?_
        intro v143 Z4 U
        replace X5 := X5.below U
        replace Y5 := Y5.below U
        replace R5 := R5.below U
        replace S5 := S5.below U
        replace Z5 := Z5.below U
        replace T5 := ups T5 U T5.size
        clear U
        refine hK.out _ _ ⟨X5, Y5⟩ (fun hHeld => ?_)
        clear hK K
        try simp only [Act.put, List.setIfInBounds_toArray, List.set_cons_zero, List.set_cons_succ]
        refine wpAnyH_ready (rs := [6]) (by kernel_rfl) (by simp) ?_
        refine AllReadyH.cons (by simp only [List.getElem?_toArray, List.getElem?_cons_zero, List.getElem?_cons_succ]; rfl) (fun K hK => ?_) AllReadyH.nil
        rw [if_pos (by rfl)]
        refine ow_store 32 Z4 rfl rfl rfl size32 rfl (by omega : 0 + 24 ≤ 24) (cmV_one _) (spl24 _ _) ?_
        intro v144 Q6 B6
        replace X5 := B6.box X5 (by omega)
        replace Y5 := B6.box Y5 (by omega)
        replace R5 := B6.box R5 (by omega)
        replace S5 := B6.box S5 (by omega)
        replace Z5 := B6.box Z5 (by omega)
        replace Z4 := Q6
        replace T5 := B6.up T5 (by omega)
        clear B6
        refine hK.out _ _ ⟨X5, Y5⟩ (fun hHeld => ?_)
        clear hK K
        try simp only [Act.put, List.setIfInBounds_toArray, List.set_cons_zero, List.set_cons_succ]
        refine wpAnyH_ready (rs := [7]) (by kernel_rfl) (by simp) ?_
        refine AllReadyH.cons (by simp only [List.getElem?_toArray, List.getElem?_cons_zero, List.getElem?_cons_succ]; rfl) (fun K hK => ?_) AllReadyH.nil
        rw [if_pos (by rfl)]
        refine ow_store 32 Z5 rfl rfl rfl size32 rfl (by omega : 0 + 24 ≤ 24) (cmV_one _) (spl24 _ _) ?_
        intro v145 Q7 B7
        replace X5 := B7.box X5 (by omega)
        replace Y5 := B7.box Y5 (by omega)
        replace R5 := B7.box R5 (by omega)
        replace S5 := B7.box S5 (by omega)
        replace Z4 := B7.box Z4 (by omega)
        replace Z5 := Q7
        replace T5 := B7.up T5 (by omega)
        clear B7
        refine hK.out _ _ ⟨X5, Y5⟩ (fun hHeld => ?_)
        clear hK K
        try simp only [Act.put, List.setIfInBounds_toArray, List.set_cons_zero, List.set_cons_succ]
        refine wpAnyH_done (by kernel_rfl) ?_ _
        go_wp2_with fail
        go_meet
        exact ⟨_, _, rfl, rfl, Z4, Z5, R5, S5, T5⟩
      refine AllReadyH.cons (by simp only [List.getElem?_toArray, List.getElem?_cons_zero, List.getElem?_cons_succ]; rfl) (fun K hK => ?_) AllReadyH.nil
      have mT4 := T5.size
      have mX54 := X5.lt
      have mY54 := Y5.lt
      have mR54 := R5.lt
      have mS54 := S5.lt
      have mZ54 := Z5.lt
      rw [if_pos (by rfl)]
      refine ow_alloc 32 rfl zero32 ?_
      intro v146 Z4 U
      replace X5 := X5.below U
      replace Y5 := Y5.below U
      replace R5 := R5.below U
      replace S5 := S5.below U
      replace Z5 := Z5.below U
      replace T5 := ups T5 U T5.size
      clear U
      refine hK.out _ _ ⟨X5, Y5⟩ (fun hHeld => ?_)
      clear hK K
      try simp only [Act.put, List.setIfInBounds_toArray, List.set_cons_zero, List.set_cons_succ]
      refine wpAnyH_ready (rs := [3]) (by kernel_rfl) (by simp) ?_
      refine AllReadyH.cons (by simp only [List.getElem?_toArray, List.getElem?_cons_zero, List.getElem?_cons_succ]; rfl) (fun K hK => ?_) AllReadyH.nil
      go_simp
      go_at_call 17
      (with_reducible refine (Own_any D _).mono ?_)
      rintro e v147 ⟨rfl, U⟩
      replace X5 := X5.below U
      replace Y5 := Y5.below U
      replace R5 := R5.below U
      replace S5 := S5.below U
      replace Z4 := Z4.below U
      replace Z5 := Z5.below U
      replace T5 := ups T5 U T5.size
      clear U
      refine hK.out _ _ ⟨X5, Y5⟩ (fun hHeld => ?_)
      clear hK K
      try simp only [Act.put, List.setIfInBounds_toArray, List.set_cons_zero, List.set_cons_succ]
      refine wpAnyH_ready (rs := [6]) (by kernel_rfl) (by simp) ?_
      refine AllReadyH.cons (by simp only [List.getElem?_toArray, List.getElem?_cons_zero, List.getElem?_cons_succ]; rfl) (fun K hK => ?_) AllReadyH.nil
      rw [if_pos (by rfl)]
      refine ow_store 32 Z4 rfl rfl rfl size32 rfl (by omega : 0 + 24 ≤ 24) (cmV_one _) (spl24 _ _) ?_
      intro v148 Q6 B6
      replace X5 := B6.box X5 (by omega)
      replace Y5 := B6.box Y5 (by omega)
      replace R5 := B6.box R5 (by omega)
      replace S5 := B6.box S5 (by omega)
      replace Z5 := B6.box Z5 (by omega)
      replace Z4 := Q6
      replace T5 := B6.up T5 (by omega)
      clear B6
      refine hK.out _ _ ⟨X5, Y5⟩ (fun hHeld => ?_)
      clear hK K
      try simp only [Act.put, List.setIfInBounds_toArray, List.set_cons_zero, List.set_cons_succ]
      refine wpAnyH_ready (rs := [7]) (by kernel_rfl) (by simp) ?_
      refine AllReadyH.cons (by simp only [List.getElem?_toArray, List.getElem?_cons_zero, List.getElem?_cons_succ]; rfl) (fun K hK => ?_) AllReadyH.nil
      rw [if_pos (by rfl)]
      refine ow_store 32 Z5 rfl rfl rfl size32 rfl (by omega : 0 + 24 ≤ 24) (cmV_one _) (spl24 _ _) ?_
      intro v149 Q7 B7
      replace X5 := B7.box X5 (by omega)
      replace Y5 := B7.box Y5 (by omega)
      replace R5 := B7.box R5 (by omega)
      replace S5 := B7.box S5 (by omega)
      replace Z4 := B7.box Z4 (by omega)
      replace Z5 := Q7
      replace T5 := B7.up T5 (by omega)
      clear B7
      refine hK.out _ _ ⟨X5, Y5⟩ (fun hHeld => ?_)
      clear hK K
      try simp only [Act.put, List.setIfInBounds_toArray, List.set_cons_zero, List.set_cons_succ]
      refine wpAnyH_done (by kernel_rfl) ?_ _
      go_wp2_with fail
      go_meet
      exact ⟨_, _, rfl, rfl, Z4, Z5, R5, S5, T5⟩
    refine AllReadyH.cons (by simp only [List.getElem?_toArray, List.getElem?_cons_zero, List.getElem?_cons_succ]; rfl) (fun K hK => ?_) ?_
    · have mT4 := T5.size
      have mX54 := X5.lt
      have mY54 := Y5.lt
      have mR54 := R5.lt
      have mS54 := S5.lt
      rw [if_pos (by rfl)]
      refine ow_alloc 32 rfl zero32 ?_
      intro v150 Z4 U
      replace X5 := X5.below U
      replace Y5 := Y5.below U
      replace R5 := R5.below U
      replace S5 := S5.below U
      replace T5 := ups T5 U T5.size
      clear U
      refine hK.out _ _ ⟨X5, Y5⟩ (fun hHeld => ?_)
      clear hK K
      try simp only [Act.put, List.setIfInBounds_toArray, List.set_cons_zero, List.set_cons_succ]
      refine wpAnyH_ready (rs := [1, 5]) (by kernel_rfl) (by simp) ?_
      refine AllReadyH.cons (by simp only [List.getElem?_toArray, List.getElem?_cons_zero, List.getElem?_cons_succ]; rfl) (fun K hK => ?_) ?_
      · go_simp
        go_at_call 17
        (with_reducible refine (Own_any C _).mono ?_)
        rintro e v151 ⟨rfl, U⟩
        replace X5 := X5.below U
        replace Y5 := Y5.below U
        replace R5 := R5.below U
        replace S5 := S5.below U
        replace Z4 := Z4.below U
        replace T5 := ups T5 U T5.size
        clear U
        refine hK.out _ _ ⟨X5, Y5⟩ (fun hHeld => ?_)
        clear hK K
        try simp only [Act.put, List.setIfInBounds_toArray, List.set_cons_zero, List.set_cons_succ]
        refine wpAnyH_ready (rs := [3, 5]) (by kernel_rfl) (by simp) ?_
        refine AllReadyH.cons (by simp only [List.getElem?_toArray, List.getElem?_cons_zero, List.getElem?_cons_succ]; rfl) (fun K hK => ?_) ?_
        · go_simp
          go_at_call 17
          (with_reducible refine (Own_any D _).mono ?_)
          rintro e v152 ⟨rfl, U⟩
          replace X5 := X5.below U
          replace Y5 := Y5.below U
          replace R5 := R5.below U
          replace S5 := S5.below U
          replace Z4 := Z4.below U
          replace T5 := ups T5 U T5.size
          clear U
          refine hK.out _ _ ⟨X5, Y5⟩ (fun hHeld => ?_)
          clear hK K
          try simp only [Act.put, List.setIfInBounds_toArray, List.set_cons_zero, List.set_cons_succ]
          refine wpAnyH_ready (rs := [5]) (by kernel_rfl) (by simp) ?_
          refine AllReadyH.cons (by simp only [List.getElem?_toArray, List.getElem?_cons_zero, List.getElem?_cons_succ]; rfl) (fun K hK => ?_) AllReadyH.nil
          have mT5 := T5.size
          have mX55 := X5.lt
          have mY55 := Y5.lt
          have mR55 := R5.lt
          have mS55 := S5.lt
          have mZ45 := Z4.lt
          rw [if_pos (by rfl)]
          refine ow_alloc 32 rfl zero32 ?_
          intro v153 Z5 U
          replace X5 := X5.below U
          replace Y5 := Y5.below U
          replace R5 := R5.below U
          replace S5 := S5.below U
          replace Z4 := Z4.below U
          replace T5 := ups T5 U T5.size
          clear U
          refine hK.out _ _ ⟨X5, Y5⟩ (fun hHeld => ?_)
          clear hK K
          try simp only [Act.put, List.setIfInBounds_toArray, List.set_cons_zero, List.set_cons_succ]
          refine wpAnyH_ready (rs := [6]) (by kernel_rfl) (by simp) ?_
          refine AllReadyH.cons (by simp only [List.getElem?_toArray, List.getElem?_cons_zero, List.getElem?_cons_succ]; rfl) (fun K hK => ?_) AllReadyH.nil
          rw [if_pos (by rfl)]
          refine ow_store 32 Z4 rfl rfl rfl size32 rfl (by omega : 0 + 24 ≤ 24) (cmV_one _) (spl24 _ _) ?_
          intro v154 Q6 B6
          replace X5 := B6.box X5 (by omega)
          replace Y5 := B6.box Y5 (by omega)
          replace R5 := B6.box R5 (by omega)
          replace S5 := B6.box S5 (by omega)
          replace Z5 := B6.box Z5 (by omega)
          replace Z4 := Q6
          replace T5 := B6.up T5 (by omega)
          clear B6
          refine hK.out _ _ ⟨X5, Y5⟩ (fun hHeld => ?_)
          clear hK K
          try simp only [Act.put, List.setIfInBounds_toArray, List.set_cons_zero, List.set_cons_succ]
          refine wpAnyH_ready (rs := [7]) (by kernel_rfl) (by simp) ?_
          refine AllReadyH.cons (by simp only [List.getElem?_toArray, List.getElem?_cons_zero, List.getElem?_cons_succ]; rfl) (fun K hK => ?_) AllReadyH.nil
          rw [if_pos (by rfl)]
          refine ow_store 32 Z5 rfl rfl rfl size32 rfl (by omega : 0 + 24 ≤ 24) (cmV_one _) (spl24 _ _) ?_
          intro v155 Q7 B7
          replace X5 := B7.box X5 (by omega)
          replace Y5 := B7.box Y5 (by omega)
          replace R5 := B7.box R5 (by omega)
          replace S5 := B7.box S5 (by omega)
          replace Z4 := B7.box Z4 (by omega)
          replace Z5 := Q7
          replace T5 := B7.up T5 (by omega)
          clear B7
          refine hK.out _ _ ⟨X5, Y5⟩ (fun hHeld => ?_)
          clear hK K
          try simp only [Act.put, List.setIfInBounds_toArray, List.set_cons_zero, List.set_cons_succ]
          refine wpAnyH_done (by kernel_rfl) ?_ _
          go_wp2_with fail
          go_meet
          exact ⟨_, _, rfl, rfl, Z4, Z5, R5, S5, T5⟩
        refine AllReadyH.cons (by simp only [List.getElem?_toArray, List.getElem?_cons_zero, List.getElem?_cons_succ]; rfl) (fun K hK => ?_) AllReadyH.nil
        have mT5 := T5.size
        have mX55 := X5.lt
        have mY55 := Y5.lt
        have mR55 := R5.lt
        have mS55 := S5.lt
        have mZ45 := Z4.lt
        rw [if_pos (by rfl)]
        refine ow_alloc 32 rfl zero32 ?_
        intro v156 Z5 U
        replace X5 := X5.below U
        replace Y5 := Y5.below U
        replace R5 := R5.below U
        replace S5 := S5.below U
        replace Z4 := Z4.below U
        replace T5 := ups T5 U T5.size
        clear U
        refine hK.out _ _ ⟨X5, Y5⟩ (fun hHeld => ?_)
        clear hK K
        try simp only [Act.put, List.setIfInBounds_toArray, List.set_cons_zero, List.set_cons_succ]
        refine wpAnyH_ready (rs := [3]) (by kernel_rfl) (by simp) ?_
        refine AllReadyH.cons (by simp only [List.getElem?_toArray, List.getElem?_cons_zero, List.getElem?_cons_succ]; rfl) (fun K hK => ?_) AllReadyH.nil
        go_simp
        go_at_call 17
        (with_reducible refine (Own_any D _).mono ?_)
        rintro e v157 ⟨rfl, U⟩
        replace X5 := X5.below U
        replace Y5 := Y5.below U
        replace R5 := R5.below U
        replace S5 := S5.below U
        replace Z4 := Z4.below U
        replace Z5 := Z5.below U
        replace T5 := ups T5 U T5.size
        clear U
        refine hK.out _ _ ⟨X5, Y5⟩ (fun hHeld => ?_)
        clear hK K
        try simp only [Act.put, List.setIfInBounds_toArray, List.set_cons_zero, List.set_cons_succ]
        refine wpAnyH_ready (rs := [6]) (by kernel_rfl) (by simp) ?_
        refine AllReadyH.cons (by simp only [List.getElem?_toArray, List.getElem?_cons_zero, List.getElem?_cons_succ]; rfl) (fun K hK => ?_) AllReadyH.nil
        rw [if_pos (by rfl)]
        refine ow_store 32 Z4 rfl rfl rfl size32 rfl (by omega : 0 + 24 ≤ 24) (cmV_one _) (spl24 _ _) ?_
        intro v158 Q6 B6
        replace X5 := B6.box X5 (by omega)
        replace Y5 := B6.box Y5 (by omega)
        replace R5 := B6.box R5 (by omega)
        replace S5 := B6.box S5 (by omega)
        replace Z5 := B6.box Z5 (by omega)
        replace Z4 := Q6
        replace T5 := B6.up T5 (by omega)
        clear B6
        refine hK.out _ _ ⟨X5, Y5⟩ (fun hHeld => ?_)
        clear hK K
        try simp only [Act.put, List.setIfInBounds_toArray, List.set_cons_zero, List.set_cons_succ]
        refine wpAnyH_ready (rs := [7]) (by kernel_rfl) (by simp) ?_
        refine AllReadyH.cons (by simp only [List.getElem?_toArray, List.getElem?_cons_zero, List.getElem?_cons_succ]; rfl) (fun K hK => ?_) AllReadyH.nil
        rw [if_pos (by rfl)]
        refine ow_store 32 Z5 rfl rfl rfl size32 rfl (by omega : 0 + 24 ≤ 24) (cmV_one _) (spl24 _ _) ?_
        intro v159 Q7 B7
        replace X5 := B7.box X5 (by omega)
        replace Y5 := B7.box Y5 (by omega)
        replace R5 := B7.box R5 (by omega)
        replace S5 := B7.box S5 (by omega)
        replace Z4 := B7.box Z4 (by omega)
        replace Z5 := Q7
        replace T5 := B7.up T5 (by omega)
        clear B7
        refine hK.out _ _ ⟨X5, Y5⟩ (fun hHeld => ?_)
        clear hK K
        try simp only [Act.put, List.setIfInBounds_toArray, List.set_cons_zero, List.set_cons_succ]
        refine wpAnyH_done (by kernel_rfl) ?_ _
        go_wp2_with fail
        go_meet
        exact ⟨_, _, rfl, rfl, Z4, Z5, R5, S5, T5⟩
      refine AllReadyH.cons (by simp only [List.getElem?_toArray, List.getElem?_cons_zero, List.getElem?_cons_succ]; rfl) (fun K hK => ?_) AllReadyH.nil
      have mT5 := T5.size
      have mX55 := X5.lt
      have mY55 := Y5.lt
      have mR55 := R5.lt
      have mS55 := S5.lt
      have mZ45 := Z4.lt
      rw [if_pos (by rfl)]
      refine ow_alloc 32 rfl zero32 ?_
      intro v160 Z5 U
      replace X5 := X5.below U
      replace Y5 := Y5.below U
      replace R5 := R5.below U
      replace S5 := S5.below U
      replace Z4 := Z4.below U
      replace T5 := ups T5 U T5.size
      clear U
      refine hK.out _ _ ⟨X5, Y5⟩ (fun hHeld => ?_)
      clear hK K
      try simp only [Act.put, List.setIfInBounds_toArray, List.set_cons_zero, List.set_cons_succ]
      refine wpAnyH_ready (rs := [1]) (by kernel_rfl) (by simp) ?_
      refine AllReadyH.cons (by simp only [List.getElem?_toArray, List.getElem?_cons_zero, List.getElem?_cons_succ]; rfl) (fun K hK => ?_) AllReadyH.nil
      go_simp
      go_at_call 17
      (with_reducible refine (Own_any C _).mono ?_)
      rintro e v161 ⟨rfl, U⟩
      replace X5 := X5.below U
      replace Y5 := Y5.below U
      replace R5 := R5.below U
      replace S5 := S5.below U
      replace Z4 := Z4.below U
      replace Z5 := Z5.below U
      replace T5 := ups T5 U T5.size
      clear U
      refine hK.out _ _ ⟨X5, Y5⟩ (fun hHeld => ?_)
      clear hK K
      try simp only [Act.put, List.setIfInBounds_toArray, List.set_cons_zero, List.set_cons_succ]
      refine wpAnyH_ready (rs := [3]) (by kernel_rfl) (by simp) ?_
      refine AllReadyH.cons (by simp only [List.getElem?_toArray, List.getElem?_cons_zero, List.getElem?_cons_succ]; rfl) (fun K hK => ?_) AllReadyH.nil
      go_simp
      go_at_call 17
      (with_reducible refine (Own_any D _).mono ?_)
      rintro e v162 ⟨rfl, U⟩
      replace X5 := X5.below U
      replace Y5 := Y5.below U
      replace R5 := R5.below U
      replace S5 := S5.below U
      replace Z4 := Z4.below U
      replace Z5 := Z5.below U
      replace T5 := ups T5 U T5.size
      clear U
      refine hK.out _ _ ⟨X5, Y5⟩ (fun hHeld => ?_)
      clear hK K
      try simp only [Act.put, List.setIfInBounds_toArray, List.set_cons_zero, List.set_cons_succ]
      refine wpAnyH_ready (rs := [6]) (by kernel_rfl) (by simp) ?_
      refine AllReadyH.cons (by simp only [List.getElem?_toArray, List.getElem?_cons_zero, List.getElem?_cons_succ]; rfl) (fun K hK => ?_) AllReadyH.nil
      rw [if_pos (by rfl)]
      refine ow_store 32 Z4 rfl rfl rfl size32 rfl (by omega : 0 + 24 ≤ 24) (cmV_one _) (spl24 _ _) ?_
      intro v163 Q6 B6
      replace X5 := B6.box X5 (by omega)
      replace Y5 := B6.box Y5 (by omega)
      replace R5 := B6.box R5 (by omega)
      replace S5 := B6.box S5 (by omega)
      replace Z5 := B6.box Z5 (by omega)
      replace Z4 := Q6
      replace T5 := B6.up T5 (by omega)
      clear B6
      refine hK.out _ _ ⟨X5, Y5⟩ (fun hHeld => ?_)
      clear hK K
      try simp only [Act.put, List.setIfInBounds_toArray, List.set_cons_zero, List.set_cons_succ]
      refine wpAnyH_ready (rs := [7]) (by kernel_rfl) (by simp) ?_
      refine AllReadyH.cons (by simp only [List.getElem?_toArray, List.getElem?_cons_zero, List.getElem?_cons_succ]; rfl) (fun K hK => ?_) AllReadyH.nil
      rw [if_pos (by rfl)]
      refine ow_store 32 Z5 rfl rfl rfl size32 rfl (by omega : 0 + 24 ≤ 24) (cmV_one _) (spl24 _ _) ?_
      intro v164 Q7 B7
      replace X5 := B7.box X5 (by omega)
      replace Y5 := B7.box Y5 (by omega)
      replace R5 := B7.box R5 (by omega)
      replace S5 := B7.box S5 (by omega)
      replace Z4 := B7.box Z4 (by omega)
      replace Z5 := Q7
      replace T5 := B7.up T5 (by omega)
      clear B7
      refine hK.out _ _ ⟨X5, Y5⟩ (fun hHeld => ?_)
      clear hK K
      try simp only [Act.put, List.setIfInBounds_toArray, List.set_cons_zero, List.set_cons_succ]
      refine wpAnyH_done (by kernel_rfl) ?_ _
      go_wp2_with fail
      go_meet
      exact ⟨_, _, rfl, rfl, Z4, Z5, R5, S5, T5⟩
    refine AllReadyH.cons (by simp only [List.getElem?_toArray, List.getElem?_cons_zero, List.getElem?_cons_succ]; rfl) (fun K hK => ?_) AllReadyH.nil
    have mT5 := T5.size
    have mX55 := X5.lt
    have mY55 := Y5.lt
    have mR55 := R5.lt
    have mS55 := S5.lt
    rw [if_pos (by rfl)]
    refine ow_alloc 32 rfl zero32 ?_
    intro v165 Z5 U
    replace X5 := X5.below U
    replace Y5 := Y5.below U
    replace R5 := R5.below U
    replace S5 := S5.below U
    replace T5 := ups T5 U T5.size
    clear U
    refine hK.out _ _ ⟨X5, Y5⟩ (fun hHeld => ?_)
    clear hK K
    try simp only [Act.put, List.setIfInBounds_toArray, List.set_cons_zero, List.set_cons_succ]
    refine wpAnyH_ready (rs := [1, 4]) (by kernel_rfl) (by simp) ?_
    refine AllReadyH.cons (by simp only [List.getElem?_toArray, List.getElem?_cons_zero, List.getElem?_cons_succ]; rfl) (fun K hK => ?_) ?_
    · go_simp
      go_at_call 17
      (with_reducible refine (Own_any C _).mono ?_)
      rintro e v166 ⟨rfl, U⟩
      replace X5 := X5.below U
      replace Y5 := Y5.below U
      replace R5 := R5.below U
      replace S5 := S5.below U
      replace Z5 := Z5.below U
      replace T5 := ups T5 U T5.size
      clear U
      refine hK.out _ _ ⟨X5, Y5⟩ (fun hHeld => ?_)
      clear hK K
      try simp only [Act.put, List.setIfInBounds_toArray, List.set_cons_zero, List.set_cons_succ]
      refine wpAnyH_ready (rs := [3, 4]) (by kernel_rfl) (by simp) ?_
      refine AllReadyH.cons (by simp only [List.getElem?_toArray, List.getElem?_cons_zero, List.getElem?_cons_succ]; rfl) (fun K hK => ?_) ?_
      · go_simp
        go_at_call 17
        (with_reducible refine (Own_any D _).mono ?_)
        rintro e v167 ⟨rfl, U⟩
        replace X5 := X5.below U
        replace Y5 := Y5.below U
        replace R5 := R5.below U
        replace S5 := S5.below U
        replace Z5 := Z5.below U
        replace T5 := ups T5 U T5.size
        clear U
        refine hK.out _ _ ⟨X5, Y5⟩ (fun hHeld => ?_)
        clear hK K
        try simp only [Act.put, List.setIfInBounds_toArray, List.set_cons_zero, List.set_cons_succ]
        refine wpAnyH_ready (rs := [4]) (by kernel_rfl) (by simp) ?_
        refine AllReadyH.cons (by simp only [List.getElem?_toArray, List.getElem?_cons_zero, List.getElem?_cons_succ]; rfl) (fun K hK => ?_) AllReadyH.nil
        have mT4 := T5.size
        have mX54 := X5.lt
        have mY54 := Y5.lt
        have mR54 := R5.lt
        have mS54 := S5.lt
        have mZ54 := Z5.lt
        rw [if_pos (by rfl)]
        refine ow_alloc 32 rfl zero32 ?_
        intro v168 Z4 U
        replace X5 := X5.below U
        replace Y5 := Y5.below U
        replace R5 := R5.below U
        replace S5 := S5.below U
        replace Z5 := Z5.below U
        replace T5 := ups T5 U T5.size
        clear U
        refine hK.out _ _ ⟨X5, Y5⟩ (fun hHeld => ?_)
        clear hK K
        try simp only [Act.put, List.setIfInBounds_toArray, List.set_cons_zero, List.set_cons_succ]
        refine wpAnyH_ready (rs := [6]) (by kernel_rfl) (by simp) ?_
        refine AllReadyH.cons (by simp only [List.getElem?_toArray, List.getElem?_cons_zero, List.getElem?_cons_succ]; rfl) (fun K hK => ?_) AllReadyH.nil
        rw [if_pos (by rfl)]
        refine ow_store 32 Z4 rfl rfl rfl size32 rfl (by omega : 0 + 24 ≤ 24) (cmV_one _) (spl24 _ _) ?_
        intro v169 Q6 B6
        replace X5 := B6.box X5 (by omega)
        replace Y5 := B6.box Y5 (by omega)
        replace R5 := B6.box R5 (by omega)
        replace S5 := B6.box S5 (by omega)
        replace Z5 := B6.box Z5 (by omega)
        replace Z4 := Q6
        replace T5 := B6.up T5 (by omega)
        clear B6
        refine hK.out _ _ ⟨X5, Y5⟩ (fun hHeld => ?_)
        clear hK K
        try simp only [Act.put, List.setIfInBounds_toArray, List.set_cons_zero, List.set_cons_succ]
        refine wpAnyH_ready (rs := [7]) (by kernel_rfl) (by simp) ?_
        refine AllReadyH.cons (by simp only [List.getElem?_toArray, List.getElem?_cons_zero, List.getElem?_cons_succ]; rfl) (fun K hK => ?_) AllReadyH.nil
        rw [if_pos (by rfl)]
        refine ow_store 32 Z5 rfl rfl rfl size32 rfl (by omega : 0 + 24 ≤ 24) (cmV_one _) (spl24 _ _) ?_
        intro v170 Q7 B7
        replace X5 := B7.box X5 (by omega)
        replace Y5 := B7.box Y5 (by omega)
        replace R5 := B7.box R5 (by omega)
        replace S5 := B7.box S5 (by omega)
        replace Z4 := B7.box Z4 (by omega)
        replace Z5 := Q7
        replace T5 := B7.up T5 (by omega)
        clear B7
        refine hK.out _ _ ⟨X5, Y5⟩ (fun hHeld => ?_)
        clear hK K
        try simp only [Act.put, List.setIfInBounds_toArray, List.set_cons_zero, List.set_cons_succ]
        refine wpAnyH_done (by kernel_rfl) ?_ _
        go_wp2_with fail
        go_meet
        exact ⟨_, _, rfl, rfl, Z4, Z5, R5, S5, T5⟩
      refine AllReadyH.cons (by simp only [List.getElem?_toArray, List.getElem?_cons_zero, List.getElem?_cons_succ]; rfl) (fun K hK => ?_) AllReadyH.nil
      have mT4 := T5.size
      have mX54 := X5.lt
      have mY54 := Y5.lt
      have mR54 := R5.lt
      have mS54 := S5.lt
      have mZ54 := Z5.lt
      rw [if_pos (by rfl)]
      refine ow_alloc 32 rfl zero32 ?_
      intro v171 Z4 U
      replace X5 := X5.below U
      replace Y5 := Y5.below U
      replace R5 := R5.below U
      replace S5 := S5.below U
      replace Z5 := Z5.below U
      replace T5 := ups T5 U T5.size
      clear U
      refine hK.out _ _ ⟨X5, Y5⟩ (fun hHeld => ?_)
      clear hK K
      try simp only [Act.put, List.setIfInBounds_toArray, List.set_cons_zero, List.set_cons_succ]
      refine wpAnyH_ready (rs := [3]) (by kernel_rfl) (by simp) ?_
      refine AllReadyH.cons (by simp only [List.getElem?_toArray, List.getElem?_cons_zero, List.getElem?_cons_succ]; rfl) (fun K hK => ?_) AllReadyH.nil
      go_simp
      go_at_call 17
      (with_reducible refine (Own_any D _).mono ?_)
      rintro e v172 ⟨rfl, U⟩
      replace X5 := X5.below U
      replace Y5 := Y5.below U
      replace R5 := R5.below U
      replace S5 := S5.below U
      replace Z4 := Z4.below U
      replace Z5 := Z5.below U
      replace T5 := ups T5 U T5.size
      clear U
      refine hK.out _ _ ⟨X5, Y5⟩ (fun hHeld => ?_)
      clear hK K
      try simp only [Act.put, List.setIfInBounds_toArray, List.set_cons_zero, List.set_cons_succ]
      refine wpAnyH_ready (rs := [6]) (by kernel_rfl) (by simp) ?_
      refine AllReadyH.cons (by simp only [List.getElem?_toArray, List.getElem?_cons_zero, List.getElem?_cons_succ]; rfl) (fun K hK => ?_) AllReadyH.nil
      rw [if_pos (by rfl)]
      refine ow_store 32 Z4 rfl rfl rfl size32 rfl (by omega : 0 + 24 ≤ 24) (cmV_one _) (spl24 _ _) ?_
      intro v173 Q6 B6
      replace X5 := B6.box X5 (by omega)
      replace Y5 := B6.box Y5 (by omega)
      replace R5 := B6.box R5 (by omega)
      replace S5 := B6.box S5 (by omega)
      replace Z5 := B6.box Z5 (by omega)
      replace Z4 := Q6
      replace T5 := B6.up T5 (by omega)
      clear B6
      refine hK.out _ _ ⟨X5, Y5⟩ (fun hHeld => ?_)
      clear hK K
      try simp only [Act.put, List.setIfInBounds_toArray, List.set_cons_zero, List.set_cons_succ]
      refine wpAnyH_ready (rs := [7]) (by kernel_rfl) (by simp) ?_
      refine AllReadyH.cons (by simp only [List.getElem?_toArray, List.getElem?_cons_zero, List.getElem?_cons_succ]; rfl) (fun K hK => ?_) AllReadyH.nil
      rw [if_pos (by rfl)]
      refine ow_store 32 Z5 rfl rfl rfl size32 rfl (by omega : 0 + 24 ≤ 24) (cmV_one _) (spl24 _ _) ?_
      intro v174 Q7 B7
      replace X5 := B7.box X5 (by omega)
      replace Y5 := B7.box Y5 (by omega)
      replace R5 := B7.box R5 (by omega)
      replace S5 := B7.box S5 (by omega)
      replace Z4 := B7.box Z4 (by omega)
      replace Z5 := Q7
      replace T5 := B7.up T5 (by omega)
      clear B7
      refine hK.out _ _ ⟨X5, Y5⟩ (fun hHeld => ?_)
      clear hK K
      try simp only [Act.put, List.setIfInBounds_toArray, List.set_cons_zero, List.set_cons_succ]
      refine wpAnyH_done (by kernel_rfl) ?_ _
      go_wp2_with fail
      go_meet
      exact ⟨_, _, rfl, rfl, Z4, Z5, R5, S5, T5⟩
    refine AllReadyH.cons (by simp only [List.getElem?_toArray, List.getElem?_cons_zero, List.getElem?_cons_succ]; rfl) (fun K hK => ?_) AllReadyH.nil
    have mT4 := T5.size
    have mX54 := X5.lt
    have mY54 := Y5.lt
    have mR54 := R5.lt
    have mS54 := S5.lt
    have mZ54 := Z5.lt
    rw [if_pos (by rfl)]
    refine ow_alloc 32 rfl zero32 ?_
    intro v175 Z4 U
    replace X5 := X5.below U
    replace Y5 := Y5.below U
    replace R5 := R5.below U
    replace S5 := S5.below U
    replace Z5 := Z5.below U
    replace T5 := ups T5 U T5.size
    clear U
    refine hK.out _ _ ⟨X5, Y5⟩ (fun hHeld => ?_)
    clear hK K
    try simp only [Act.put, List.setIfInBounds_toArray, List.set_cons_zero, List.set_cons_succ]
    refine wpAnyH_ready (rs := [1]) (by kernel_rfl) (by simp) ?_
    refine AllReadyH.cons (by simp only [List.getElem?_toArray, List.getElem?_cons_zero, List.getElem?_cons_succ]; rfl) (fun K hK => ?_) AllReadyH.nil
    go_simp
    go_at_call 17
    (with_reducible refine (Own_any C _).mono ?_)
    rintro e v176 ⟨rfl, U⟩
    replace X5 := X5.below U
    replace Y5 := Y5.below U
    replace R5 := R5.below U
    replace S5 := S5.below U
    replace Z4 := Z4.below U
    replace Z5 := Z5.below U
    replace T5 := ups T5 U T5.size
    clear U
    refine hK.out _ _ ⟨X5, Y5⟩ (fun hHeld => ?_)
    clear hK K
    try simp only [Act.put, List.setIfInBounds_toArray, List.set_cons_zero, List.set_cons_succ]
    refine wpAnyH_ready (rs := [3]) (by kernel_rfl) (by simp) ?_
    refine AllReadyH.cons (by simp only [List.getElem?_toArray, List.getElem?_cons_zero, List.getElem?_cons_succ]; rfl) (fun K hK => ?_) AllReadyH.nil
    go_simp
    go_at_call 17
    (with_reducible refine (Own_any D _).mono ?_)
    rintro e v177 ⟨rfl, U⟩
    replace X5 := X5.below U
    replace Y5 := Y5.below U
    replace R5 := R5.below U
    replace S5 := S5.below U
    replace Z4 := Z4.below U
    replace Z5 := Z5.below U
    replace T5 := ups T5 U T5.size
    clear U
    refine hK.out _ _ ⟨X5, Y5⟩ (fun hHeld => ?_)
    clear hK K
    try simp only [Act.put, List.setIfInBounds_toArray, List.set_cons_zero, List.set_cons_succ]
    refine wpAnyH_ready (rs := [6]) (by kernel_rfl) (by simp) ?_
    refine AllReadyH.cons (by simp only [List.getElem?_toArray, List.getElem?_cons_zero, List.getElem?_cons_succ]; rfl) (fun K hK => ?_) AllReadyH.nil
    rw [if_pos (by rfl)]
    refine ow_store 32 Z4 rfl rfl rfl size32 rfl (by omega : 0 + 24 ≤ 24) (cmV_one _) (spl24 _ _) ?_
    intro v178 Q6 B6
    replace X5 := B6.box X5 (by omega)
    replace Y5 := B6.box Y5 (by omega)
    replace R5 := B6.box R5 (by omega)
    replace S5 := B6.box S5 (by omega)
    replace Z5 := B6.box Z5 (by omega)
    replace Z4 := Q6
    replace T5 := B6.up T5 (by omega)
    clear B6
    refine hK.out _ _ ⟨X5, Y5⟩ (fun hHeld => ?_)
    clear hK K
    try simp only [Act.put, List.setIfInBounds_toArray, List.set_cons_zero, List.set_cons_succ]
    refine wpAnyH_ready (rs := [7]) (by kernel_rfl) (by simp) ?_
    refine AllReadyH.cons (by simp only [List.getElem?_toArray, List.getElem?_cons_zero, List.getElem?_cons_succ]; rfl) (fun K hK => ?_) AllReadyH.nil
    rw [if_pos (by rfl)]
    refine ow_store 32 Z5 rfl rfl rfl size32 rfl (by omega : 0 + 24 ≤ 24) (cmV_one _) (spl24 _ _) ?_
    intro v179 Q7 B7
    replace X5 := B7.box X5 (by omega)
    replace Y5 := B7.box Y5 (by omega)
    replace R5 := B7.box R5 (by omega)
    replace S5 := B7.box S5 (by omega)
    replace Z4 := B7.box Z4 (by omega)
    replace Z5 := Q7
    replace T5 := B7.up T5 (by omega)
    clear B7
    refine hK.out _ _ ⟨X5, Y5⟩ (fun hHeld => ?_)
    clear hK K
    try simp only [Act.put, List.setIfInBounds_toArray, List.set_cons_zero, List.set_cons_succ]
    refine wpAnyH_done (by kernel_rfl) ?_ _
    go_wp2_with fail
    go_meet
    exact ⟨_, _, rfl, rfl, Z4, Z5, R5, S5, T5⟩
  case rest =>
    rename World => w7
    obtain ⟨G, H, rfl, rfl, Z1, Z2, R7, S7, T7⟩ := hcut
    clear X5 Y5 R5 S5 T5
    have a1 := p1 w7 (hN.up T7)
    go_wp2_with (first
      | (go_at_call 9; (with_reducible refine a1.mono ?_); rintro e w8 ⟨rfl, U8⟩; have Z18 := Z1.below U8; have Z28 := Z2.below U8; have R8 := R7.below U8; have S8 := S7.below U8; have T8 := ups T7 U8 T7.size; have a2 := p2 w8 (hN.up T8))
      | (go_at_call 9; (with_reducible refine a2.mono ?_); rintro e w9 ⟨rfl, U9⟩; have Z19 := Z18.below U9; have Z29 := Z28.below U9; have R9 := R8.below U9; have S9 := S8.below U9; have T9 := ups T8 U9 T8.size; have a3 := p3 w9)
      | (go_at_call 11; (with_reducible refine a3.mono ?_); rintro e wa ⟨rfl, Ua⟩; have Z1a := Z19.below Ua; have Z2a := Z29.below Ua; have Ra := R9.below Ua; have Sa := S9.below Ua; have Ta := ups T9 Ua T9.size; have a4 := p4 wa)
      | (go_at_call 11; (with_reducible refine a4.mono ?_); rintro e wb ⟨rfl, Ub⟩; have Z1b := Z1a.below Ub; have Z2b := Z2a.below Ub; have Rb := Ra.below Ub; have Sb := Sa.below Ub; have Tb := ups Ta Ub Ta.size)
      | (with_reducible refine at_list ?_; first
        | (refine wl_loadf 32 Z1 rfl rfl rfl Tryd.underlying32 rfl size32 (by omega : 0 + 24 ≤ 24) (cmV_all _) ?_; (try simp only [Act.put, List.setIfInBounds_toArray, List.set_cons_zero, List.set_cons_succ]))
        | (refine wl_loadf 32 Z28 rfl rfl rfl Tryd.underlying32 rfl size32 (by omega : 0 + 24 ≤ 24) (cmV_all _) ?_; (try simp only [Act.put, List.setIfInBounds_toArray, List.set_cons_zero, List.set_cons_succ]))
        | (refine wl_loadf 37 R9 rfl rfl rfl Tryd.underlying37 rfl size37 (by omega : 0 + 10 ≤ 10) (rpV_all _) ?_; (try simp only [Act.put, List.setIfInBounds_toArray, List.set_cons_zero, List.set_cons_succ]))
        | (refine wl_loadf 37 Sa rfl rfl rfl Tryd.underlying37 rfl size37 (by omega : 0 + 10 ≤ 10) (rpV_all _) ?_; (try simp only [Act.put, List.setIfInBounds_toArray, List.set_cons_zero, List.set_cons_succ]))
        | (refine wl_run (xl_loadf 32 Z1b rfl rfl Tryd.underlying32 rfl size32 (by omega : 0 + 24 ≤ 24) (cmV_all _)) (wanted_f rfl rfl rfl rfl) ?_; (try simp only [Act.put, List.setIfInBounds_toArray, List.set_cons_zero, List.set_cons_succ]))
        | (refine wl_run (xl_loadf 32 Z2b rfl rfl Tryd.underlying32 rfl size32 (by omega : 0 + 24 ≤ 24) (cmV_all _)) (wanted_f rfl rfl rfl rfl) ?_; (try simp only [Act.put, List.setIfInBounds_toArray, List.set_cons_zero, List.set_cons_succ]))
        | (refine wl_run (xl_eqf32 hb0.out rfl rfl rfl) (wanted_f rfl rfl rfl rfl) ?_; (try simp only [Act.put, List.setIfInBounds_toArray, List.set_cons_zero, List.set_cons_succ]))
        | (refine wl_loadf 37 Rb rfl rfl rfl Tryd.underlying37 rfl size37 (by omega : 0 + 10 ≤ 10) (rpV_all _) ?_; (try simp only [Act.put, List.setIfInBounds_toArray, List.set_cons_zero, List.set_cons_succ]))
        | (refine wl_loadf 37 Sb rfl rfl rfl Tryd.underlying37 rfl size37 (by omega : 0 + 10 ≤ 10) (rpV_all _) ?_; (try simp only [Act.put, List.setIfInBounds_toArray, List.set_cons_zero, List.set_cons_succ]))
        | (refine wl_run (xl_eqf37 hb1.out rfl rfl rfl) rfl ?_; (try simp only [Act.put, List.setIfInBounds_toArray, List.set_cons_zero, List.set_cons_succ]))))
    go_ret
    exact ⟨by simp, Tb⟩
theorem ownC_ok {C : Cm} (h : C.ok) : (ownC C).ok := by
  by_cases hk : 1 ≤ C.k ∧ C.k ≤ 7
  · have hh := hasC_ok h
    obtain ⟨a, b, c, d⟩ := mkC_of hk.1 hk.2 (hasC_ty C) hh
    have e : mkC C.k (hasC C) = ownC C := by
      obtain ⟨k, a1, a2, a3, a4, a5, a6, a7, a8, a9, a10, a11, a12, a13, a14, a15, a16, a17, a18, a19, a20, a21, a22, a23⟩ := C
      simp only at hk
      rcases seven hk.1 hk.2 with rfl | rfl | rfl | rfl | rfl | rfl | rfl <;> rfl
    rw [e] at b
    exact b
  · have e : ownC C = Cm.zero C.k := by
      unfold ownC
      rw [if_neg (by omega), if_neg (by omega), if_neg (by omega), if_neg (by omega), if_neg (by omega), if_neg (by omega)]
    rw [e]
    exact zero_cm C.k h.1
theorem CommandApart_walk (C D : Cm) (r q : Rp) (w : World) (hN : Names w) (hC : C.ok) (hD : D.ok) (hr : r.ok) (hq : q.ok) : Calls Tryd.prog 7 #[.agg (cmV C), .agg (cmV D), .agg (rpV r), .agg (rpV q)] w fun e w' => e = .returned (.bool true) ∧ Below w.heap.size w w' := by
  have hUV : ((bs (bytR r)).toList == (bs (bytR q)).toList) = decide (r = q) := by
    rw [bytes_eq]
    by_cases h : r = q
    · rw [h, decide_eq_true rfl, decide_eq_true rfl]
    · rw [decide_eq_false h, decide_eq_false]
      intro e
      have h1 := rdR_byt hr
      rw [bs_inj.1 e, rdR_byt hq] at h1
      exact h (Option.some.inj h1).symm
  obtain ⟨X2, E2, h2⟩ := cmdV_tuple (ownC D)
  by_cases h1 : 1 ≤ C.k ∧ C.k ≤ 7
  · have m1 := ownC_may h1.1 h1.2
    by_cases hd : 1 ≤ D.k ∧ D.k ≤ 7
    · have m2 := ownC_may hd.1 hd.2
      refine apart_yes C D r q w hN (ownC_ok hC) (ownC_ok hD) hr hq _ _ _ _ _ _ (if_pos m1) (if_pos m2) rfl rfl rfl rfl hUV ?_
      rw [bytes_eq]
      by_cases h : ownC C = ownC D
      · rw [h, decide_eq_true rfl, decide_eq_true rfl]
      · rw [decide_eq_false h, decide_eq_false]
        exact fun e => h (bytC_inj m1 (ownC_ok hC) m2 (ownC_ok hD) (bs_inj.1 e))
    · exact apart_no2 C D r q w hN (ownC_ok hC) (ownC_ok hD) hr hq _ _ _ _ _ _ (if_pos m1) (if_neg (fun m => hd (by have := m.1; have := m.2.1; rw [ownC_kind] at *; omega))) rfl rfl rfl rfl hUV
  · exact apart_no1 C D r q w hN (ownC_ok hC) (ownC_ok hD) hr hq _ _ _ _ _ _ (if_neg (fun m => h1 (by have := m.1; have := m.2.1; rw [ownC_kind] at *; omega))) E2 h2 rfl rfl rfl rfl hUV
end Go.Proofs.YtamjnekdfhocdaaDoor
