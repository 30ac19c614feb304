/- SpecSpoilt's walk. Condition: the library's tables and errors are laid; the numbers are what the fields can hold. -/
import Derived.Test.YtkcmfcgoknhodaaGreatDoorSwS
namespace Go.Proofs.YtkcmfcgoknhodaaGreatDoor
open Go.RowKit Go.Lib W
set_option linter.unusedVariables false
abbrev cvA (c : Cw) : Array Value := #[.int .u64 c.f, .int .u64 c.l, .int .u64 c.r]
theorem up_two (w : World) (a b : Array Value) (s t : TypeId) : Below w.heap.size w ((w.alloc (.cells a s)).alloc (.cells b t)) := (up1 w _).alloc (up1 w _).size _
set_option maxHeartbeats 16000000 in
set_option maxRecDepth 100000 in
theorem Spoilt_no (p : Sp) (c : Cw) (n : Int) (nb : Bool) (w : World) (hl : Lw w) (hno : n ≠ 0 ∨ nb = true)
    (hM : ∀ w, Calls Tryz.prog 10 #[spW p] w fun e w' => e = .returned (.int .i64 n) ∧ Below w.heap.size w w')
    (hC : ∀ w, Calls Tryz.prog 16 #[.agg #[.int .u64 c.f, .int .u64 c.l, .int .u64 c.r]] w fun e w' => e = .returned (.bool nb) ∧ Below w.heap.size w w') :
    Calls Tryz.prog 6 #[spW p, .agg #[.int .u64 c.f, .int .u64 c.l, .int .u64 c.r]] w fun e w' => e = .returned (.bool true) ∧ Below w.heap.size w w' := by
  have hA := awake_any
  have B := (Bl.new w 26 (spA p)).alloc (.cells (cvA c) 24)
  have D := Bl.new (w.alloc (.cells (spA p) 26)) 24 (cvA c)
  have T := up_two w (spA p) (cvA c) 26 24
  have nBD : w.heap.size ≠ (w.alloc (.cells (spA p) 26)).heap.size := by simp
  obtain ⟨dc, hdc⟩ : ∃ b, (w.alloc (.cells (spA p) 26)).heap.size = b := ⟨_, rfl⟩
  rw [hdc] at D
  by_cases hn : n = 0
  · subst hn
    have hb : nb = true := hno.resolve_left (fun h => h rfl)
    subst hb
    go_enter Tryz.func6, Tryz.ntmps6
    go_wp2_with (first
      | (go_at_call 7; (with_reducible refine (hA _ (hl.below T)).mono ?_); rintro e w1 ⟨rfl, hb⟩; replace B := B.below hb; replace D := D.below hb; replace T := sps2 T hb T.size; clear hb; obtain ⟨a0, a1, a2, a3, a4, a5, a6, a7, a8, a9, a10, a11, a12, a13⟩ := id B.at14)
      | (go_at_call 10; (with_reducible refine (hM _).mono ?_); rintro e w2 ⟨rfl, hb⟩; replace D := D.below hb; replace T := sps2 T hb T.size; clear hb; obtain ⟨d0, d1, d2, d3, d4, d5⟩ := id D.tri3)
      | (go_at_call 16; (with_reducible refine (hC _).mono ?_); rintro e w3 ⟨rfl, hb⟩; replace T := sps2 T hb T.size; clear hb))
    go_ret
    exact ⟨rfl, T⟩
  · have hn' : (n == 0) = false := beq_eq_false_iff_ne.2 hn
    go_enter Tryz.func6, Tryz.ntmps6
    go_wp2_with (first
      | (go_at_call 7; (with_reducible refine (hA _ (hl.below T)).mono ?_); rintro e w1 ⟨rfl, hb⟩; replace B := B.below hb; replace D := D.below hb; replace T := sps2 T hb T.size; clear hb; obtain ⟨a0, a1, a2, a3, a4, a5, a6, a7, a8, a9, a10, a11, a12, a13⟩ := id B.at14)
      | (go_at_call 10; (with_reducible refine (hM _).mono ?_); rintro e w2 ⟨rfl, hb⟩; replace T := sps2 T hb T.size; clear hb))
    go_ret
    exact ⟨rfl, T⟩
set_option maxHeartbeats 16000000 in
set_option maxRecDepth 100000 in
theorem Spoilt_yes (p : Sp) (c : Cw) (w : World) (hl : Lw w)
    (hM : ∀ w, Calls Tryz.prog 10 #[spW p] w fun e w' => e = .returned (.int .i64 0) ∧ Below w.heap.size w w')
    (hC : ∀ w, Calls Tryz.prog 16 #[.agg #[.int .u64 c.f, .int .u64 c.l, .int .u64 c.r]] w fun e w' => e = .returned (.bool false) ∧ Below w.heap.size w w')
    (h5 : ∀ w, Calls Tryz.prog 10 #[.agg #[.int .i64 0, .int .i64 p.par, .bool p.leaf, .int .u64 c.f, .int .u64 c.l, .int .u64 c.r, .int .u64 p.sh.f, .int .u64 p.sh.l, .int .u64 p.sh.r, .int .u64 p.up.f, .int .u64 p.up.l, .int .u64 p.up.r, .int .i64 p.pk, .int .i64 p.bt]] w fun e w' => e = .returned (.int .i64 130) ∧ Below w.heap.size w w')
    (h6 : ∀ w, Calls Tryz.prog 10 #[.agg #[.int .i64 p.id, .int .i64 p.par, .bool p.leaf, .int .u64 p.re.f, .int .u64 p.re.l, .int .u64 p.re.r, .int .u64 c.f, .int .u64 c.l, .int .u64 c.r, .int .u64 p.up.f, .int .u64 p.up.l, .int .u64 p.up.r, .int .i64 p.pk, .int .i64 p.bt]] w fun e w' => e = .returned (.int .i64 30) ∧ Below w.heap.size w w')
    (h7 : ∀ w, Calls Tryz.prog 10 #[.agg #[.int .i64 p.id, .int .i64 p.par, .bool p.leaf, .int .u64 p.re.f, .int .u64 p.re.l, .int .u64 p.re.r, .int .u64 p.sh.f, .int .u64 p.sh.l, .int .u64 p.sh.r, .int .u64 c.f, .int .u64 c.l, .int .u64 c.r, .int .i64 p.pk, .int .i64 p.bt]] w fun e w' => e = .returned (.int .i64 30) ∧ Below w.heap.size w w')
    (h8 : ∀ w, Calls Tryz.prog 10 #[.agg #[.int .i64 p.id, .int .i64 p.par, .bool (!p.leaf), .int .u64 p.re.f, .int .u64 p.re.l, .int .u64 p.re.r, .int .u64 p.sh.f, .int .u64 p.sh.l, .int .u64 p.sh.r, .int .u64 p.up.f, .int .u64 p.up.l, .int .u64 p.up.r, .int .i64 p.pk, .int .i64 p.bt]] w fun e w' => e = .returned (.int .i64 130) ∧ Below w.heap.size w w')
    (h9 : ∀ w, Calls Tryz.prog 10 #[.agg #[.int .i64 p.id, .int .i64 p.par, .bool p.leaf, .int .u64 p.re.f, .int .u64 p.re.l, .int .u64 p.re.r, .int .u64 p.sh.f, .int .u64 p.sh.l, .int .u64 p.sh.r, .int .u64 p.up.f, .int .u64 p.up.l, .int .u64 p.up.r, .int .i64 4097, .int .i64 p.bt]] w fun e w' => e = .returned (.int .i64 130) ∧ Below w.heap.size w w') :
    Calls Tryz.prog 6 #[spW p, .agg #[.int .u64 c.f, .int .u64 c.l, .int .u64 c.r]] w fun e w' => e = .returned (.bool true) ∧ Below w.heap.size w w' := by
  have hA := awake_any
  have B := (Bl.new w 26 (spA p)).alloc (.cells (cvA c) 24)
  have D := Bl.new (w.alloc (.cells (spA p) 26)) 24 (cvA c)
  have T := up_two w (spA p) (cvA c) 26 24
  have nBD : w.heap.size ≠ (w.alloc (.cells (spA p) 26)).heap.size := by simp
  obtain ⟨dc, hdc⟩ : ∃ b, (w.alloc (.cells (spA p) 26)).heap.size = b := ⟨_, rfl⟩
  rw [hdc] at D
  go_enter Tryz.func6, Tryz.ntmps6
  go_upto_region 5 with (first
    | (go_at_call 7; (with_reducible refine (hA _ (hl.below T)).mono ?_); rintro e w1 ⟨rfl, hb⟩; replace B := B.below hb; replace D := D.below hb; replace T := sps2 T hb T.size; clear hb; obtain ⟨a0, a1, a2, a3, a4, a5, a6, a7, a8, a9, a10, a11, a12, a13⟩ := id B.at14)
    | (go_at_call 10; (with_reducible refine (hM _).mono ?_); rintro e w2 ⟨rfl, hb⟩; replace B := B.below hb; replace D := D.below hb; replace T := sps2 T hb T.size; clear hb; obtain ⟨d0, d1, d2, d3, d4, d5⟩ := id D.tri3)
    | (go_at_call 16; (with_reducible refine (hC _).mono ?_); rintro e w3 ⟨rfl, hb⟩; replace B := B.below hb; replace D := D.below hb; replace T := sps2 T hb T.size; clear hb))
  rw [hdc] at nBD
  clear hdc hA
  refine copies5 p (cvA c) w _ w.heap.size dc (fun _ _ _ _ _ h => h) (fun b5 b6 b7 b8 b9 V B D T A5 A6 A7 A8 A9 n5 n6 n7 n8 n9 q => ?_) B D T
  obtain ⟨q56, q57, q58, q59, q67, q68, q69, q78, q79, q89⟩ := q
  dsimp only
  go_upto_region 6 with fail
  refine wp_region_held_drew (S := fun w' => Bl w' dc (cvA c) 24) (by kernel_rfl) D.drew (fun hHeld => ?_)
  replace B := B.drew
  replace D := D.drew
  replace T := T.drew
  replace A5 := A5.drew
  replace A6 := A6.drew
  replace A7 := A7.drew
  replace A8 := A8.drew
  replace A9 := A9.drew
  generalize V.drew = V0 at B D T A5 A6 A7 A8 A9 hHeld ⊢
  refine wpAnyH_take (i := 0) (v := ?_) (by simp only [List.getElem?_toArray, List.getElem?_cons_zero]; rfl) (by kernel_rfl) (by kernel_rfl) (by kernel_rfl) (by exact fun _ _ _ h => h) (Or.inl ⟨by rfl, ?_⟩) (by assumption) ?_
  rotate_left
  · (intro w hSw; obtain ⟨e0, e1, e2, e3, e4, e5⟩ := id hSw.tri3; go_simp; (try with_reducible rfl))
  try simp only [Act.put, List.setIfInBounds_toArray, List.set_cons_zero, List.set_cons_succ]
  refine wpAnyH_take (i := 1) (v := ?_) (by simp only [List.getElem?_toArray, List.getElem?_cons_zero, List.getElem?_cons_succ]; rfl) (by kernel_rfl) (by kernel_rfl) (by kernel_rfl) (by exact fun _ _ _ h => h) (Or.inl ⟨by rfl, ?_⟩) (by assumption) ?_
  rotate_left
  · (intro w hSw; go_simp; (try with_reducible rfl))
  try simp only [Act.put, List.setIfInBounds_toArray, List.set_cons_zero, List.set_cons_succ]
  refine wpAnyH_ready (rs := [2]) (by kernel_rfl) (by simp) ?_
  refine AllReadyH.cons (by simp only [List.getElem?_toArray, List.getElem?_cons_zero, List.getElem?_cons_succ]; rfl) (fun K hK => ?_) AllReadyH.nil
  have s0 := A5.cell 0
  have s1 := A5.thaw 0
  simp at s0
  go_simp
  refine nameW (P := fun W' => Bl W' w.heap.size (spA p) 26 ∧ Bl W' dc (cvA c) 24 ∧ Below w.heap.size w W' ∧ Bl W' b5 (spA ⟨0, p.par, p.leaf, p.re, p.sh, p.up, p.pk, p.bt⟩) 26 ∧ Bl W' b6 (spA p) 26 ∧ Bl W' b7 (spA p) 26 ∧ Bl W' b8 (spA p) 26 ∧ Bl W' b9 (spA p) 26) ⟨(Bl.setNe B (a := ⟨b5, _, none⟩) n5.1 _), (Bl.setNe D (a := ⟨b5, _, none⟩) n5.2.1 _), (T.setCell n5.2.2 _), (by have h := (Bl.set A5 0 (.int .i64 0)); simp at h; exact h), (Bl.setNe A6 (a := ⟨b5, _, none⟩) q56.symm _), (Bl.setNe A7 (a := ⟨b5, _, none⟩) q57.symm _), (Bl.setNe A8 (a := ⟨b5, _, none⟩) q58.symm _), (Bl.setNe A9 (a := ⟨b5, _, none⟩) q59.symm _)⟩ (fun V1 hV => ?_)
  clear B D T A5 A6 A7 A8 A9
  obtain ⟨B, D, T, A5, A6, A7, A8, A9⟩ := hV
  clear s0 s1
  refine hK.out _ _ D (fun hHeld => ?_)
  clear hK K
  try simp only [Act.put, List.setIfInBounds_toArray, List.set_cons_zero, List.set_cons_succ]
  refine wpAnyH_take (i := 3) (v := ?_) (by simp only [List.getElem?_toArray, List.getElem?_cons_zero, List.getElem?_cons_succ]; rfl) (by kernel_rfl) (by kernel_rfl) (by kernel_rfl) (by exact fun _ _ _ h => h) (Or.inl ⟨by rfl, ?_⟩) (by assumption) ?_
  rotate_left
  · (intro w hSw; go_simp; (try with_reducible rfl))
  try simp only [Act.put, List.setIfInBounds_toArray, List.set_cons_zero, List.set_cons_succ]
  refine wpAnyH_ready (rs := [4]) (by kernel_rfl) (by simp) ?_
  refine AllReadyH.cons (by simp only [List.getElem?_toArray, List.getElem?_cons_zero, List.getElem?_cons_succ]; rfl) (fun K hK => ?_) AllReadyH.nil
  have s0 := A5.cell 3
  have r0 := A5.thaw 3
  have s1 := A5.cell 4
  have r1 := A5.thaw 4
  have s2 := A5.cell 5
  have r2 := A5.thaw 5
  simp at s0 s1 s2
  go_simp
  refine nameW (P := fun W' => Bl W' w.heap.size (spA p) 26 ∧ Bl W' dc (cvA c) 24 ∧ Below w.heap.size w W' ∧ Bl W' b5 (spA ⟨0, p.par, p.leaf, c, p.sh, p.up, p.pk, p.bt⟩) 26 ∧ Bl W' b6 (spA p) 26 ∧ Bl W' b7 (spA p) 26 ∧ Bl W' b8 (spA p) 26 ∧ Bl W' b9 (spA p) 26) ⟨(Bl.setNe (Bl.setNe (Bl.setNe B (a := ⟨b5, _, none⟩) n5.1 _) (a := ⟨b5, _, none⟩) n5.1 _) (a := ⟨b5, _, none⟩) n5.1 _), (Bl.setNe (Bl.setNe (Bl.setNe D (a := ⟨b5, _, none⟩) n5.2.1 _) (a := ⟨b5, _, none⟩) n5.2.1 _) (a := ⟨b5, _, none⟩) n5.2.1 _), (((T.setCell n5.2.2 _).setCell n5.2.2 _).setCell n5.2.2 _), (by have h := (Bl.set (Bl.set (Bl.set A5 3 (.int .u64 c.f)) 4 (.int .u64 c.l)) 5 (.int .u64 c.r)); simp at h; exact h), (Bl.setNe (Bl.setNe (Bl.setNe A6 (a := ⟨b5, _, none⟩) q56.symm _) (a := ⟨b5, _, none⟩) q56.symm _) (a := ⟨b5, _, none⟩) q56.symm _), (Bl.setNe (Bl.setNe (Bl.setNe A7 (a := ⟨b5, _, none⟩) q57.symm _) (a := ⟨b5, _, none⟩) q57.symm _) (a := ⟨b5, _, none⟩) q57.symm _), (Bl.setNe (Bl.setNe (Bl.setNe A8 (a := ⟨b5, _, none⟩) q58.symm _) (a := ⟨b5, _, none⟩) q58.symm _) (a := ⟨b5, _, none⟩) q58.symm _), (Bl.setNe (Bl.setNe (Bl.setNe A9 (a := ⟨b5, _, none⟩) q59.symm _) (a := ⟨b5, _, none⟩) q59.symm _) (a := ⟨b5, _, none⟩) q59.symm _)⟩ (fun V2 hV => ?_)
  clear B D T A5 A6 A7 A8 A9
  obtain ⟨B, D, T, A5, A6, A7, A8, A9⟩ := hV
  clear s0 r0 s1 r1 s2 r2
  refine hK.out _ _ D (fun hHeld => ?_)
  clear hK K
  try simp only [Act.put, List.setIfInBounds_toArray, List.set_cons_zero, List.set_cons_succ]
  refine wpAnyH_done (by kernel_rfl) ?_ _
  obtain ⟨d0, d1, d2, d3, d4, d5⟩ := id D.tri3
  have s0 := A6.cell 6
  have r0 := A6.thaw 6
  have s1 := A6.cell 7
  have r1 := A6.thaw 7
  have s2 := A6.cell 8
  have r2 := A6.thaw 8
  simp at s0 s1 s2
  go_upto_region 8 with fail
  refine nameW (P := fun W' => Bl W' w.heap.size (spA p) 26 ∧ Bl W' dc (cvA c) 24 ∧ Below w.heap.size w W' ∧ Bl W' b5 (spA ⟨0, p.par, p.leaf, c, p.sh, p.up, p.pk, p.bt⟩) 26 ∧ Bl W' b6 (spA ⟨p.id, p.par, p.leaf, p.re, c, p.up, p.pk, p.bt⟩) 26 ∧ Bl W' b7 (spA p) 26 ∧ Bl W' b8 (spA p) 26 ∧ Bl W' b9 (spA p) 26) ⟨(Bl.setNe (Bl.setNe (Bl.setNe B (a := ⟨b6, _, none⟩) n6.1 _) (a := ⟨b6, _, none⟩) n6.1 _) (a := ⟨b6, _, none⟩) n6.1 _), (Bl.setNe (Bl.setNe (Bl.setNe D (a := ⟨b6, _, none⟩) n6.2.1 _) (a := ⟨b6, _, none⟩) n6.2.1 _) (a := ⟨b6, _, none⟩) n6.2.1 _), (((T.setCell n6.2.2 _).setCell n6.2.2 _).setCell n6.2.2 _), (Bl.setNe (Bl.setNe (Bl.setNe A5 (a := ⟨b6, _, none⟩) q56 _) (a := ⟨b6, _, none⟩) q56 _) (a := ⟨b6, _, none⟩) q56 _), (by have h := (Bl.set (Bl.set (Bl.set A6 6 (.int .u64 c.f)) 7 (.int .u64 c.l)) 8 (.int .u64 c.r)); simp at h; exact h), (Bl.setNe (Bl.setNe (Bl.setNe A7 (a := ⟨b6, _, none⟩) q67.symm _) (a := ⟨b6, _, none⟩) q67.symm _) (a := ⟨b6, _, none⟩) q67.symm _), (Bl.setNe (Bl.setNe (Bl.setNe A8 (a := ⟨b6, _, none⟩) q68.symm _) (a := ⟨b6, _, none⟩) q68.symm _) (a := ⟨b6, _, none⟩) q68.symm _), (Bl.setNe (Bl.setNe (Bl.setNe A9 (a := ⟨b6, _, none⟩) q69.symm _) (a := ⟨b6, _, none⟩) q69.symm _) (a := ⟨b6, _, none⟩) q69.symm _)⟩ (fun V3 hV => ?_)
  clear B D T A5 A6 A7 A8 A9
  obtain ⟨B, D, T, A5, A6, A7, A8, A9⟩ := hV
  clear s0 r0 s1 r1 s2 r2
  clear d0 d1 d2 d3 d4 d5
  obtain ⟨d0, d1, d2, d3, d4, d5⟩ := id D.tri3
  have s0 := A7.cell 9
  have r0 := A7.thaw 9
  have s1 := A7.cell 10
  have r1 := A7.thaw 10
  have s2 := A7.cell 11
  have r2 := A7.thaw 11
  simp at s0 s1 s2
  go_upto_region 9 with fail
  refine nameW (P := fun W' => Bl W' w.heap.size (spA p) 26 ∧ Bl W' dc (cvA c) 24 ∧ Below w.heap.size w W' ∧ Bl W' b5 (spA ⟨0, p.par, p.leaf, c, p.sh, p.up, p.pk, p.bt⟩) 26 ∧ Bl W' b6 (spA ⟨p.id, p.par, p.leaf, p.re, c, p.up, p.pk, p.bt⟩) 26 ∧ Bl W' b7 (spA ⟨p.id, p.par, p.leaf, p.re, p.sh, c, p.pk, p.bt⟩) 26 ∧ Bl W' b8 (spA p) 26 ∧ Bl W' b9 (spA p) 26) ⟨(Bl.setNe (Bl.setNe (Bl.setNe B (a := ⟨b7, _, none⟩) n7.1 _) (a := ⟨b7, _, none⟩) n7.1 _) (a := ⟨b7, _, none⟩) n7.1 _), (Bl.setNe (Bl.setNe (Bl.setNe D (a := ⟨b7, _, none⟩) n7.2.1 _) (a := ⟨b7, _, none⟩) n7.2.1 _) (a := ⟨b7, _, none⟩) n7.2.1 _), (((T.setCell n7.2.2 _).setCell n7.2.2 _).setCell n7.2.2 _), (Bl.setNe (Bl.setNe (Bl.setNe A5 (a := ⟨b7, _, none⟩) q57 _) (a := ⟨b7, _, none⟩) q57 _) (a := ⟨b7, _, none⟩) q57 _), (Bl.setNe (Bl.setNe (Bl.setNe A6 (a := ⟨b7, _, none⟩) q67 _) (a := ⟨b7, _, none⟩) q67 _) (a := ⟨b7, _, none⟩) q67 _), (by have h := (Bl.set (Bl.set (Bl.set A7 9 (.int .u64 c.f)) 10 (.int .u64 c.l)) 11 (.int .u64 c.r)); simp at h; exact h), (Bl.setNe (Bl.setNe (Bl.setNe A8 (a := ⟨b7, _, none⟩) q78.symm _) (a := ⟨b7, _, none⟩) q78.symm _) (a := ⟨b7, _, none⟩) q78.symm _), (Bl.setNe (Bl.setNe (Bl.setNe A9 (a := ⟨b7, _, none⟩) q79.symm _) (a := ⟨b7, _, none⟩) q79.symm _) (a := ⟨b7, _, none⟩) q79.symm _)⟩ (fun V4 hV => ?_)
  clear B D T A5 A6 A7 A8 A9
  obtain ⟨B, D, T, A5, A6, A7, A8, A9⟩ := hV
  clear s0 r0 s1 r1 s2 r2
  clear d0 d1 d2 d3 d4 d5
  have l2 := B.cell 2
  simp at l2
  have s0 := A8.cell 2
  have r0 := A8.thaw 2
  simp at s0
  go_upto_region 10 with fail
  refine nameW (P := fun W' => Bl W' w.heap.size (spA p) 26 ∧ Bl W' dc (cvA c) 24 ∧ Below w.heap.size w W' ∧ Bl W' b5 (spA ⟨0, p.par, p.leaf, c, p.sh, p.up, p.pk, p.bt⟩) 26 ∧ Bl W' b6 (spA ⟨p.id, p.par, p.leaf, p.re, c, p.up, p.pk, p.bt⟩) 26 ∧ Bl W' b7 (spA ⟨p.id, p.par, p.leaf, p.re, p.sh, c, p.pk, p.bt⟩) 26 ∧ Bl W' b8 (spA ⟨p.id, p.par, !p.leaf, p.re, p.sh, p.up, p.pk, p.bt⟩) 26 ∧ Bl W' b9 (spA p) 26) ⟨(Bl.setNe B (a := ⟨b8, _, none⟩) n8.1 _), (Bl.setNe D (a := ⟨b8, _, none⟩) n8.2.1 _), (T.setCell n8.2.2 _), (Bl.setNe A5 (a := ⟨b8, _, none⟩) q58 _), (Bl.setNe A6 (a := ⟨b8, _, none⟩) q68 _), (Bl.setNe A7 (a := ⟨b8, _, none⟩) q78 _), (by have h := (Bl.set A8 2 (.bool (!p.leaf))); simp at h; exact h), (Bl.setNe A9 (a := ⟨b8, _, none⟩) q89.symm _)⟩ (fun V5 hV => ?_)
  clear B D T A5 A6 A7 A8 A9
  obtain ⟨B, D, T, A5, A6, A7, A8, A9⟩ := hV
  clear s0 r0
  clear l2
  have s0 := A9.cell 12
  have r0 := A9.thaw 12
  simp at s0
  go_upto_region 11 with fail
  refine nameW (P := fun W' => Bl W' w.heap.size (spA p) 26 ∧ Bl W' dc (cvA c) 24 ∧ Below w.heap.size w W' ∧ Bl W' b5 (spA ⟨0, p.par, p.leaf, c, p.sh, p.up, p.pk, p.bt⟩) 26 ∧ Bl W' b6 (spA ⟨p.id, p.par, p.leaf, p.re, c, p.up, p.pk, p.bt⟩) 26 ∧ Bl W' b7 (spA ⟨p.id, p.par, p.leaf, p.re, p.sh, c, p.pk, p.bt⟩) 26 ∧ Bl W' b8 (spA ⟨p.id, p.par, !p.leaf, p.re, p.sh, p.up, p.pk, p.bt⟩) 26 ∧ Bl W' b9 (spA ⟨p.id, p.par, p.leaf, p.re, p.sh, p.up, 4097, p.bt⟩) 26) ⟨(Bl.setNe B (a := ⟨b9, _, none⟩) n9.1 _), (Bl.setNe D (a := ⟨b9, _, none⟩) n9.2.1 _), (T.setCell n9.2.2 _), (Bl.setNe A5 (a := ⟨b9, _, none⟩) q59 _), (Bl.setNe A6 (a := ⟨b9, _, none⟩) q69 _), (Bl.setNe A7 (a := ⟨b9, _, none⟩) q79 _), (Bl.setNe A8 (a := ⟨b9, _, none⟩) q89 _), (by have h := (Bl.set A9 12 (.int .i64 4097)); simp at h; exact h)⟩ (fun V6 hV => ?_)
  clear B D T A5 A6 A7 A8 A9
  obtain ⟨B, D, T, A5, A6, A7, A8, A9⟩ := hV
  clear s0 r0
  clear B D
  obtain ⟨c0, c1, c2, c3, c4, c5, c6, c7, c8, c9, c10, c11, c12, c13⟩ := id A5.at14
  go_wp2_with (first
    | (go_at_call 10; (with_reducible refine (h5 _).mono ?_); rintro e z5 ⟨rfl, hb⟩; replace A6 := A6.below hb; replace A7 := A7.below hb; replace A8 := A8.below hb; replace A9 := A9.below hb; replace T := sps2 T hb T.size; clear hb; obtain ⟨e0, e1, e2, e3, e4, e5, e6, e7, e8, e9, e10, e11, e12, e13⟩ := id A6.at14)
    | (go_at_call 10; (with_reducible refine (h6 _).mono ?_); rintro e z6 ⟨rfl, hb⟩; replace A7 := A7.below hb; replace A8 := A8.below hb; replace A9 := A9.below hb; replace T := sps2 T hb T.size; clear hb; obtain ⟨f0, f1, f2, f3, f4, f5, f6, f7, f8, f9, f10, f11, f12, f13⟩ := id A7.at14)
    | (go_at_call 10; (with_reducible refine (h7 _).mono ?_); rintro e z7 ⟨rfl, hb⟩; replace A8 := A8.below hb; replace A9 := A9.below hb; replace T := sps2 T hb T.size; clear hb; obtain ⟨g0, g1, g2, g3, g4, g5, g6, g7, g8, g9, g10, g11, g12, g13⟩ := id A8.at14)
    | (go_at_call 10; (with_reducible refine (h8 _).mono ?_); rintro e z8 ⟨rfl, hb⟩; replace A9 := A9.below hb; replace T := sps2 T hb T.size; clear hb; obtain ⟨m0, m1, m2, m3, m4, m5, m6, m7, m8, m9, m10, m11, m12, m13⟩ := id A9.at14)
    | (go_at_call 10; (with_reducible refine (h9 _).mono ?_); rintro e z9 ⟨rfl, hb⟩;  replace T := sps2 T hb T.size; clear hb; skip))
  go_ret
  exact ⟨by simp, T⟩
end Go.Proofs.YtkcmfcgoknhodaaGreatDoor
