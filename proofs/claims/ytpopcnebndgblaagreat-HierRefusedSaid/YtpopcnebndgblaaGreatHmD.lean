/- Both trees of the same classes show the same; acts; a tree and the document's tree side by side. Condition: numbers are what the fields can hold. -/
import Derived.Test.YtpopcnebndgblaaGreatHmC
namespace Go.Proofs.YtpopcnebndgblaaGreat.H
open Go.ChangeShapes Go.WideShapes Go.Deep Go.RowKit
set_option linter.unusedVariables false
set_option linter.unusedSimpArgs false
theorem leavesL_len (L : List Sp) (k : Int) : (leavesL L k).length ≤ L.length := by unfold leavesL; rw [List.length_map]; exact List.length_filter_le _ _
section
variable {w w' : World} {χ χ' : Nat → Nat} {c d B base n : Nat} {L : List Sp} {zs : List Int}
theorem tget_any (h : Tre w χ c B L) {k : Int} (hk : I64 k) : Calls Tryz.prog 20 #[ptr B, eI k] w fun e w' => e = .returned (.tuple #[.agg (sV (getS L k)), .bool (hasS L k)]) ∧ Below w.heap.size w w' := by
  obtain ⟨⟨bm, G, Cp, h1⟩, hF⟩ := h
  rw [← getS_has hF.tree k]
  exact get_any h1 hk
theorem tunder_any (h : Tre w χ c B L) {k : Int} (hk : I64 k) : Calls Tryz.prog 23 #[ptr B, eI k] w fun e w' => ∃ v, e = .returned v ∧ w'.ownsRow w.heap.size 3 1 v (underL L k).length ((underL L k).map eI) ∧ Below w.heap.size w w' := by
  obtain ⟨⟨bm, G, Cp, h1⟩, hF⟩ := h
  exact under_any h1 hk
theorem tpath_any (h : Tre w χ c B L) {k : Int} (hk : I64 k) : Calls Tryz.prog 24 #[ptr B, eI k] w fun e w' => ∃ v, e = .returned v ∧ w'.ownsRow w.heap.size 3 1 v (pathL L k).length ((pathL L k).map eI) ∧ Below w.heap.size w w' := by
  obtain ⟨⟨bm, G, Cp, h1⟩, hF⟩ := h
  obtain ⟨p1, p2⟩ := pw_any hF.tree k
  exact path_any h1 hF.ok hk p1 p2
theorem tlen_any (h : Tre w χ c B L) : Calls Tryz.prog 21 #[ptr B] w fun e w' => e = .returned (eI (L.length : Int)) ∧ w = w' := by
  obtain ⟨⟨bm, G, Cp, h1⟩, hF⟩ := h
  exact tre_len h1
theorem own_set1 {g cap : Nat} {xs : List Value} (h : w.ownsRow base 3 1 (.slice (some ⟨g, 0, none⟩) n cap) n xs) {k : Nat} (hk : k < n) :
    ∃ cur, Box w g cur 3 ∧ k < cur.size ∧ ∀ (w' : World) (v : Value), Box w' g (cur.setIfInBounds k v) 3 → w'.ownsRow base 3 1 (.slice (some ⟨g, 0, none⟩) n cap) n (xs.set k v) := by
  obtain ⟨h1, h2⟩ := h
  rcases h2 with ⟨e, _⟩ | ⟨g', cap', cur, e, h0, hg, hle, hm, hs, ht⟩
  · cases e
  · cases e
    refine ⟨cur, hg, by omega, fun w' v hw' => ⟨by simpa using h1, .inr ⟨g, cap, _, rfl, h0, hw', hle, hm, by simpa using hs, ?_⟩⟩⟩
    rw [Array.toList_setIfInBounds, ← ht, List.take_set]
end
section
variable {P : Program} {ops : Array Oper} {rest : List Oper} {o : Oper} {a : Act} {w : World} {Q : Exit → Act → World → Prop} {K : Act → World → Prop} {E : Prop}
/-- A slice of two values, made now. -/
theorem wl_sl2 (t e : TypeId) {x y : Operand} {u v : Value} {cells : Array Value} (hgd : o.guard = none) (ho : o.op = .buildSlice t 2 #[(0, x), (1, y)]) (hx : a.eval x = u) (hy : a.eval y = v) (hu : P.underlying t = some (.slice e)) (hf : P.builtSlice e 2 [(0, u), (1, v)] = some cells)
    (h : ∀ w', Box w' w.heap.size cells e → Below w.heap.size w w' → wpList P ops Q rest (a.put o.dst (.slice (some ⟨w.heap.size, 0, none⟩) 2 2)) w') : wpList P ops Q (o :: rest) a w := by
  refine wpList_plain hgd fun K hK => ?_
  have hr : (Instr.buildSlice t 2 #[(0, u), (1, v)]).run P w = .ok (.slice (some ⟨w.heap.size, 0, none⟩) 2 2) (w.alloc (.cells cells e)) := by
    unfold Program.builtSlice at hf
    cases hie : P.info? e with
    | none => simp [hie] at hf
    | some ie =>
      simp only [hie] at hf
      cases hz : ie.zero with
      | none => simp [hz] at hf
      | some z =>
        simp only [hz] at hf
        by_cases hc : 2 * ie.size > 2 ^ 24 ∨ 2 * ie.size = 0
        · rw [if_pos hc] at hf; cases hf
        · rw [if_neg hc] at hf
          exact run_buildSlice w t e 2 _ cells ie z hu hie hz (fun h' => hc (Or.inl h')) (fun h' => hc (Or.inr h')) hf
  unfold Oper.wp execOp
  simp only [ho, List.map_toArray, List.map_cons, List.map_nil, hx, hy, Sem.run_bind, hr, Result.andThen_ok]
  exact hK _ _ (h _ (Box.new w e cells) (up1 w _))
/-- A row of numbers is appended, whatever is in it. -/
theorem wl_row {w : World} {o : Oper} {Q : Exit → Act → World → Prop} (hgd : o.guard = none) (q x : Operand)
    (ho : o.op = .call { callee := .builtin .append, args := #[q, x], argTypes := #[53, 53] })
    (m : Nat) (v u : Value) (X Y : List Int) (n k b : Nat) (hn : X.length = n) (hk : Y.length = k) (hs : a.eval q = v) (hown : w.ownsRow m 3 1 v n (rowC fI X)) (hx : a.eval x = u) (hu : w.ownsRow b 3 1 u k (rowC fI Y)) (hl : n + k ≤ 1000000) (hm : m ≤ w.heap.size)
    (h : ∀ v' w', w'.ownsRow m 3 1 v' (n + k) (rowC fI (X ++ Y)) → w.grownBy w' v.ownBlock → wpList Tryz.prog ops Q rest (a.put o.dst v') w') :
    wpList Tryz.prog ops Q (o :: rest) a w := by
  rcases own_form hu with ⟨rfl, rfl⟩ | ⟨g, cap, rfl, _⟩
  · obtain rfl : Y = [] := List.eq_nil_of_length_eq_zero hk
    refine wpList_nomore rowI hgd q x ho m n v _ hs hown hx (h v w ?_ (World.grownBy.refl _ _))
    rw [List.append_nil]; exact hown
  · exact wpList_more rowI cellsI hgd q x ho m v X Y n k hn hk hs hown ⟨g, 0, none⟩ cap hx (hu.cells rfl) hl hm (fun v' w' h1 h2 _ _ => h v' w' h1 h2)
theorem own_two {W : World} {g m : Nat} {x y : Int} (h : Box W g #[eI x, eI y] 3) (hm : m ≤ g) : W.ownsRow m 3 1 (.slice (some ⟨g, 0, none⟩) 2 2) 2 (rowC fI [x, y]) := ⟨rfl, .inr ⟨g, 2, _, rfl, hm, h, Nat.le_refl _, by decide, rfl, rfl⟩⟩
theorem bsl3_2 (x y : Int) : Tryz.prog.builtSlice 3 2 [(0, eI x), (1, eI y)] = some #[eI x, eI y] := by kernel_rfl
end
section
variable {w w' : World} {χ χ' : Nat → Nat} {c d B R : Nat} {L : List Sp} {zs : List Int}
set_option maxHeartbeats 4000000 in
set_option maxRecDepth 100000 in
theorem same_any (h : Tre w χ c B L) (hR : Rt w χ d R L) {id : Int} (hid : I64 id) :
    Calls Tryz.prog 18 #[ptr B, ptr R, eI id] w fun e w' => e = .returned (.bool true) ∧ Below w.heap.size w w' := by
  have hF := h.2
  obtain ⟨vL, hb1, _, hb3, _⟩ := _root_.id hR
  obtain ⟨aL, capL, rfl, hcL, hmL, _⟩ := row_cells hb3 rfl
  have hfew := hF.few
  have hil : (idsL L).length ≤ 100000 := by unfold idsL; rw [List.length_map]; omega
  have hil' := hil
  have hI := ids_any h
  obtain ⟨N, hN⟩ : ∃ N, ((0 :: id :: idsL L)).length = N := ⟨_, rfl⟩
  have hNle : N ≤ 100000 := by rw [← hN]; simp only [List.length_cons]; unfold idsL; rw [List.length_map]; omega
  have hN2 : 2 + (idsL L).length = N := by rw [← hN]; simp only [List.length_cons]; omega
  have hAll : ∀ x ∈ (0 :: id :: idsL L), I64 x := fun x hx => by
    rcases List.mem_cons.1 hx with rfl | hx
    · exact i64_zero
    · rcases List.mem_cons.1 hx with rfl | hx
      · exact hid
      · obtain ⟨p, hp, rfl⟩ := mem_ids.1 hx
        exact (hF.each p hp).1.1
  have hAll' := Lib.hid hAll
  have hN' := Lib.hid hN
  clear hb3 hAll hN
  go_enter Tryz.func18, Tryz.ntmps18
  go_upto_region 2 with (first
    | (go_at_call 22; (with_reducible refine hI.mono ?_); rintro e w1 ⟨v1, rfl, O1, T1⟩))
  have hLn := tlen_any (h.below T1.drew)
  have hRi := rids_any (hR.below T1.drew) hF
  have jL : (L.length : Int) ≤ (capL : Int) := by omega
  refine wp_region_held_drew (S := fun W => Below w.heap.size w W) (by kernel_rfl) T1.drew (fun hHeld => ?_)
  refine wpAnyH_take (i := 0) (v := ?_) (by simp only [List.getElem?_toArray, List.getElem?_cons_zero]; rfl) (by kernel_rfl) (by kernel_rfl) (by kernel_rfl) (by exact fun _ _ _ h => h) (Or.inl ⟨by rfl, ?_⟩) (by assumption) ?_
  rotate_left
  · (intro w hSw; (try dsimp only at hSw); go_simp; (try with_reducible rfl))
  try simp only [Act.put, List.setIfInBounds_toArray, List.set_cons_zero, List.set_cons_succ]
  refine wpAnyH_take (i := 2) (v := ?_) (by simp only [List.getElem?_toArray, List.getElem?_cons_zero, List.getElem?_cons_succ]; rfl) (by kernel_rfl) (by kernel_rfl) (by kernel_rfl) (by exact fun _ _ _ h => h) (Or.inl ⟨by rfl, ?_⟩) (by assumption) ?_
  rotate_left
  · (intro w hSw; (try dsimp only at hSw); go_simp; (try with_reducible rfl))
  try simp only [Act.put, List.setIfInBounds_toArray, List.set_cons_zero, List.set_cons_succ]
  refine wpAnyH_take (i := 3) (v := ?_) (by simp only [List.getElem?_toArray, List.getElem?_cons_zero, List.getElem?_cons_succ]; rfl) (by kernel_rfl) (by kernel_rfl) (by kernel_rfl) (by exact fun _ _ _ h => h) (Or.inl ⟨by rfl, ?_⟩) (by assumption) ?_
  rotate_left
  · (intro w hSw; (try dsimp only at hSw); go_simp; (try with_reducible rfl))
  try simp only [Act.put, List.setIfInBounds_toArray, List.set_cons_zero, List.set_cons_succ]
  refine wpAnyH_take (i := 4) (v := ?_) (by simp only [List.getElem?_toArray, List.getElem?_cons_zero, List.getElem?_cons_succ]; rfl) (by kernel_rfl) (by kernel_rfl) (by kernel_rfl) (by exact fun _ _ _ h => h) (Or.inl ⟨by rfl, ?_⟩) (by assumption) ?_
  rotate_left
  · (intro w hSw; (try dsimp only at hSw); go_simp; (try with_reducible rfl))
  try simp only [Act.put, List.setIfInBounds_toArray, List.set_cons_zero, List.set_cons_succ]
  refine wpAnyH_take (i := 5) (v := .slice aL L.length capL) (by simp only [List.getElem?_toArray, List.getElem?_cons_zero, List.getElem?_cons_succ]; rfl) (by kernel_rfl) (by kernel_rfl) (by kernel_rfl) (by exact fun _ _ _ h => h) (Or.inl ⟨by rfl, fun w hSw => xl_cell 27 (hb1.below hSw) rfl rfl Tryz.underlying27 rfl rfl⟩) (by assumption) ?_
  try simp only [Act.put, List.setIfInBounds_toArray, List.set_cons_zero, List.set_cons_succ]
  refine wpAnyH_take (i := 6) (v := ?_) (by simp only [List.getElem?_toArray, List.getElem?_cons_zero, List.getElem?_cons_succ]; rfl) (by kernel_rfl) (by kernel_rfl) (by kernel_rfl) (by exact fun _ _ _ h => h) (Or.inl ⟨by rfl, ?_⟩) (by assumption) ?_
  rotate_left
  · (intro w hSw; (try dsimp only at hSw); go_simp; (try with_reducible rfl))
  try simp only [Act.put, List.setIfInBounds_toArray, List.set_cons_zero, List.set_cons_succ]
  refine wpAnyH_ready (rs := [1]) (by kernel_rfl) (by simp) ?_
  refine AllReadyH.cons (by simp only [List.getElem?_toArray, List.getElem?_cons_zero, List.getElem?_cons_succ]; rfl) (fun K hK => ?_) AllReadyH.nil
  go_simp
  go_at_call 21
  (with_reducible refine hLn.mono ?_)
  rintro e w2 ⟨rfl, rfl⟩
  refine hK.out _ _ T1.drew (fun hHeld => ?_)
  clear hK K
  try simp only [Act.put, List.setIfInBounds_toArray, List.set_cons_zero, List.set_cons_succ]
  refine wpAnyH_take (i := 7) (v := .bool false) (by simp only [List.getElem?_toArray, List.getElem?_cons_zero, List.getElem?_cons_succ]; rfl) (by kernel_rfl) (by kernel_rfl) (by kernel_rfl) (by exact fun _ _ _ h => h) (Or.inl ⟨by rfl, ?_⟩) (by assumption) ?_
  · (intro w hSw; (try dsimp only at hSw); go_simp; (try with_reducible rfl))
  try simp only [Act.put, List.setIfInBounds_toArray, List.set_cons_zero, List.set_cons_succ]
  refine wpAnyH_take (i := 8) (v := .bool false) (by simp only [List.getElem?_toArray, List.getElem?_cons_zero, List.getElem?_cons_succ]; rfl) (by kernel_rfl) (by kernel_rfl) (by kernel_rfl) (by exact fun _ _ _ h => h) (Or.inl ⟨by rfl, ?_⟩) (by assumption) ?_
  · (intro w hSw; (try dsimp only at hSw); go_simp; (try with_reducible rfl))
  try simp only [Act.put, List.setIfInBounds_toArray, List.set_cons_zero, List.set_cons_succ]
  refine wpAnyH_take (i := 9) (v := ?_) (by simp only [List.getElem?_toArray, List.getElem?_cons_zero, List.getElem?_cons_succ]; rfl) (by kernel_rfl) (by kernel_rfl) (by kernel_rfl) (by exact fun _ _ _ h => h) (Or.inl ⟨by rfl, ?_⟩) (by assumption) ?_
  rotate_left
  · (intro w hSw; (try dsimp only at hSw); go_simp; (try with_reducible rfl))
  try simp only [Act.put, List.setIfInBounds_toArray, List.set_cons_zero, List.set_cons_succ]
  refine wpAnyH_take (i := 10) (v := ?_) (by simp only [List.getElem?_toArray, List.getElem?_cons_zero, List.getElem?_cons_succ]; rfl) (by kernel_rfl) (by kernel_rfl) (by kernel_rfl) (by exact fun _ _ _ h => h) (Or.inl ⟨by rfl, ?_⟩) (by assumption) ?_
  rotate_left
  · (intro w hSw; (try dsimp only at hSw); go_simp; (try with_reducible rfl))
  try simp only [Act.put, List.setIfInBounds_toArray, List.set_cons_zero, List.set_cons_succ]
  refine wpAnyH_ready (rs := [11]) (by kernel_rfl) (by simp) ?_
  refine AllReadyH.cons (by simp only [List.getElem?_toArray, List.getElem?_cons_zero, List.getElem?_cons_succ]; rfl) (fun K hK => ?_) AllReadyH.nil
  go_simp
  go_at_call 42
  (with_reducible refine hRi.mono ?_)
  rintro e w3 ⟨v3, rfl, O3, T3⟩
  have O13 := own_below O1.drew T3
  have S3 := ups T1.drew T3 T1.size
  have hSm := same_true O13 O3 hil
  refine hK.out _ _ S3 (fun hHeld => ?_)
  clear hK K
  try simp only [Act.put, List.setIfInBounds_toArray, List.set_cons_zero, List.set_cons_succ]
  refine wpAnyH_ready (rs := [12]) (by kernel_rfl) (by simp) ?_
  refine AllReadyH.cons (by simp only [List.getElem?_toArray, List.getElem?_cons_zero, List.getElem?_cons_succ]; rfl) (fun K hK => ?_) AllReadyH.nil
  go_simp
  go_at_call 28
  (with_reducible refine hSm.mono ?_)
  rintro e w4 ⟨rfl, T4⟩
  have S4 := ups S3 T4 S3.size
  have O4 := own_below O13 T4
  refine hK.out _ _ S4 (fun hHeld => ?_)
  clear hK K
  try simp only [Act.put, List.setIfInBounds_toArray, List.set_cons_zero, List.set_cons_succ]
  refine wpAnyH_take (i := 13) (v := ?_) (by simp only [List.getElem?_toArray, List.getElem?_cons_zero, List.getElem?_cons_succ]; rfl) (by kernel_rfl) (by kernel_rfl) (by kernel_rfl) (by exact fun _ _ _ h => h) (Or.inl ⟨by rfl, ?_⟩) (by assumption) ?_
  rotate_left
  · (intro w hSw; (try dsimp only at hSw); go_simp; (try with_reducible rfl))
  try simp only [Act.put, List.setIfInBounds_toArray, List.set_cons_zero, List.set_cons_succ]
  refine wpAnyH_take (i := 14) (v := ?_) (by simp only [List.getElem?_toArray, List.getElem?_cons_zero, List.getElem?_cons_succ]; rfl) (by kernel_rfl) (by kernel_rfl) (by kernel_rfl) (by exact fun _ _ _ h => h) (Or.inl ⟨by rfl, ?_⟩) (by assumption) ?_
  rotate_left
  · (intro w hSw; (try dsimp only at hSw); go_simp; (try with_reducible rfl))
  try simp only [Act.put, List.setIfInBounds_toArray, List.set_cons_zero, List.set_cons_succ]
  refine wpAnyH_done (by kernel_rfl) ?_ _
  clear hHeld
  have hRj := fun W (hW : Below w.heap.size w W) => rids_any (hR.below hW) hF
  go_wp2_with (first
    | (refine wl_sl2 (u := eI 0) (v := eI id) 53 3 rfl rfl rfl rfl Tryz.underlying53 (bsl3_2 0 id) ?_; intro w5 X5 T5; have S5 := ups S4 T5 S4.size; have O5 := own_below O4 T5; have hRk := hRj w5 S5; have N5 := own_two X5 (Nat.le_refl _))
    | (go_at_call 42; (with_reducible refine hRk.mono ?_); rintro e w6 ⟨v6, rfl, O6, T6⟩; have S6 := ups S5 T6 S5.size; have N6 := own_below N5 T6; have O16 := own_below O5 T6; rw [← rowI_map] at O6)
    | (refine wl_row rfl _ _ rfl w4.heap.size (.slice (some ⟨w4.heap.size, 0, none⟩) 2 2) v6 [0, id] (idsL L) 2 (idsL L).length _ rfl rfl rfl N6 rfl O6 (by omega) (Nat.le_trans T5.size T6.size) ?_; intro v8 w8 O8 G8; rw [rowI_map, hN2] at O8; have S8 := S6.grown G8 S6.size (fun q e => by have := (N6.lt q e).1; have := S4.size; omega); have O18 := O16.kept G8 (.inr (fun e => Nat.lt_irrefl _ (O4.lt _ e).2)); obtain ⟨a8, c8, rfl, hc8, hm8⟩ := own_len O8))
  clear hI hLn hRi hRj hSm T1 T3 T4 O1 O3 O13 S3 O4 S4 O5 X5 T5 S5 N5 N6 T6 S6 O6
  have j8 : (N : Int) ≤ (c8 : Int) := by omega
  go_loopw [9] (fun s9 wr => ∃ i : Nat, s9 = .int .i64 i ∧ i ≤ N ∧ wr.ownsRow w4.heap.size 3 1 (.slice a8 N c8) N ((0 :: id :: idsL L).map eI) ∧ wr.ownsRow w.heap.size 3 1 v1 (idsL L).length ((idsL L).map eI) ∧ Below w.heap.size w wr) (fun s9 _ => N - (intOf s9).toNat)
  case atStart => exact ⟨0, rfl, by omega, O8, O18, S8⟩
  case round =>
    obtain ⟨i, rfl, hi, O8, O1, hT⟩ := hrel
    rename World => wq
    by_cases hlt : i < N
    · have i1 : (i : Int) < (N : Int) := by omega
      have i2 : (0 : Int) ≤ (i : Int) := by omega
      have hw1 : IntKind.i64.wrap ((i : Int) + 1) = (i : Int) + 1 := i64_id (by omega)
      obtain ⟨n, hp⟩ : ∃ n, (0 :: id :: idsL L)[i]? = some n := ⟨_, List.getElem?_eq_getElem (by rw [hN'.out]; exact hlt)⟩
      have nn : I64 n := hAll'.out n (List.mem_of_getElem? hp)
      obtain ⟨a', c', e', _, _, hx⟩ := rowI_cells O8
      cases e'
      obtain ⟨g, rfl, _, hcell⟩ := hx i n hp
      have d0 := hcell wq (Below.refl _ _)
      have hG := tget_any (h.below hT) nn
      have hne := fun W => (ne34 (getS L n) (getS L n) W).trans (by rw [decide_eq_true rfl])
      have hul : (underL L n).length ≤ 100000 := by have := underL_len L n; omega
      have hpl : (pathL L n).length ≤ 100000 := by have := path_short hF n; omega
      have hll : (leavesL L n).length ≤ 100000 := by have := leavesL_len L n; omega
      obtain ⟨nU, hnU⟩ : ∃ q, (underL L n).length = q := ⟨_, rfl⟩
      obtain ⟨nP, hnP⟩ : ∃ q, (pathL L n).length = q := ⟨_, rfl⟩
      clear hx hcell hp
      go_upto_region 12 with (first
          | (go_at_call 20; (with_reducible refine hG.mono ?_); rintro e wa ⟨rfl, Ta⟩; have hG2 := rget_any (hR.below (ups hT Ta hT.size)) hF n)
          | (refine wl_alloc 34 rfl rfl zero34 ?_; intro wb Xb Tb; have Sb := ups Ta Tb Ta.size)
          | (refine wl_store 34 Xb rfl rfl rfl rfl size34 rfl (by omega : 0 + 14 ≤ 14) (sV_one _) (spl_ss _ _) ?_; intro wc Xc Kc; have Sc := Kc.up Sb Ta.size; replace hG2 := rget_any (hR.below (ups hT Sc hT.size)) hF n)
          | (go_at_call 35; (with_reducible refine hG2.mono ?_); rintro e wd ⟨rfl, Td⟩; have Xd := Xc.below Td; have Sd := ups Sc Td Sc.size)
          | (refine wl_alloc 34 rfl rfl zero34 ?_; intro we Xe Te; have Xde := Xd.below Te; have Se := ups Sd Te Sd.size)
          | (refine wl_store 34 Xe rfl rfl rfl rfl size34 rfl (by omega : 0 + 14 ≤ 14) (sV_one _) (spl_ss _ _) ?_; intro wf Xf Kf; have Sf := Kf.up Se Sd.size; have Xdf := Kf.box Xde (Nat.ne_of_lt Xd.lt); have hQ23 := tunder_any (h.below (ups hT Sf hT.size)) nn)
          | (go_at_call 23; (with_reducible refine hQ23.mono ?_); rintro e wg ⟨vU, rfl, OU, Tg⟩; have Xfg := Xf.below Tg; have Xdg := Xdf.below Tg; have Sg := ups Sf Tg Sf.size; have hQ24 := tpath_any (h.below (ups hT Sg hT.size)) nn)
          | (go_at_call 24; (with_reducible refine hQ24.mono ?_); rintro e wh ⟨vP, rfl, OP, Th⟩; have Xfh := Xfg.below Th; have Xdh := Xdg.below Th; have OUh := own_below OU Th; have Sh := ups Sg Th Sg.size; have hQ25 := leaves_any (h.below (ups hT Sh hT.size)) nn)
          | (go_at_call 25; (with_reducible refine hQ25.mono ?_); rintro e wi ⟨vL, rfl, OL, Ti⟩; have Xfi := Xfh.below Ti; have Xdi := Xdh.below Ti; have OUi := own_below OUh Ti; have OPi := own_below OP Ti; have Si := ups Sh Ti Sh.size; have hQ1 := runder_any (hR.below (ups hT Si hT.size)) hF n))
      go_wp2_with (first
          | (refine wl_load 34 Xdi rfl rfl rfl Tryz.underlying34 rfl size34 (by omega : 0 + 14 ≤ 14) (sV_all _) ?_)
          | (refine wl_load 34 Xfi rfl rfl rfl Tryz.underlying34 rfl size34 (by omega : 0 + 14 ≤ 14) (sV_all _) ?_)
          | (refine wl_run (v := .bool false) (xl_neb34 (hne _) rfl rfl rfl) rfl ?_)
          | (go_at_call 40; (with_reducible refine hQ1.mono ?_); rintro e x1 ⟨y1, rfl, OY1, TX1⟩; have OU1 := own_below OUi TX1; have OP1 := own_below OPi TX1; have OL1 := own_below OL TX1; have SX1 := ups Si TX1 Si.size; have hS1 := same_true OU1 OY1 hul)
          | (go_at_call 28; (with_reducible refine hS1.mono ?_); rintro e x2 ⟨rfl, TX2⟩; have OU2 := own_below OU1 TX2; have OP2 := own_below OP1 TX2; have OL2 := own_below OL1 TX2; have SX2 := ups SX1 TX2 SX1.size; have hQ2 := rpath_any (hR.below (ups hT SX2 hT.size)) hF nn)
          | (go_at_call 36; (with_reducible refine hQ2.mono ?_); rintro e x3 ⟨y3, rfl, OY3, TX3⟩; have OU3 := own_below OU2 TX3; have OP3 := own_below OP2 TX3; have OL3 := own_below OL2 TX3; have SX3 := ups SX2 TX3 SX2.size; have hS3 := same_true OP3 OY3 hpl)
          | (go_at_call 28; (with_reducible refine hS3.mono ?_); rintro e x4 ⟨rfl, TX4⟩; have OU4 := own_below OU3 TX4; have OP4 := own_below OP3 TX4; have OL4 := own_below OL3 TX4; have SX4 := ups SX3 TX4 SX3.size; have hQ4 := rleaves_any (hR.below (ups hT SX4 hT.size)) hF n)
          | (go_at_call 43; (with_reducible refine hQ4.mono ?_); rintro e x5 ⟨y5, rfl, OY5, TX5⟩; have OU5 := own_below OU4 TX5; have OP5 := own_below OP4 TX5; have OL5 := own_below OL4 TX5; have SX5 := ups SX4 TX5 SX4.size; have hS5 := same_true OL5 OY5 hll)
          | (go_at_call 28; (with_reducible refine hS5.mono ?_); rintro e x6 ⟨rfl, TX6⟩; have OU6 := own_below OU5 TX6; have OP6 := own_below OP5 TX6; have SX6 := ups SX5 TX6 SX5.size))
      have hUq : ∀ q, vU.ownBlock = some q → q < wg.heap.size := fun q e => (OU.lt q e).2
      have sf := Sf.size
      have sg := Sg.size
      rw [hnU] at OU6 hul
      rw [hnP] at OP6 hpl
      obtain ⟨aU, cU, rfl, hcU, hmU⟩ := own_len OU6
      obtain ⟨aP, cP, rfl, hcP, hmP⟩ := own_len OP6
      have jU : (nU : Int) ≤ (cU : Int) := by omega
      have jP : (nP : Int) ≤ (cP : Int) := by omega
      clear hG hG2 hQ23 hQ24 hQ25 hQ1 hQ2 hQ4 hS1 hS3 hS5 OU OUh OUi OU1 OU2 OU3 OU4 OU5 OP OPi OP1 OP2 OP3 OP4 OP5 OL OL1 OL2 OL3 OL4 OL5 OY1 OY3 OY5
      go_loopw [18] (fun s18 wk => ∃ k : Nat, s18 = .int .i64 k ∧ k ≤ nU ∧ (∃ xs, wk.ownsRow wf.heap.size 3 1 (.slice aU nU cU) nU xs) ∧ (∃ ys, wk.ownsRow wg.heap.size 3 1 (.slice aP nP cP) nP ys) ∧ Below wq.heap.size wq wk) (fun s18 _ => nU - (intOf s18).toNat)
      case atStart => exact ⟨0, rfl, by omega, ⟨_, OU6⟩, ⟨_, OP6⟩, SX6⟩
      case round =>
        obtain ⟨k, rfl, hk, ⟨xs, OW⟩, ⟨ys, OY⟩, hTk⟩ := hrel
        by_cases hkl : k < nU
        · have k1 : (k : Int) < (nU : Int) := by omega
          have k2 : (0 : Int) ≤ (k : Int) := by omega
          have hwk : IntKind.i64.wrap ((k : Int) + 1) = (k : Int) + 1 := i64_id (by omega)
          rcases own_form OW with ⟨_, e0⟩ | ⟨g1, cap1, e1, _⟩
          · omega
          cases e1
          obtain ⟨cur, hB, hkc, hput⟩ := own_set1 OW hkl
          have hg1 := (OW.lt g1 rfl).1
          go_wp2_with (first
            | (refine wl_put 3 (v := eI (-1)) hB rfl rfl rfl rfl rfl rfl size3 hkc rfl ?_; intro wz Xz Kz))
          exact ⟨⟨k + 1, (by simp), (by omega), ⟨_, hput wz _ Xz⟩, ⟨_, own_but OY Kz (fun e => by have := (OY.lt _ e).1; have := hUq g1 rfl; omega)⟩, Kz.up hTk (by omega)⟩, by simp [intOf]; omega⟩
        · have k1 : ¬ (k : Int) < (nU : Int) := by omega
          go_wp2
          go_loopw [19] (fun s19 wk => ∃ k : Nat, s19 = .int .i64 k ∧ k ≤ nP ∧ (∃ xs, wk.ownsRow wg.heap.size 3 1 (.slice aP nP cP) nP xs) ∧ Below wq.heap.size wq wk) (fun s19 _ => nP - (intOf s19).toNat)
          case atStart => exact ⟨0, rfl, by omega, ⟨_, OY⟩, hTk⟩
          case round =>
            obtain ⟨k, rfl, hk, ⟨xs, OW⟩, hTk⟩ := hrel
            by_cases hkl : k < nP
            · have k1 : (k : Int) < (nP : Int) := by omega
              have k2 : (0 : Int) ≤ (k : Int) := by omega
              have hwk : IntKind.i64.wrap ((k : Int) + 1) = (k : Int) + 1 := i64_id (by omega)
              rcases own_form OW with ⟨_, e0⟩ | ⟨g1, cap1, e1, _⟩
              · omega
              cases e1
              obtain ⟨cur, hB, hkc, hput⟩ := own_set1 OW hkl
              have hg1 := (OW.lt g1 rfl).1
              go_wp2_with (first
                | (refine wl_put 3 (v := eI (-1)) hB rfl rfl rfl rfl rfl rfl size3 hkc rfl ?_; intro wz Xz Kz))
              exact ⟨⟨k + 1, (by simp), (by omega), ⟨_, hput wz _ Xz⟩, Kz.up hTk (by omega)⟩, by simp [intOf]; omega⟩
            · have k1 : ¬ (k : Int) < (nP : Int) := by omega
              go_wp2
              exact ⟨⟨i + 1, rfl, by omega, own_below O8 hTk, own_below O1 hTk, ups hT hTk hT.size⟩, by simp [intOf]; omega⟩
    · have i1 : ¬ (i : Int) < (N : Int) := by omega
      obtain ⟨a1, c1, rfl, hc1, hm1⟩ := own_len O1
      obtain ⟨nI, hnI⟩ : ∃ q, (idsL L).length = q := ⟨_, rfl⟩
      rw [hnI] at O1 hil' hc1
      have j1 : (nI : Int) ≤ (c1 : Int) := by omega
      rw [hnI]
      go_wp2
      go_loopw [20] (fun s20 wk => ∃ k : Nat, s20 = .int .i64 k ∧ k ≤ nI ∧ (∃ xs, wk.ownsRow w.heap.size 3 1 (.slice a1 nI c1) nI xs) ∧ Below w.heap.size w wk) (fun s20 _ => nI - (intOf s20).toNat)
      case atStart => exact ⟨0, rfl, by omega, ⟨_, O1⟩, hT⟩
      case round =>
        obtain ⟨k, rfl, hk, ⟨xs, OW⟩, hTk⟩ := hrel
        by_cases hkl : k < nI
        · have k1 : (k : Int) < (nI : Int) := by omega
          have k2 : (0 : Int) ≤ (k : Int) := by omega
          have hwk : IntKind.i64.wrap ((k : Int) + 1) = (k : Int) + 1 := i64_id (by omega)
          rcases own_form OW with ⟨_, e0⟩ | ⟨g1, cap1, e1, _⟩
          · omega
          cases e1
          obtain ⟨cur, hB, hkc, hput⟩ := own_set1 OW hkl
          have hg1 := (OW.lt g1 rfl).1
          go_wp2_with (first
            | (refine wl_put 3 (v := eI (-1)) hB rfl rfl rfl rfl rfl rfl size3 hkc rfl ?_; intro wz Xz Kz))
          exact ⟨⟨k + 1, (by simp), (by omega), ⟨_, hput wz _ Xz⟩, Kz.up hTk (by omega)⟩, by simp [intOf]; omega⟩
        · have k1 : ¬ (k : Int) < (nI : Int) := by omega
          go_wp2
          go_ret
          exact ⟨rfl, hTk⟩
end
end Go.Proofs.YtpopcnebndgblaaGreat.H

namespace Go.Proofs.YtpopcnebndgblaaGreat.H
open Go.ChangeShapes Go.WideShapes Go.Deep Go.RowKit
set_option linter.unusedVariables false
set_option linter.unusedSimpArgs false
/-- Something done to a tree. -/
structure Ac where
  k : Int
  s : Sp
def Ac.ok (a : Ac) : Prop := (0 ≤ a.k ∧ a.k < 256) ∧ a.s.ok
def aV (a : Ac) : List Value := .int .u8 a.k :: (sV a.s).toList
theorem aV_len (a : Ac) : (aV a).length = 15 := rfl
def Ac.zero : Ac := ⟨0, Sp.zero⟩
set_option maxRecDepth 100000 in
theorem fifteen {l : List Value} (h : l.length = 15) : ∃ a b c d e f g i j k l1 m n o q, l = [a, b, c, d, e, f, g, i, j, k, l1, m, n, o, q] := by
  match l, h with
  | [a, b, c, d, e, f, g, i, j, k, l, m, n, o, q], _ => exact ⟨a, b, c, d, e, f, g, i, j, k, l, m, n, o, q, rfl⟩
set_option maxRecDepth 100000 in
theorem open_acts {H : Type} {enc : TypeId × Value → H} {w : World} {base : Nat} {spare : Nat → Bool} {held : Bool} {fuel : Nat} {cs : List Value} {x : DataW H × List MemPlace} (h : DataW.trod enc Tryz.prog w base spare held fuel 22 cs = some x) :
    ∃ (a : Option Addr) (n c : Nat) (xs : Nat → Ac), cs = [.slice a n c] ∧ IsRow aV 15 w a n c xs ∧ (∀ i, (xs i).ok) ∧ c ≤ maxLen ∧ (a = none → n = 0 ∧ c = 0) := by
  refine open_row (e := 36) (ok := Ac.ok) Ac.zero ⟨by decide, Sp.zero_ok⟩ (by decide) aV_len Tryz.underlying22 (by kernel_rfl) (fun n cs x hl hx => ?_) h
  obtain ⟨a, b, c, d, e, f, g, i, j, k, l, m, n', o, q, rfl⟩ := fifteen hl
  have hO := open_flat 4 36 [.u8, .i64, .i64, .b, .u64, .u64, .u64, .u64, .u64, .u64, .u64, .u64, .u64, .i64, .i64] n _ _ (by kernel_rfl) rfl hx
  obtain ⟨⟨y, rfl, hy⟩, ⟨x0, rfl, h0⟩, ⟨x1, rfl, h1⟩, ⟨x2, rfl⟩, ⟨x3, rfl, h3⟩, ⟨x4, rfl, h4⟩, ⟨x5, rfl, h5⟩, ⟨x6, rfl, h6⟩, ⟨x7, rfl, h7⟩, ⟨x8, rfl, h8⟩, ⟨x9, rfl, h9⟩, ⟨x10, rfl, h10⟩, ⟨x11, rfl, h11⟩, ⟨x12, rfl, h12⟩, ⟨x13, rfl, h13⟩, _⟩ := hO
  exact ⟨⟨y, x0, x1, x2, ⟨x3, x4, x5⟩, ⟨x6, x7, x8⟩, ⟨x9, x10, x11⟩, x12, x13⟩, ⟨hy, h0, h1, ⟨h3, h4, h5⟩, ⟨h6, h7, h8⟩, ⟨h9, h10, h11⟩, h12, h13⟩, rfl⟩
theorem act_at {w0 : World} {a : Option Addr} {n c : Nat} {xs : Nat → Ac} (hI : IsRow aV 15 w0 a n c xs) (k : Nat) (hk : k < n) : ∃ b o, a = some ⟨b, o, none⟩ ∧ b < w0.heap.size ∧ ∀ w', Below w0.heap.size w0 w' →
    w'.cell? ⟨b, o + k * 15, none⟩ = some (.int .u8 (xs k).k) ∧ w'.cell? ⟨b, o + k * 15 + 1, none⟩ = some (.int .i64 (xs k).s.id) ∧ w'.rangeAt b (o + k * 15 + 1) (sV (xs k).s).toList := by
  obtain ⟨b, o, e, hb, h⟩ := row_at hI k hk
  refine ⟨b, o, e, hb, fun w' hw => ⟨h w' hw 0 _ rfl, h w' hw 1 _ rfl, fun j u hu => ?_⟩⟩
  have e1 := h w' hw (j + 1) u (by simpa [aV] using hu)
  rw [show o + k * 15 + 1 + j = o + k * 15 + (j + 1) by omega]
  exact e1
/-- What is done to the classes. -/
def actM (k : Int) : Int := k % 4
section
variable {w0 w w' : World} {t R sb : Nat} {L M : List Sp} {s : Sp}
/-- A tree and the document's tree, of the same classes, and a variable. -/
def Pl (w0 w : World) (t R : Nat) (L M : List Sp) : Prop := ∃ χ ct, (ct = 1 ∨ ct = 3) ∧ Fr w0 χ w ∧ Tre w χ ct t L ∧ Rt w χ 2 R M ∧ Fit M
def Pq (w0 w : World) (t R sb : Nat) (L M : List Sp) (s : Sp) : Prop := ∃ χ ct, (ct = 1 ∨ ct = 3) ∧ Fr w0 χ w ∧ Tre w χ ct t L ∧ Rt w χ 2 R M ∧ Fit M ∧ Bx w χ 4 sb (sV s) 34
def Po (w0 w : World) (t0 t R sb : Nat) (K L M : List Sp) (s : Sp) : Prop := ∃ χ ct cu, (ct = 1 ∨ ct = 3) ∧ (cu = 1 ∨ cu = 3) ∧ ct ≠ cu ∧ Fr w0 χ w ∧ Tre w χ cu t0 K ∧ Tre w χ ct t L ∧ Rt w χ 2 R M ∧ Fit M ∧ Bx w χ 4 sb (sV s) 34
theorem Pl.world (h : Pl w0 w t R L M) : Below w0.heap.size w0 w := by obtain ⟨χ, ct, _, hf, _⟩ := h; exact hf.world
theorem Pq.world (h : Pq w0 w t R sb L M s) : Below w0.heap.size w0 w := by obtain ⟨χ, ct, _, hf, _⟩ := h; exact hf.world
theorem Pq.box (h : Pq w0 w t R sb L M s) : Box w sb (sV s) 34 := by obtain ⟨χ, ct, _, _, _, _, _, hb⟩ := h; exact hb.1
theorem Po.box {t0 : Nat} {K : List Sp} (h : Po w0 w t0 t R sb K L M s) : Box w sb (sV s) 34 := by obtain ⟨χ, ct, cu, _, _, _, _, _, _, _, _, hb⟩ := h; exact hb.1
theorem Pq.pl (h : Pq w0 w t R sb L M s) : Pl w0 w t R L M := by obtain ⟨χ, ct, hc, hf, h1, h2, h3, hb⟩ := h; exact ⟨χ, ct, hc, hf, h1, h2, h3⟩
theorem Pl.below (h : Pl w0 w t R L M) (hb : Below w.heap.size w w') : Pl w0 w' t R L M := by
  obtain ⟨χ, ct, hc, hf, h1, h2, h3⟩ := h
  exact ⟨χ, ct, hc, hf.below hb, h1.below hb, h2.below hb, h3⟩
theorem Pq.below (h : Pq w0 w t R sb L M s) (hb : Below w.heap.size w w') : Pq w0 w' t R sb L M s := by
  obtain ⟨χ, ct, hc, hf, h1, h2, h3, h4⟩ := h
  exact ⟨χ, ct, hc, hf.below hb, h1.below hb, h2.below hb, h3, h4.below hb⟩
theorem Pq.drew (h : Pq w0 w t R sb L M s) : Pq w0 w.drew t R sb L M s := h.below ((Below.refl _ w).trans ⟨rfl, rfl, rfl, Nat.le_refl _, fun _ _ => rfl⟩)
theorem Pl.drew (h : Pl w0 w t R L M) : Pl w0 w.drew t R L M := h.below ((Below.refl _ w).trans ⟨rfl, rfl, rfl, Nat.le_refl _, fun _ _ => rfl⟩)
/-- A variable is made and holds a spec. -/
theorem Pl.var (h : Pl w0 w t R L M) (hb : Below w.heap.size w w') (hB : Box w' w.heap.size (sV s) 34) : Pq w0 w' t R w.heap.size L M s := by
  obtain ⟨χ, ct, hc, hf, h1, h2, h3⟩ := h
  exact ⟨recol χ w.heap.size 4, ct, hc, hf.next (Col.new (c := 4) hb 4) (by decide), h1.new hb 4, h2.new hb 4, h3, hB, recol_ge (Nat.le_refl _)⟩
theorem pq_add (h : Pq w0 w t R sb L M s) {p : Sp} (hp : p.ok) : Calls Tryz.prog 11 #[ptr t, .agg (sV p)] w fun e w' => e = .returned (eI (addE L p)) ∧ Pq w0 w' t R sb (addL L p) M s := by
  obtain ⟨χ, ct, hc, hf, h1, h2, h3, h4⟩ := h
  refine (add_any h1 hp).mono ?_
  rintro e w' ⟨e1, χ', hT, hC⟩
  exact ⟨e1, χ', ct, hc, hf.next hC (by rcases hc with rfl | rfl <;> decide), hT, h2.other hC (by rcases hc with rfl | rfl <;> decide), h3, h4.other hC (by rcases hc with rfl | rfl <;> decide)⟩
theorem pq_radd (h : Pq w0 w t R sb L M s) {p : Sp} (hp : p.ok) : Calls Tryz.prog 12 #[ptr R, .agg (sV p)] w fun e w' => e = .returned (eI (addE M p)) ∧ Pq w0 w' t R sb L (addL M p) s := by
  obtain ⟨χ, ct, hc, hf, h1, h2, h3, h4⟩ := h
  refine (radd_any h2 h3 hp).mono ?_
  rintro e w' ⟨e1, χ', hT, hC⟩
  exact ⟨e1, χ', ct, hc, hf.next hC (by decide), h1.other hC (by rcases hc with rfl | rfl <;> decide), hT, h3.add hp, h4.other hC (by decide)⟩
theorem pq_chg (h : Pq w0 w t R sb L M s) {p : Sp} (hp : p.ok) : Calls Tryz.prog 13 #[ptr t, .agg (sV p)] w fun e w' => e = .returned (eI (chgE L p)) ∧ Pq w0 w' t R sb (chL L p) M s := by
  obtain ⟨χ, ct, hc, hf, h1, h2, h3, h4⟩ := h
  refine (chg_any h1 hp).mono ?_
  rintro e w' ⟨e1, χ', hT, hC⟩
  exact ⟨e1, χ', ct, hc, hf.next hC (by rcases hc with rfl | rfl <;> decide), hT, h2.other hC (by rcases hc with rfl | rfl <;> decide), h3, h4.other hC (by rcases hc with rfl | rfl <;> decide)⟩
theorem pq_rchg (h : Pq w0 w t R sb L M s) {p : Sp} (hp : p.ok) : Calls Tryz.prog 14 #[ptr R, .agg (sV p)] w fun e w' => e = .returned (eI (chgE M p)) ∧ Pq w0 w' t R sb L (chL M p) s := by
  obtain ⟨χ, ct, hc, hf, h1, h2, h3, h4⟩ := h
  refine (rchg_any h2 h3 hp).mono ?_
  rintro e w' ⟨e1, χ', hT, hC⟩
  exact ⟨e1, χ', ct, hc, hf.next hC (by decide), h1.other hC (by rcases hc with rfl | rfl <;> decide), hT, h3.chg hp, h4.other hC (by decide)⟩
theorem pq_drop (h : Pq w0 w t R sb L M s) {k : Int} (hk : I64 k) : Calls Tryz.prog 15 #[ptr t, eI k] w fun e w' => e = .returned (eI (drpE L k)) ∧ Pq w0 w' t R sb (drpL L k) M s := by
  obtain ⟨χ, ct, hc, hf, h1, h2, h3, h4⟩ := h
  refine (drop_any h1 hk).mono ?_
  rintro e w' ⟨e1, χ', hT, hC⟩
  exact ⟨e1, χ', ct, hc, hf.next hC (by rcases hc with rfl | rfl <;> decide), hT, h2.other hC (by rcases hc with rfl | rfl <;> decide), h3, h4.other hC (by rcases hc with rfl | rfl <;> decide)⟩
theorem pq_rdrop (h : Pq w0 w t R sb L M s) (k : Int) : Calls Tryz.prog 16 #[ptr R, eI k] w fun e w' => e = .returned (eI (drpE M k)) ∧ Pq w0 w' t R sb L (drpL M k) s := by
  obtain ⟨χ, ct, hc, hf, h1, h2, h3, h4⟩ := h
  refine (rdrop_any h2 h3 k).mono ?_
  rintro e w' ⟨e1, χ', hT, hC⟩
  exact ⟨e1, χ', ct, hc, hf.next hC (by decide), h1.other hC (by rcases hc with rfl | rfl <;> decide), hT, h3.drop k, h4.other hC (by decide)⟩
theorem pq_copy (h : Pq w0 w t R sb L M s) : Calls Tryz.prog 17 #[ptr t] w fun e w' => ∃ C, e = .returned (ptr C) ∧ Po w0 w' t C R sb L L M s := by
  obtain ⟨χ, ct, hc, hf, h1, h2, h3, h4⟩ := h
  refine (copy_any h1 (4 - ct)).mono ?_
  rintro e w' ⟨C, rfl, hT, hb⟩
  have hd : 4 - ct = 1 ∨ 4 - ct = 3 := by omega
  exact ⟨C, rfl, _, 4 - ct, ct, hd, hc, by omega, hf.next (Col.new (c := 4 - ct) hb (4 - ct)) (by omega), h1.new hb _, hT, h2.new hb _, h3, h4.1.below hb, (recol_lt h4.1.lt).trans h4.2⟩
theorem po_drop {t0 : Nat} {K : List Sp} (h : Po w0 w t0 t R sb K L M s) {k : Int} (hk : I64 k) : Calls Tryz.prog 15 #[ptr t0, eI k] w fun e w' => e = .returned (eI (drpE K k)) ∧ Pq w0 w' t R sb L M s := by
  obtain ⟨χ, ct, cu, hc, hu, hn, hf, h0, h1, h2, h3, h4⟩ := h
  refine (drop_any h0 hk).mono ?_
  rintro e w' ⟨e1, χ', hT, hC⟩
  exact ⟨e1, χ', ct, hc, hf.next hC (by rcases hu with rfl | rfl <;> decide), h1.other hC hn, h2.other hC (by rcases hu with rfl | rfl <;> decide), h3, h4.other hC (by rcases hu with rfl | rfl <;> decide)⟩
theorem pl_same (h : Pl w0 w t R L L) {k : Int} (hk : I64 k) : Calls Tryz.prog 18 #[ptr t, ptr R, eI k] w fun e w' => e = .returned (.bool true) ∧ Pl w0 w' t R L L := by
  have h' := h
  obtain ⟨χ, ct, hc, hf, h1, h2, h3⟩ := h
  exact (same_any h1 h2 hk).mono fun e w' ⟨x, y⟩ => ⟨x, h'.below y⟩
theorem tnew {χ : Nat → Nat} (w : World) (c : Nat) : Calls Tryz.prog 10 #[] w fun e w' => ∃ C, w.heap.size ≤ C ∧ e = .returned (ptr C) ∧ Tre w' (recol χ w.heap.size c) c C [] ∧ Below w.heap.size w w' := by
  refine (new_any w χ c).mono ?_
  rintro e w' ⟨C, bm, ⟨_, hC⟩, rfl, hT, hb⟩
  refine ⟨C, hC, rfl, ⟨⟨bm, _, _, hT.say (fun k => ?_) (fun k => ?_) (by simp [idsL]) (fun k => by simp [idsL])⟩, Fit.nil⟩, hb⟩
  · rfl
  · rfl
theorem tnew_all (w : World) (c : Nat) : Calls Tryz.prog 10 #[] w fun e w' => ∃ C, w.heap.size ≤ C ∧ e = .returned (ptr C) ∧ (∀ χ, Tre w' (recol χ w.heap.size c) c C []) ∧ Below w.heap.size w w' := by
  refine (new_any w (fun _ => 0) c).mono ?_
  rintro e w' ⟨C, bm, ⟨hbm, hC⟩, rfl, hT, hb⟩
  refine ⟨C, hC, rfl, fun χ => ⟨⟨bm, _, _, T0.say (S := fun _ => Sp.zero) (R := fun _ => []) (ks := [0]) (G := fun _ => none) (Cp := fun _ => 0) ⟨hT.box, recol_ge hC, recol_ge hbm, hT.map, fun k => World.ownsRow_nil _ _ _ _, fun k g e => (by cases e), fun j k g _ e => (by cases e), fun k => (by simp), (by simp)⟩ (fun k => rfl) (fun k => rfl) (by simp [idsL]) (fun k => by simp [idsL])⟩, Fit.nil⟩, hb⟩
theorem rnil {χ : Nat → Nat} {w : World} {R : Nat} (hB : Box w R #[.slice none 0 0] 29) (hc : χ R = 2) : Rt w χ 2 R [] := ⟨_, hB, hc, World.ownsRow_nil _ _ _ _, fun g e => by cases e⟩
/-- Both are new. -/
theorem pl_new {w0 w1 w2 : World} {C : Nat} (h1 : ∀ χ, Tre w1 (recol χ w0.heap.size 1) 1 C []) (T1 : Below w0.heap.size w0 w1) (X : Box w2 w1.heap.size #[.slice none 0 0] 29) (T2 : Below w1.heap.size w1 w2) : Pl w0 w2 C w1.heap.size [] [] := by
  have k1 : Col (fun _ => 0) (recol (fun _ => 0) w0.heap.size 1) 1 w0 w1 := Col.new T1 1
  exact ⟨recol (recol (fun _ => 0) w0.heap.size 1) w1.heap.size 2, 1, .inl rfl, ((Fr.start w0).next k1 (by decide)).next (Col.new (c := 2) T2 2) (by decide), (h1 _).new T2 2, rnil X (recol_ge (Nat.le_refl _)), Fit.nil⟩
theorem long_any {a : Option Addr} {n c : Nat} (hc : n ≤ c) (w : World) : Calls Tryz.prog 9 #[.slice a n c] w fun e w' => e = .returned (.bool (decide (150 < n))) ∧ w = w' := by
  have j : (n : Int) ≤ (c : Int) := by omega
  by_cases h : 150 < n
  · have i : (150 : Int) < (n : Int) := by omega
    go_enter Tryz.func9, Tryz.ntmps9
    go_wp2
    go_ret
    exact ⟨by simp [h], rfl⟩
  · have i : ¬ (150 : Int) < (n : Int) := by omega
    go_enter Tryz.func9, Tryz.ntmps9
    go_wp2
    go_ret
    exact ⟨by simp [h], rfl⟩
end
end Go.Proofs.YtpopcnebndgblaaGreat.H
