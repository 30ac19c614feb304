/- The bytes of a command, of a reply. No condition. -/
import Derived.Test.YtamjnekdfhocdaaDoorCmG
namespace Go.Proofs.YtamjnekdfhocdaaDoor
open Go.ChangeShapes Go.WideShapes Go.Deep Go.RowKit
set_option linter.unusedVariables false
set_option linter.unusedSimpArgs false
theorem zero69 : (Tryd.prog.info? 69).map (fun i => i.zero) = some (some (.agg (penC []))) := by
  have h := pen_zero
  cases hq : Tryd.prog.info? 69 with
  | none => rw [hq] at h; cases h
  | some i =>
    rw [hq] at h
    simp only [Option.map_some, Option.some.injEq, Prod.mk.injEq] at h ⊢
    exact h.1
def cmdV (C : Cm) : Value := if mayC C then .tuple #[.string (bs (bytC C)), .int .i64 0] else .tuple #[.string (bs []), .int .i64 2]
theorem encL_len : ∀ (l : List Fv), (∀ f ∈ l, f.ok) → (encL l).length ≤ 10 * l.length
  | [], _ => Nat.le_refl _
  | f :: l, h => by
    have h1 := encL_len l (fun g hg => h g (by simp [hg]))
    have h2 : (encF f).length ≤ 10 := by
      have ho := h f (by simp)
      cases f with
      | u n => exact numL_le10 ho
      | i z => exact numL_le10 (zg_lt ho)
      | b x => show 1 ≤ 10; omega
    rw [encL, List.length_append, List.length_cons]
    omega
theorem hasC_len (C : Cm) : (hasC C).length ≤ 14 := by
  have : ((hasC C).map Fv.ty).length ≤ 14 := by
    rw [hasC_ty]
    unfold tyC
    repeat' split
    all_goals decide
  simpa using this
theorem bytC_len {C : Cm} (h : C.ok) : (encL (hasC C)).length ≤ 140 := by
  have := encL_len (hasC C) (hasC_ok h)
  have := hasC_len C
  omega
theorem done_ok {w : World} {B : Nat} {L : List UInt8} (h : Pen w B L) (hL : L.length ≤ 4096) : Calls Tryd.prog 27 #[ptr B] w fun e w' => e = .returned (.tuple #[.string (bs L), .int .i64 0]) ∧ Below w.heap.size w w' := by
  have h := Done_any h (by omega)
  rw [show doneV L = _ from if_pos hL] at h
  exact h
set_option maxHeartbeats 16000000 in
set_option maxRecDepth 100000 in
theorem cmd_no (C : Cm) (w : World) (hN : Names w) (hk : C.k < 256) (hno : isK C.k = false) : Calls Tryd.prog 9 #[.agg (cmV C)] w fun e w' => e = .returned (.tuple #[.string (bs []), .int .i64 2]) ∧ Below w.heap.size w w' := by
  go_enter Tryd.func9, Tryd.ntmps9
  go_upto_region 2 with (first
    | (refine wl_box 32 rfl rfl rfl ?_; intro w1 X1 T1; have hc1 := (X1.cell 0).trans (cmV_0 C); have N1 := hN.up T1; have hA := Name_any N1 C.k hk)
    | (go_at_call 13; (with_reducible refine hA.mono ?_); rintro e w2 ⟨rfl, rfl⟩))
  clear hA hc1 hN
  refine wp_region_held_drew (S := fun W => Box W w.heap.size (cmV C) 32) (by kernel_rfl) X1.drew (fun hHeld => ?_)
  replace X1 := X1.drew
  replace T1 := T1.drew
  replace N1 : Names w1.drew := N1
  generalize w1.drew = w2 at *
  refine wpAnyH_take (i := 0) (v := ?_) (by simp only [List.getElem?_toArray, List.getElem?_cons_zero]; rfl) (by kernel_rfl) (by kernel_rfl) (by kernel_rfl) (by exact fun _ _ _ h => h) (Or.inl ⟨by rfl, ?_⟩) (by assumption) ?_
  rotate_left
  · (intro w hSw; (try dsimp only at hSw); go_simp; (try with_reducible rfl))
  try simp only [Act.put, List.setIfInBounds_toArray, List.set_cons_zero, List.set_cons_succ]
  refine wpAnyH_take (i := 1) (v := ?_) (by simp only [List.getElem?_toArray, List.getElem?_cons_zero, List.getElem?_cons_succ]; rfl) (by kernel_rfl) (by kernel_rfl) (by kernel_rfl) (by exact fun _ _ _ h => h) (Or.inl ⟨by rfl, ?_⟩) (by assumption) ?_
  rotate_left
  · (intro w hSw; (try dsimp only at hSw); go_simp; (try with_reducible rfl))
  try simp only [Act.put, List.setIfInBounds_toArray, List.set_cons_zero, List.set_cons_succ]
  refine wpAnyH_take (i := 2) (v := ?_) (by simp only [List.getElem?_toArray, List.getElem?_cons_zero, List.getElem?_cons_succ]; rfl) (by kernel_rfl) (by kernel_rfl) (by kernel_rfl) (by exact fun _ _ _ h => h) (Or.inl ⟨by rfl, ?_⟩) (by assumption) ?_
  rotate_left
  · (intro w hSw; (try dsimp only at hSw); go_simp; (try with_reducible rfl))
  try simp only [Act.put, List.setIfInBounds_toArray, List.set_cons_zero, List.set_cons_succ]
  refine wpAnyH_take (i := 3) (v := undef) (by simp only [List.getElem?_toArray, List.getElem?_cons_zero, List.getElem?_cons_succ]; rfl) (by kernel_rfl) (by kernel_rfl) (by kernel_rfl) (by exact fun _ _ _ h => h) (Or.inr ⟨by rfl, rfl⟩) (by assumption) ?_
  try simp only [Act.put, List.setIfInBounds_toArray, List.set_cons_zero, List.set_cons_succ]
  refine wpAnyH_take (i := 4) (v := undef) (by simp only [List.getElem?_toArray, List.getElem?_cons_zero, List.getElem?_cons_succ]; rfl) (by kernel_rfl) (by kernel_rfl) (by kernel_rfl) (by exact fun _ _ _ h => h) (Or.inr ⟨by rfl, rfl⟩) (by assumption) ?_
  try simp only [Act.put, List.setIfInBounds_toArray, List.set_cons_zero, List.set_cons_succ]
  refine wpAnyH_take (i := 5) (v := undef) (by simp only [List.getElem?_toArray, List.getElem?_cons_zero, List.getElem?_cons_succ]; rfl) (by kernel_rfl) (by kernel_rfl) (by kernel_rfl) (by exact fun _ _ _ h => h) (Or.inr ⟨by rfl, rfl⟩) (by assumption) ?_
  try simp only [Act.put, List.setIfInBounds_toArray, List.set_cons_zero, List.set_cons_succ]
  refine wpAnyH_take (i := 6) (v := undef) (by simp only [List.getElem?_toArray, List.getElem?_cons_zero, List.getElem?_cons_succ]; rfl) (by kernel_rfl) (by kernel_rfl) (by kernel_rfl) (by exact fun _ _ _ h => h) (Or.inr ⟨by rfl, rfl⟩) (by assumption) ?_
  try simp only [Act.put, List.setIfInBounds_toArray, List.set_cons_zero, List.set_cons_succ]
  refine wpAnyH_take (i := 7) (v := ?_) (by simp only [List.getElem?_toArray, List.getElem?_cons_zero, List.getElem?_cons_succ]; rfl) (by kernel_rfl) (by kernel_rfl) (by kernel_rfl) (by exact fun _ _ _ h => h) (Or.inl ⟨by rfl, ?_⟩) (by assumption) ?_
  rotate_left
  · (intro w hSw; (try dsimp only at hSw); go_simp; (try with_reducible rfl))
  try simp only [Act.put, List.setIfInBounds_toArray, List.set_cons_zero, List.set_cons_succ]
  refine wpAnyH_done (by kernel_rfl) ?_ _
  go_wp2
  go_ret2
  exact ⟨rfl, T1⟩
set_option maxHeartbeats 16000000 in
set_option maxRecDepth 100000 in
theorem cmd_other (C : Cm) (w : World) (hN : Names w) (hk : C.k < 256) (hno : isK C.k = true) (hown : ownC C ≠ C) : Calls Tryd.prog 9 #[.agg (cmV C)] w fun e w' => e = .returned (.tuple #[.string (bs []), .int .i64 2]) ∧ Below w.heap.size w w' := by
  go_enter Tryd.func9, Tryd.ntmps9
  go_upto_region 2 with (first
    | (refine wl_box 32 rfl rfl rfl ?_; intro w1 X1 T1; have hc1 := (X1.cell 0).trans (cmV_0 C); have N1 := hN.up T1; have hA := Name_any N1 C.k hk)
    | (go_at_call 13; (with_reducible refine hA.mono ?_); rintro e w2 ⟨rfl, rfl⟩))
  clear hA hc1 hN
  refine wp_region_held_drew (S := fun W => Box W w.heap.size (cmV C) 32) (by kernel_rfl) X1.drew (fun hHeld => ?_)
  replace X1 := X1.drew
  replace T1 := T1.drew
  replace N1 : Names w1.drew := N1
  generalize w1.drew = w2 at *
  refine wpAnyH_take (i := 0) (v := ?_) (by simp only [List.getElem?_toArray, List.getElem?_cons_zero]; rfl) (by kernel_rfl) (by kernel_rfl) (by kernel_rfl) (by exact fun _ _ _ h => h) (Or.inl ⟨by rfl, ?_⟩) (by assumption) ?_
  rotate_left
  · (intro w hSw; (try dsimp only at hSw); go_simp; (try with_reducible rfl))
  try simp only [Act.put, List.setIfInBounds_toArray, List.set_cons_zero, List.set_cons_succ]
  refine wpAnyH_take (i := 1) (v := ?_) (by simp only [List.getElem?_toArray, List.getElem?_cons_zero, List.getElem?_cons_succ]; rfl) (by kernel_rfl) (by kernel_rfl) (by kernel_rfl) (by exact fun _ _ _ h => h) (Or.inl ⟨by rfl, ?_⟩) (by assumption) ?_
  rotate_left
  · (intro w hSw; (try dsimp only at hSw); go_simp; (try with_reducible rfl))
  try simp only [Act.put, List.setIfInBounds_toArray, List.set_cons_zero, List.set_cons_succ]
  refine wpAnyH_take (i := 2) (v := ?_) (by simp only [List.getElem?_toArray, List.getElem?_cons_zero, List.getElem?_cons_succ]; rfl) (by kernel_rfl) (by kernel_rfl) (by kernel_rfl) (by exact fun _ _ _ h => h) (Or.inl ⟨by rfl, ?_⟩) (by assumption) ?_
  rotate_left
  · (intro w hSw; (try dsimp only at hSw); go_simp; (try with_reducible rfl))
  try simp only [Act.put, List.setIfInBounds_toArray, List.set_cons_zero, List.set_cons_succ]
  refine wpAnyH_take (i := 3) (v := .agg (cmV C)) (by simp only [List.getElem?_toArray, List.getElem?_cons_zero, List.getElem?_cons_succ]; rfl) (by kernel_rfl) (by kernel_rfl) (by kernel_rfl) (by exact fun _ _ _ h => h) (Or.inl ⟨by rfl, fun w hSw => xl_load 32 hSw rfl rfl Tryd.underlying32 rfl size32 (by omega : 0 + 24 ≤ 24) (cmV_all C)⟩) (by assumption) ?_
  try simp only [Act.put, List.setIfInBounds_toArray, List.set_cons_zero, List.set_cons_succ]
  refine wpAnyH_take (i := 5) (v := .agg (cmV C)) (by simp only [List.getElem?_toArray, List.getElem?_cons_zero, List.getElem?_cons_succ]; rfl) (by kernel_rfl) (by kernel_rfl) (by kernel_rfl) (by exact fun _ _ _ h => h) (Or.inl ⟨by rfl, fun w hSw => xl_load 32 hSw rfl rfl Tryd.underlying32 rfl size32 (by omega : 0 + 24 ≤ 24) (cmV_all C)⟩) (by assumption) ?_
  try simp only [Act.put, List.setIfInBounds_toArray, List.set_cons_zero, List.set_cons_succ]
  refine wpAnyH_ready (rs := [4]) (by kernel_rfl) (by simp) ?_
  refine AllReadyH.cons (by simp only [List.getElem?_toArray, List.getElem?_cons_zero, List.getElem?_cons_succ]; rfl) (fun K hK => ?_) AllReadyH.nil
  go_simp
  go_at_call 17
  (with_reducible refine (Own_any C w2).mono ?_)
  rintro e w3 ⟨rfl, T3⟩
  replace X1 := X1.below T3
  replace N1 := N1.up T3
  replace T1 := ups T1 T3 T1.size
  clear T3
  refine hK.out _ _ X1 (fun hHeld => ?_)
  clear hK K
  try simp only [Act.put, List.setIfInBounds_toArray, List.set_cons_zero, List.set_cons_succ]
  refine wpAnyH_take (i := 6) (v := .bool (!decide (ownC C = C))) (by simp only [List.getElem?_toArray, List.getElem?_cons_zero, List.getElem?_cons_succ]; rfl) (by kernel_rfl) (by kernel_rfl) (by kernel_rfl) (by exact fun _ _ _ h => h) (Or.inl ⟨by rfl, fun w hSw => xl_neq32 rfl rfl rfl⟩) (by assumption) ?_
  try simp only [Act.put, List.setIfInBounds_toArray, List.set_cons_zero, List.set_cons_succ]
  rw [show (!decide (ownC C = C)) = true from by simp [hown]]
  refine wpAnyH_take (i := 7) (v := ?_) (by simp only [List.getElem?_toArray, List.getElem?_cons_zero, List.getElem?_cons_succ]; rfl) (by kernel_rfl) (by kernel_rfl) (by kernel_rfl) (by exact fun _ _ _ h => h) (Or.inl ⟨by rfl, ?_⟩) (by assumption) ?_
  rotate_left
  · (intro w hSw; (try dsimp only at hSw); go_simp; (try with_reducible rfl))
  try simp only [Act.put, List.setIfInBounds_toArray, List.set_cons_zero, List.set_cons_succ]
  refine wpAnyH_done (by kernel_rfl) ?_ _
  go_wp2
  go_ret2
  exact ⟨rfl, T1⟩
set_option maxHeartbeats 16000000 in
set_option maxRecDepth 100000 in
theorem cmd_yes (C : Cm) (w : World) (hN : Names w) (ho : C.ok) (hno : isK C.k = true) (hown : ownC C = C) : Calls Tryd.prog 9 #[.agg (cmV C)] w fun e w' => e = .returned (.tuple #[.string (bs (bytC C)), .int .i64 0]) ∧ Below w.heap.size w w' := by
  have hk := ho.1
  go_enter Tryd.func9, Tryd.ntmps9
  go_upto_region 2 with (first
    | (refine wl_box 32 rfl rfl rfl ?_; intro w1 X1 T1; have hc1 := (X1.cell 0).trans (cmV_0 C); have N1 := hN.up T1; have hA := Name_any N1 C.k hk)
    | (go_at_call 13; (with_reducible refine hA.mono ?_); rintro e w2 ⟨rfl, rfl⟩))
  clear hA hc1 hN
  refine wp_region_held_drew (S := fun W => Box W w.heap.size (cmV C) 32) (by kernel_rfl) X1.drew (fun hHeld => ?_)
  replace X1 := X1.drew
  replace T1 := T1.drew
  replace N1 : Names w1.drew := N1
  generalize w1.drew = w2 at *
  refine wpAnyH_take (i := 0) (v := ?_) (by simp only [List.getElem?_toArray, List.getElem?_cons_zero]; rfl) (by kernel_rfl) (by kernel_rfl) (by kernel_rfl) (by exact fun _ _ _ h => h) (Or.inl ⟨by rfl, ?_⟩) (by assumption) ?_
  rotate_left
  · (intro w hSw; (try dsimp only at hSw); go_simp; (try with_reducible rfl))
  try simp only [Act.put, List.setIfInBounds_toArray, List.set_cons_zero, List.set_cons_succ]
  refine wpAnyH_take (i := 1) (v := ?_) (by simp only [List.getElem?_toArray, List.getElem?_cons_zero, List.getElem?_cons_succ]; rfl) (by kernel_rfl) (by kernel_rfl) (by kernel_rfl) (by exact fun _ _ _ h => h) (Or.inl ⟨by rfl, ?_⟩) (by assumption) ?_
  rotate_left
  · (intro w hSw; (try dsimp only at hSw); go_simp; (try with_reducible rfl))
  try simp only [Act.put, List.setIfInBounds_toArray, List.set_cons_zero, List.set_cons_succ]
  refine wpAnyH_take (i := 2) (v := ?_) (by simp only [List.getElem?_toArray, List.getElem?_cons_zero, List.getElem?_cons_succ]; rfl) (by kernel_rfl) (by kernel_rfl) (by kernel_rfl) (by exact fun _ _ _ h => h) (Or.inl ⟨by rfl, ?_⟩) (by assumption) ?_
  rotate_left
  · (intro w hSw; (try dsimp only at hSw); go_simp; (try with_reducible rfl))
  try simp only [Act.put, List.setIfInBounds_toArray, List.set_cons_zero, List.set_cons_succ]
  refine wpAnyH_take (i := 3) (v := .agg (cmV C)) (by simp only [List.getElem?_toArray, List.getElem?_cons_zero, List.getElem?_cons_succ]; rfl) (by kernel_rfl) (by kernel_rfl) (by kernel_rfl) (by exact fun _ _ _ h => h) (Or.inl ⟨by rfl, fun w hSw => xl_load 32 hSw rfl rfl Tryd.underlying32 rfl size32 (by omega : 0 + 24 ≤ 24) (cmV_all C)⟩) (by assumption) ?_
  try simp only [Act.put, List.setIfInBounds_toArray, List.set_cons_zero, List.set_cons_succ]
  refine wpAnyH_take (i := 5) (v := .agg (cmV C)) (by simp only [List.getElem?_toArray, List.getElem?_cons_zero, List.getElem?_cons_succ]; rfl) (by kernel_rfl) (by kernel_rfl) (by kernel_rfl) (by exact fun _ _ _ h => h) (Or.inl ⟨by rfl, fun w hSw => xl_load 32 hSw rfl rfl Tryd.underlying32 rfl size32 (by omega : 0 + 24 ≤ 24) (cmV_all C)⟩) (by assumption) ?_
  try simp only [Act.put, List.setIfInBounds_toArray, List.set_cons_zero, List.set_cons_succ]
  refine wpAnyH_ready (rs := [4]) (by kernel_rfl) (by simp) ?_
  refine AllReadyH.cons (by simp only [List.getElem?_toArray, List.getElem?_cons_zero, List.getElem?_cons_succ]; rfl) (fun K hK => ?_) AllReadyH.nil
  go_simp
  go_at_call 17
  (with_reducible refine (Own_any C w2).mono ?_)
  rintro e w3 ⟨rfl, T3⟩
  replace X1 := X1.below T3
  replace N1 := N1.up T3
  replace T1 := ups T1 T3 T1.size
  clear T3
  refine hK.out _ _ X1 (fun hHeld => ?_)
  clear hK K
  try simp only [Act.put, List.setIfInBounds_toArray, List.set_cons_zero, List.set_cons_succ]
  refine wpAnyH_take (i := 6) (v := .bool (!decide (ownC C = C))) (by simp only [List.getElem?_toArray, List.getElem?_cons_zero, List.getElem?_cons_succ]; rfl) (by kernel_rfl) (by kernel_rfl) (by kernel_rfl) (by exact fun _ _ _ h => h) (Or.inl ⟨by rfl, fun w hSw => xl_neq32 rfl rfl rfl⟩) (by assumption) ?_
  try simp only [Act.put, List.setIfInBounds_toArray, List.set_cons_zero, List.set_cons_succ]
  rw [show (!decide (ownC C = C)) = false from by simp [hown]]
  refine wpAnyH_take (i := 7) (v := ?_) (by simp only [List.getElem?_toArray, List.getElem?_cons_zero, List.getElem?_cons_succ]; rfl) (by kernel_rfl) (by kernel_rfl) (by kernel_rfl) (by exact fun _ _ _ h => h) (Or.inl ⟨by rfl, ?_⟩) (by assumption) ?_
  rotate_left
  · (intro w hSw; (try dsimp only at hSw); go_simp; (try with_reducible rfl))
  try simp only [Act.put, List.setIfInBounds_toArray, List.set_cons_zero, List.set_cons_succ]
  refine wpAnyH_done (by kernel_rfl) ?_ _
  have hkk := of_decide_eq_true (show decide (1 ≤ C.k ∧ C.k ≤ 7) = true from hno)
  have hlen := bytC_len ho
  have hkb : ((UInt8.ofNat C.k).toNat : Int) = (C.k : Int) := by rw [UInt8.toNat_ofNat', Nat.mod_eq_of_lt hk]
  have hS := T1.size
  clear hown hno hHeld
  go_wp2_with (first
    | (refine wl_alloc 69 rfl rfl zero69 ?_; intro w4 P4 T4; have X4 := X1.below T4; have hc4 := (X4.cell 0).trans (cmV_0 C); have hB := Byte_any (show Pen w4 _ [] from P4) (UInt8.ofNat C.k) (by simp); rw [hkb] at hB; have T5 := ups T1 T4 T1.size; have n4 : w.heap.size ≠ w3.heap.size := Nat.ne_of_lt X1.lt)
    | (go_at_call 24; (with_reducible refine hB.mono ?_); rintro e w5 ⟨rfl, P5, K5⟩; have X5 := K5.box X4 n4; have hH := had_any X5)
    | (go_at_call 26; (with_reducible refine hH.mono ?_); rintro e w6 ⟨rfl, rfl⟩; have hW := wr_cmd (B := w.heap.size) (t := 32) ho hkk.1 hkk.2 w5 w3.heap.size ([] ++ [UInt8.ofNat C.k]) P5 X5 (Ne.symm n4) (by simp; omega))
    | (go_at_call 25; (with_reducible refine hW.mono ?_); rintro e w7 ⟨rfl, P7, K7⟩; have hD := done_ok (L := bytC C) P7 (by show (encL (hasC C)).length + 1 ≤ 4096; omega); have T7 := K7.up (K5.up T5 hS) hS)
    | (go_at_call 27; (with_reducible refine hD.mono ?_); rintro e w8 ⟨rfl, T8⟩))
  go_ret2
  exact ⟨rfl, ups T7 T8 T7.size⟩
theorem Command_any (C : Cm) (w : World) (hN : Names w) (ho : C.ok) : Calls Tryd.prog 9 #[.agg (cmV C)] w fun e w' => e = .returned (cmdV C) ∧ Below w.heap.size w w' := by
  by_cases hk : 1 ≤ C.k ∧ C.k ≤ 7
  · by_cases hown : ownC C = C
    · rw [show cmdV C = _ from if_pos ⟨hk.1, hk.2, hown⟩]
      exact cmd_yes C w hN ho (decide_eq_true hk) hown
    · rw [show cmdV C = _ from if_neg (fun h => hown h.2.2)]
      exact cmd_other C w hN ho.1 (decide_eq_true hk) hown
  · rw [show cmdV C = _ from if_neg (fun h => hk ⟨h.1, h.2.1⟩)]
    exact cmd_no C w hN ho.1 (decide_eq_false hk)
def repV (r : Rp) : Value := .tuple #[.string (bs (bytR r)), .int .i64 0]
set_option maxHeartbeats 16000000 in
set_option maxRecDepth 100000 in
theorem Reply_any (r : Rp) (w : World) (ho : r.ok) : Calls Tryd.prog 11 #[.agg (rpV r)] w fun e w' => e = .returned (repV r) ∧ Below w.heap.size w w' := by
  have hlen : (encL (hasR r)).length ≤ 100 := encL_len (hasR r) ho
  unfold repV
  go_enter Tryd.func11, Tryd.ntmps11
  go_wp2_with (first
    | (refine wl_box 37 rfl rfl rfl ?_; intro w1 X1 T1; have hS := T1.size)
    | (refine wl_alloc 69 rfl rfl zero69 ?_; intro w4 P4 T4; have X4 := X1.below T4; have hB := Byte_any (show Pen w4 _ [] from P4) 0 (by simp); rw [show (((0 : UInt8).toNat : Nat) : Int) = 0 from rfl] at hB; have T5 := ups T1 T4 T1.size; have n4 : w.heap.size ≠ w1.heap.size := Nat.ne_of_lt X1.lt)
    | (go_at_call 24; (with_reducible refine hB.mono ?_); rintro e w5 ⟨rfl, P5, K5⟩; have X5 := K5.box X4 n4; have hW := wr_rep (B := w.heap.size) (t := 37) ho w5 w1.heap.size ([] ++ [0]) P5 X5 (Ne.symm n4) (by simp; omega))
    | (go_at_call 25; (with_reducible refine hW.mono ?_); rintro e w7 ⟨rfl, P7, K7⟩; have hD := done_ok (L := bytR r) P7 (by show (encL (hasR r)).length + 1 ≤ 4096; omega); have T7 := K7.up (K5.up T5 hS) hS)
    | (go_at_call 27; (with_reducible refine hD.mono ?_); rintro e w8 ⟨rfl, T8⟩))
  go_ret2
  exact ⟨rfl, ups T7 T8 T7.size⟩
end Go.Proofs.YtamjnekdfhocdaaDoor
