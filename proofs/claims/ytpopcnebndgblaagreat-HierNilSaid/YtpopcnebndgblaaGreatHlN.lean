/- A tree that nobody made has nothing. Condition: numbers are what an int can hold. -/
import Derived.Test.YtpopcnebndgblaaGreatHmD
namespace Go.Proofs.YtpopcnebndgblaaGreat.H
open Go.ChangeShapes Go.WideShapes Go.Deep Go.RowKit
set_option linter.unusedVariables false
set_option linter.unusedSimpArgs false
section
variable {w w' : World} {v : Value}
/-- A tree that nobody made: nil, or zero. -/
def Nt (w : World) (v : Value) : Prop := v = .pointer none ∨ ∃ Z, v = ptr Z ∧ Box w Z #[.map none] 48
theorem Nt.below (h : Nt w v) (hb : Below w.heap.size w w') : Nt w' v := by
  rcases h with h | ⟨Z, h, hB⟩
  · exact .inl h
  · exact .inr ⟨Z, h, hB.below hb⟩
theorem nmade (h : Nt w v) : Calls Tryz.prog 29 #[v] w fun e w' => e = .returned (.bool false) ∧ w = w' := by
  rcases h with rfl | ⟨Z, rfl, hB⟩
  · exact made_nil w
  · exact made_zero hB
open Go.Maps Go.ChangeMaps in
theorem lookN {w : World} {k : Int} (hk : I64 k) : (Instr.lookup 46 (.map none) (eI k) false).run Tryz.prog w = .ok zK w := by
  have h := Maps.look_nil (P := Tryz.prog) (w := w) (t := 46) (e := 62) (k := 3) false (int_keyed Tryz.underlying3) Tryz.underlying46 (zero62v w) (key_of hk)
  exact h
set_option maxHeartbeats 4000000 in
set_option maxRecDepth 100000 in
theorem nat_any (h : Nt w v) {k : Int} (hk : I64 k) : Calls Tryz.prog 38 #[v, eI k] w fun e w' => e = .returned (.agg (kV Sp.zero none 0 0)) ∧ Below w.heap.size w w' := by
  have hl := fun W => lookN (w := W) hk
  rcases h with rfl | ⟨Z, rfl, hB⟩
  · have hp := nil_eq
    go_enter Tryz.func38, Tryz.ntmps38
    go_wp2_with (first
      | (refine wl_alloc 62 rfl rfl zero62 ?_; intro w1 X1 T1)
      | (refine wl_store (vs := kV Sp.zero none 0 0) 62 X1 rfl rfl rfl rfl size62 rfl (by omega : 0 + 15 ≤ 15) (kV_one _ _ _ _) (spl_kk _ _ _ _ _ _ _ _) ?_; intro w2 X2 K2))
    refine bodyPost_ret (v := .agg (kV Sp.zero none 0 0)) ?_ rfl ⟨rfl, K2.up T1 (Nat.le_refl _)⟩
    exact results_cell_row rfl _ _ _ _ _ _ _ rfl X2 Tryz.underlying62 rfl size62
  · have hp := ptr_eq Z
    go_enter Tryz.func38, Tryz.ntmps38
    go_upto_region 1 with (first
      | (refine wl_alloc 62 rfl rfl zero62 ?_; intro w1 X1 T1; have h1 := hB.below T1; have hl1 := hl w1; have c0 := h1.cell 0))
    clear hl
    go_wp2_with (first
      | (refine wl_store (vs := kV Sp.zero none 0 0) 62 X1 rfl rfl rfl rfl size62 rfl (by omega : 0 + 15 ≤ 15) (kV_one _ _ _ _) (spl_kk _ _ _ _ _ _ _ _) ?_; intro w2 X2 K2))
    refine bodyPost_ret (v := .agg (kV Sp.zero none 0 0)) ?_ rfl ⟨rfl, K2.up T1 (Nat.le_refl _)⟩
    exact results_cell_row rfl _ _ _ _ _ _ _ rfl X2 Tryz.underlying62 rfl size62
theorem nget (h : Nt w v) {k : Int} (hk : I64 k) : Calls Tryz.prog 20 #[v, eI k] w fun e w' => e = .returned (.tuple #[.agg (sV Sp.zero), .bool false]) ∧ Below w.heap.size w w' := by
  have := get_of (v := v) (k := k) (p := Sp.zero) (a := none) (n := 0) (q := 0) (w := w) (fun W hW => nat_any (h.below hW) hk)
  rw [decide_eq_true rfl] at this
  exact this
set_option maxHeartbeats 4000000 in
set_option maxRecDepth 100000 in
theorem nadd (h : Nt w v) {s : Sp} : Calls Tryz.prog 11 #[v, .agg (sV s)] w fun e w' => e = .returned (eI 1) ∧ Below w.heap.size w w' := by
  have hM := fun W (hW : Below w.heap.size w W) => nmade (h.below hW)
  have hM0 := nmade h
  go_enter Tryz.func11, Tryz.ntmps11
  go_wp2_with (first
    | (refine wl_box 34 rfl rfl rfl ?_; intro w1 X1 T1; have hM1 := hM w1 T1)
    | (go_at_call 29; (with_reducible refine hM1.mono ?_); rintro e w2 ⟨rfl, rfl⟩)
    | (go_at_call 29; (with_reducible refine hM0.mono ?_); rintro e w2 ⟨rfl, rfl⟩))
  go_ret
  exact ⟨rfl, T1⟩
set_option maxHeartbeats 4000000 in
set_option maxRecDepth 100000 in
theorem nchg (h : Nt w v) {s : Sp} : Calls Tryz.prog 13 #[v, .agg (sV s)] w fun e w' => e = .returned (eI 1) ∧ Below w.heap.size w w' := by
  have hM := fun W (hW : Below w.heap.size w W) => nmade (h.below hW)
  have hM0 := nmade h
  go_enter Tryz.func13, Tryz.ntmps13
  go_wp2_with (first
    | (refine wl_box 34 rfl rfl rfl ?_; intro w1 X1 T1; have hM1 := hM w1 T1)
    | (go_at_call 29; (with_reducible refine hM1.mono ?_); rintro e w2 ⟨rfl, rfl⟩)
    | (go_at_call 29; (with_reducible refine hM0.mono ?_); rintro e w2 ⟨rfl, rfl⟩))
  go_ret
  exact ⟨rfl, T1⟩
set_option maxHeartbeats 4000000 in
set_option maxRecDepth 100000 in
theorem ndrop (h : Nt w v) {k : Int} : Calls Tryz.prog 15 #[v, eI k] w fun e w' => e = .returned (eI 1) ∧ Below w.heap.size w w' := by
  have hM := fun W (hW : Below w.heap.size w W) => nmade (h.below hW)
  have hM0 := nmade h
  go_enter Tryz.func15, Tryz.ntmps15
  go_wp2_with (first
    | (refine wl_box 34 rfl rfl rfl ?_; intro w1 X1 T1; have hM1 := hM w1 T1)
    | (go_at_call 29; (with_reducible refine hM1.mono ?_); rintro e w2 ⟨rfl, rfl⟩)
    | (go_at_call 29; (with_reducible refine hM0.mono ?_); rintro e w2 ⟨rfl, rfl⟩))
  go_ret
  exact ⟨rfl, Below.refl _ _⟩
set_option maxHeartbeats 4000000 in
set_option maxRecDepth 100000 in
theorem nlen (h : Nt w v) : Calls Tryz.prog 21 #[v] w fun e w' => e = .returned (eI 0) ∧ w = w' := by
  have hM0 := nmade h
  go_enter Tryz.func21, Tryz.ntmps21
  go_wp2_with (first
    | (go_at_call 29; (with_reducible refine hM0.mono ?_); rintro e w2 ⟨rfl, rfl⟩))
  go_ret
  exact ⟨rfl, rfl⟩
set_option maxHeartbeats 4000000 in
set_option maxRecDepth 100000 in
theorem nunder (h : Nt w v) {k : Int} (hk : I64 k) : Calls Tryz.prog 23 #[v, eI k] w fun e w' => e = .returned (.slice none 0 0) ∧ Below w.heap.size w w' := by
  have hA := nat_any h hk
  have hf := kfield1 Sp.zero none 0 0
  have hN : ∀ W : World, W.ownsRow w.heap.size 3 1 (.slice none 0 0) 0 (rowC fI ([] : List Int)) := fun W => World.ownsRow_nil _ _ _ _
  go_enter Tryz.func23, Tryz.ntmps23
  go_wp2_with (first
    | (go_at_call 38; (with_reducible refine hA.mono ?_); rintro e w1 ⟨rfl, T1⟩)
    | (refine wpList_nomore rowI rfl _ _ rfl w.heap.size 0 (.slice none 0 0) _ rfl (hN _) rfl ?_))
  go_ret
  exact ⟨rfl, T1⟩
set_option maxHeartbeats 4000000 in
set_option maxRecDepth 100000 in
theorem npath (h : Nt w v) {k : Int} (hk : I64 k) : Calls Tryz.prog 24 #[v, eI k] w fun e w' => e = .returned (.slice none 0 0) ∧ Below w.heap.size w w' := by
  have hG := nget h hk
  go_enter Tryz.func24, Tryz.ntmps24
  go_wp2
  refine wp_scope_jumps 0 (fun _ _ => False) (fun _ _ => 0) rfl ?_ ?_
  · go_wp2
    go_step3
    go_wp2_with (first
      | (go_at_call 20; (with_reducible refine hG.mono ?_); rintro e w2 ⟨rfl, T2⟩)
      | (refine wl_alloc 34 rfl rfl zero34 ?_; intro w3 X3 T3; have S3 := ups T2 T3 T2.size)
      | (refine wl_store 34 X3 rfl rfl rfl rfl size34 rfl (by omega : 0 + 14 ≤ 14) (sV_one _) (spl_ss _ _) ?_; intro w4 X4 K4; have S4 := K4.up S3 T2.size))
    simp only [Exit.jump]
    go_ret
    exact ⟨rfl, S4⟩
  · intro a' w1 hf
    exact hf.elim
set_option maxHeartbeats 4000000 in
set_option maxRecDepth 100000 in
theorem nthose45 (h : Nt w v) {k : Int} (hk : I64 k) : Calls Tryz.prog 44 #[v, eI k, .func (.func 45) #[] #[]] w fun e w' => e = .returned (.slice none 0 0) ∧ Below w.heap.size w w' := by
  go_enter Tryz.func44, Tryz.ntmps44
  go_upto_region 3 with (first
    | (refine wl_sl 53 3 rfl rfl rfl Tryz.underlying53 (bsl3 _) ?_; intro w1 X1 T1))
  go_loopg [7, 8] 1 (fun gk s7 s8 wr => s7 = .slice none 0 0 ∧ ∃ Q : List Int, gk = Q.length ∧ Q.length ≤ 1 ∧ (∀ j ∈ Q, I64 j) ∧ LeftAt wr w.heap.size s8 Q ∧ Below w.heap.size w wr)
  case atStart => exact ⟨rfl, [k], rfl, Nat.le_refl _, by simpa using hk, LeftAt.new X1 (Nat.le_refl _), T1⟩
  case round =>
    clear X1 T1
    obtain ⟨rfl, Q, hgk, hQl, hQI, hLft, hT⟩ := hrel
    cases Q with
    | nil =>
      obtain ⟨g, o1, cap, rfl, hq1⟩ := hLft.len
      have hN : wr.ownsRow 0 3 1 (.slice none 0 0) 0 (([] : List Int).map eI) := World.ownsRow_nil _ _ _ _
      have hS := sort_own hN (by decide)
      clear hLft
      go_wp2_with (first
        | (go_at_call 58; (with_reducible refine hS.mono ?_); rintro e w5 ⟨rfl, ts, hts, O5, G5⟩))
      go_ret
      exact ⟨rfl, hT.grown G5 hT.size (fun g e => by cases e)⟩
    | cons x Q =>
      obtain rfl : Q = [] := by simpa using hQl
      obtain ⟨g, o1, cap, rfl, c0, hq1, hq2, o2, had, hLt⟩ := hLft.cut
      have hxI := hQI x (by simp)
      have h0 := h.below hT
      have i1 : (0 : Int) < (([] : List Int).length : Int) + 1 := by simp
      have i2 : (1 : Int) ≤ (([] : List Int).length : Int) + 1 := by simp
      have i3 : (([] : List Int).length : Int) + 1 ≤ (cap : Int) := by omega
      have hA := nat_any (h0.below (Below.refl _ wr).drew) hxI
      go_upto_region 5 with (fail)
      refine wp_region_held_drew (S := fun _ => True) (by kernel_rfl) trivial (fun hHeld => ?_)
      refine wpAnyH_take (i := 0) (v := ?_) (by simp only [List.getElem?_toArray, List.getElem?_cons_zero]; rfl) (by kernel_rfl) (by kernel_rfl) (by kernel_rfl) (by exact fun _ _ _ h => h) (Or.inl ⟨by rfl, ?_⟩) (by assumption) ?_
      rotate_left
      · (intro w hSw; (try dsimp only at hSw); go_simp; (try with_reducible rfl))
      try simp only [Act.put, List.setIfInBounds_toArray, List.set_cons_zero, List.set_cons_succ]
      refine wpAnyH_take (i := 1) (v := ?_) (by simp only [List.getElem?_toArray, List.getElem?_cons_zero, List.getElem?_cons_succ]; rfl) (by kernel_rfl) (by kernel_rfl) (by kernel_rfl) (by exact fun _ _ _ h => h) (Or.inl ⟨by rfl, ?_⟩) (by assumption) ?_
      rotate_left
      · (intro w hSw; (try dsimp only at hSw); go_simp; (try with_reducible rfl))
      try simp only [Act.put, List.setIfInBounds_toArray, List.set_cons_zero, List.set_cons_succ]
      refine wpAnyH_take (i := 2) (v := ?_) (by simp only [List.getElem?_toArray, List.getElem?_cons_zero, List.getElem?_cons_succ]; rfl) (by kernel_rfl) (by kernel_rfl) (by kernel_rfl) (by exact fun _ _ _ h => h) (Or.inl ⟨by rfl, ?_⟩) (by assumption) ?_
      rotate_left
      · (intro w hSw; (try dsimp only at hSw); go_simp; (try with_reducible rfl))
      try simp only [Act.put, List.setIfInBounds_toArray, List.set_cons_zero, List.set_cons_succ]
      refine wpAnyH_take (i := 3) (v := ?_) (by simp only [List.getElem?_toArray, List.getElem?_cons_zero, List.getElem?_cons_succ]; rfl) (by kernel_rfl) (by kernel_rfl) (by kernel_rfl) (by exact fun _ _ _ h => h) (Or.inl ⟨by rfl, ?_⟩) (by assumption) ?_
      rotate_left
      · (intro w hSw; (try dsimp only at hSw); go_simp; (try with_reducible rfl))
      try simp only [Act.put, List.setIfInBounds_toArray, List.set_cons_zero, List.set_cons_succ]
      refine wpAnyH_ready (rs := [4]) (by kernel_rfl) (by simp) ?_
      refine AllReadyH.cons (by simp only [List.getElem?_toArray, List.getElem?_cons_zero, List.getElem?_cons_succ]; rfl) (fun K hK => ?_) AllReadyH.nil
      go_simp
      go_at_call 38
      (with_reducible refine hA.mono ?_)
      rintro e w1 ⟨rfl, T1⟩
      have T1' : Below wr.heap.size wr w1 := undrew T1
      refine hK.out _ _ trivial (fun hHeld => ?_)
      clear hK K
      try simp only [Act.put, List.setIfInBounds_toArray, List.set_cons_zero, List.set_cons_succ]
      refine wpAnyH_take (i := 5) (v := .slice none 0 0) (by simp only [List.getElem?_toArray, List.getElem?_cons_zero, List.getElem?_cons_succ]; rfl) (by kernel_rfl) (by kernel_rfl) (by kernel_rfl) (by exact fun _ _ _ h => h) (Or.inl ⟨by rfl, fun w hSw => xl_field1 rfl rfl⟩) (by assumption) ?_
      try simp only [Act.put, List.setIfInBounds_toArray, List.set_cons_zero, List.set_cons_succ]
      refine wpAnyH_ready (rs := [6]) (by kernel_rfl) (by simp) ?_
      refine AllReadyH.cons (by simp only [List.getElem?_toArray, List.getElem?_cons_zero, List.getElem?_cons_succ]; rfl) (fun K hK => ?_) AllReadyH.nil
      refine st_left (hLt.below T1') rfl rfl rfl rfl (Y := []) (.inl ⟨rfl, rfl⟩) (by simp) (Nat.le_trans hT.size T1'.size) ?_
      intro v2 w2 hL2 G2 N2
      refine hK.out _ _ trivial (fun hHeld => ?_)
      clear hK K
      try simp only [Act.put, List.setIfInBounds_toArray, List.set_cons_zero, List.set_cons_succ]
      refine wpAnyH_take (i := 7) (v := ?_) (by simp only [List.getElem?_toArray, List.getElem?_cons_zero, List.getElem?_cons_succ]; rfl) (by kernel_rfl) (by kernel_rfl) (by kernel_rfl) (by exact fun _ _ _ h => h) (Or.inl ⟨by rfl, ?_⟩) (by assumption) ?_
      rotate_left
      · (intro w hSw; (try dsimp only at hSw); go_simp; (try with_reducible rfl))
      try simp only [Act.put, List.setIfInBounds_toArray, List.set_cons_zero, List.set_cons_succ]
      refine wpAnyH_done (by kernel_rfl) ?_ _
      have S1 := ups hT T1' hT.size
      have hgl := (hLt.lt g rfl)
      have S2 := S1.grown G2 S1.size (fun q e => by cases e; exact hgl.1)
      have hG := nget (h.below S2) hxI
      go_wp2_with (first
        | (go_at_call 20; (with_reducible refine hG.mono ?_); rintro e w3 ⟨rfl, T3⟩; have L3 := hL2.below T3; have S3 := ups S2 T3 S2.size)
        | (refine wl_alloc 34 rfl rfl zero34 ?_; intro w4 X4 T4; have L4 := L3.below T4; have S4 := ups S3 T4 S3.size)
        | (refine wl_store 34 X4 rfl rfl rfl rfl size34 rfl (by omega : 0 + 14 ≤ 14) (sV_one _) (spl_ss _ _) ?_; intro w6 X6 K6; have L6 := L4.but K6 (fun e => by have := (L3.lt _ e).2; omega); have S6 := K6.up S4 S3.size))
      go_roundg 0
      case measure => rw [hgk]; simp
      case rel => exact ⟨rfl, [], rfl, by simp, by simp, L6, S6⟩
set_option maxHeartbeats 4000000 in
set_option maxRecDepth 100000 in
theorem nthose46 (h : Nt w v) {k : Int} (hk : I64 k) : Calls Tryz.prog 44 #[v, eI k, .func (.func 46) #[] #[]] w fun e w' => e = .returned (.slice none 0 0) ∧ Below w.heap.size w w' := by
  go_enter Tryz.func44, Tryz.ntmps44
  go_upto_region 3 with (first
    | (refine wl_sl 53 3 rfl rfl rfl Tryz.underlying53 (bsl3 _) ?_; intro w1 X1 T1))
  go_loopg [7, 8] 1 (fun gk s7 s8 wr => s7 = .slice none 0 0 ∧ ∃ Q : List Int, gk = Q.length ∧ Q.length ≤ 1 ∧ (∀ j ∈ Q, I64 j) ∧ LeftAt wr w.heap.size s8 Q ∧ Below w.heap.size w wr)
  case atStart => exact ⟨rfl, [k], rfl, Nat.le_refl _, by simpa using hk, LeftAt.new X1 (Nat.le_refl _), T1⟩
  case round =>
    clear X1 T1
    obtain ⟨rfl, Q, hgk, hQl, hQI, hLft, hT⟩ := hrel
    cases Q with
    | nil =>
      obtain ⟨g, o1, cap, rfl, hq1⟩ := hLft.len
      have hN : wr.ownsRow 0 3 1 (.slice none 0 0) 0 (([] : List Int).map eI) := World.ownsRow_nil _ _ _ _
      have hS := sort_own hN (by decide)
      clear hLft
      go_wp2_with (first
        | (go_at_call 58; (with_reducible refine hS.mono ?_); rintro e w5 ⟨rfl, ts, hts, O5, G5⟩))
      go_ret
      exact ⟨rfl, hT.grown G5 hT.size (fun g e => by cases e)⟩
    | cons x Q =>
      obtain rfl : Q = [] := by simpa using hQl
      obtain ⟨g, o1, cap, rfl, c0, hq1, hq2, o2, had, hLt⟩ := hLft.cut
      have hxI := hQI x (by simp)
      have h0 := h.below hT
      have i1 : (0 : Int) < (([] : List Int).length : Int) + 1 := by simp
      have i2 : (1 : Int) ≤ (([] : List Int).length : Int) + 1 := by simp
      have i3 : (([] : List Int).length : Int) + 1 ≤ (cap : Int) := by omega
      have hA := nat_any (h0.below (Below.refl _ wr).drew) hxI
      go_upto_region 5 with (fail)
      refine wp_region_held_drew (S := fun _ => True) (by kernel_rfl) trivial (fun hHeld => ?_)
      refine wpAnyH_take (i := 0) (v := ?_) (by simp only [List.getElem?_toArray, List.getElem?_cons_zero]; rfl) (by kernel_rfl) (by kernel_rfl) (by kernel_rfl) (by exact fun _ _ _ h => h) (Or.inl ⟨by rfl, ?_⟩) (by assumption) ?_
      rotate_left
      · (intro w hSw; (try dsimp only at hSw); go_simp; (try with_reducible rfl))
      try simp only [Act.put, List.setIfInBounds_toArray, List.set_cons_zero, List.set_cons_succ]
      refine wpAnyH_take (i := 1) (v := ?_) (by simp only [List.getElem?_toArray, List.getElem?_cons_zero, List.getElem?_cons_succ]; rfl) (by kernel_rfl) (by kernel_rfl) (by kernel_rfl) (by exact fun _ _ _ h => h) (Or.inl ⟨by rfl, ?_⟩) (by assumption) ?_
      rotate_left
      · (intro w hSw; (try dsimp only at hSw); go_simp; (try with_reducible rfl))
      try simp only [Act.put, List.setIfInBounds_toArray, List.set_cons_zero, List.set_cons_succ]
      refine wpAnyH_take (i := 2) (v := ?_) (by simp only [List.getElem?_toArray, List.getElem?_cons_zero, List.getElem?_cons_succ]; rfl) (by kernel_rfl) (by kernel_rfl) (by kernel_rfl) (by exact fun _ _ _ h => h) (Or.inl ⟨by rfl, ?_⟩) (by assumption) ?_
      rotate_left
      · (intro w hSw; (try dsimp only at hSw); go_simp; (try with_reducible rfl))
      try simp only [Act.put, List.setIfInBounds_toArray, List.set_cons_zero, List.set_cons_succ]
      refine wpAnyH_take (i := 3) (v := ?_) (by simp only [List.getElem?_toArray, List.getElem?_cons_zero, List.getElem?_cons_succ]; rfl) (by kernel_rfl) (by kernel_rfl) (by kernel_rfl) (by exact fun _ _ _ h => h) (Or.inl ⟨by rfl, ?_⟩) (by assumption) ?_
      rotate_left
      · (intro w hSw; (try dsimp only at hSw); go_simp; (try with_reducible rfl))
      try simp only [Act.put, List.setIfInBounds_toArray, List.set_cons_zero, List.set_cons_succ]
      refine wpAnyH_ready (rs := [4]) (by kernel_rfl) (by simp) ?_
      refine AllReadyH.cons (by simp only [List.getElem?_toArray, List.getElem?_cons_zero, List.getElem?_cons_succ]; rfl) (fun K hK => ?_) AllReadyH.nil
      go_simp
      go_at_call 38
      (with_reducible refine hA.mono ?_)
      rintro e w1 ⟨rfl, T1⟩
      have T1' : Below wr.heap.size wr w1 := undrew T1
      refine hK.out _ _ trivial (fun hHeld => ?_)
      clear hK K
      try simp only [Act.put, List.setIfInBounds_toArray, List.set_cons_zero, List.set_cons_succ]
      refine wpAnyH_take (i := 5) (v := .slice none 0 0) (by simp only [List.getElem?_toArray, List.getElem?_cons_zero, List.getElem?_cons_succ]; rfl) (by kernel_rfl) (by kernel_rfl) (by kernel_rfl) (by exact fun _ _ _ h => h) (Or.inl ⟨by rfl, fun w hSw => xl_field1 rfl rfl⟩) (by assumption) ?_
      try simp only [Act.put, List.setIfInBounds_toArray, List.set_cons_zero, List.set_cons_succ]
      refine wpAnyH_ready (rs := [6]) (by kernel_rfl) (by simp) ?_
      refine AllReadyH.cons (by simp only [List.getElem?_toArray, List.getElem?_cons_zero, List.getElem?_cons_succ]; rfl) (fun K hK => ?_) AllReadyH.nil
      refine st_left (hLt.below T1') rfl rfl rfl rfl (Y := []) (.inl ⟨rfl, rfl⟩) (by simp) (Nat.le_trans hT.size T1'.size) ?_
      intro v2 w2 hL2 G2 N2
      refine hK.out _ _ trivial (fun hHeld => ?_)
      clear hK K
      try simp only [Act.put, List.setIfInBounds_toArray, List.set_cons_zero, List.set_cons_succ]
      refine wpAnyH_take (i := 7) (v := ?_) (by simp only [List.getElem?_toArray, List.getElem?_cons_zero, List.getElem?_cons_succ]; rfl) (by kernel_rfl) (by kernel_rfl) (by kernel_rfl) (by exact fun _ _ _ h => h) (Or.inl ⟨by rfl, ?_⟩) (by assumption) ?_
      rotate_left
      · (intro w hSw; (try dsimp only at hSw); go_simp; (try with_reducible rfl))
      try simp only [Act.put, List.setIfInBounds_toArray, List.set_cons_zero, List.set_cons_succ]
      refine wpAnyH_done (by kernel_rfl) ?_ _
      have S1 := ups hT T1' hT.size
      have hgl := (hLt.lt g rfl)
      have S2 := S1.grown G2 S1.size (fun q e => by cases e; exact hgl.1)
      have hG := nget (h.below S2) hxI
      go_wp2_with (first
        | (go_at_call 20; (with_reducible refine hG.mono ?_); rintro e w3 ⟨rfl, T3⟩; have L3 := hL2.below T3; have S3 := ups S2 T3 S2.size)
        | (refine wl_alloc 34 rfl rfl zero34 ?_; intro w4 X4 T4; have L4 := L3.below T4; have S4 := ups S3 T4 S3.size)
        | (refine wl_store 34 X4 rfl rfl rfl rfl size34 rfl (by omega : 0 + 14 ≤ 14) (sV_one _) (spl_ss _ _) ?_; intro w6 X6 K6; have L6 := L4.but K6 (fun e => by have := (L3.lt _ e).2; omega); have S6 := K6.up S4 S3.size))
      go_roundg 0
      case measure => rw [hgk]; simp
      case rel => exact ⟨rfl, [], rfl, by simp, by simp, L6, S6⟩
set_option maxHeartbeats 4000000 in
set_option maxRecDepth 100000 in
theorem nids (h : Nt w v)  : Calls Tryz.prog 22 #[v] w fun e w' => e = .returned (.slice none 0 0) ∧ Below w.heap.size w w' := by
  have hA := nthose45 h i64_zero
  go_enter Tryz.func22, Tryz.ntmps22
  go_wp2_with (first
    | (go_at_call 44; (with_reducible refine hA.mono ?_); rintro e w1 ⟨rfl, T1⟩))
  go_ret
  exact ⟨rfl, T1⟩
set_option maxHeartbeats 4000000 in
set_option maxRecDepth 100000 in
theorem nleaves (h : Nt w v) {k : Int} (hk : I64 k) : Calls Tryz.prog 25 #[v, eI k] w fun e w' => e = .returned (.slice none 0 0) ∧ Below w.heap.size w w' := by
  have hA := nthose46 h hk
  go_enter Tryz.func25, Tryz.ntmps25
  go_wp2_with (first
    | (go_at_call 44; (with_reducible refine hA.mono ?_); rintro e w1 ⟨rfl, T1⟩))
  go_ret
  exact ⟨rfl, T1⟩
theorem ncopy (h : Nt w v) : Calls Tryz.prog 17 #[v] w fun e w' => e = .returned (.pointer none) ∧ w = w' := by
  have hM0 := nmade h
  go_enter Tryz.func17, Tryz.ntmps17
  go_wp2_with (first
    | (go_at_call 29; (with_reducible refine hM0.mono ?_); rintro e w2 ⟨rfl, rfl⟩))
  go_ret
  exact ⟨rfl, rfl⟩
end
end Go.Proofs.YtpopcnebndgblaaGreat.H
