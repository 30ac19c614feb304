/- The document's book with one curve more. No condition but words, and how much there is. -/
import Derived.Test.YtjbpaapglamilaaAdY
namespace Go.Proofs.Ytjbpaapglamilaa.H
open Go.ChangeShapes Go.WideShapes Go.Deep Go.RowKit W
set_option linter.unusedVariables false
set_option linter.unusedSimpArgs false
section
variable {w w' : World} {base B n : Nat} {b : Bk} {v1 v2 v3 : Value} {k : Int} {x : Cv}
theorem own_new_ne {w : World} {B : Nat} {vs : Array Value} {t : TypeId} (h : Box w B vs t) {g n c : Nat} (hg : w.heap.size ≤ g) : (Value.slice (some ⟨g, 0, none⟩) n c).ownBlock ≠ some B := fun e => by
  have := own_num e
  have := h.lt
  omega
theorem rwith_zero (h : R0 base w B b v1 v2 v3) (hn : b.L.length ≤ 400 ∧ b.G.length ≤ 400) (hz : x = zC) : Calls Try.prog 27 #[ptr B, eI k, .agg (cA x)] w fun e w' => ∃ C, e = .returned (ptr C) ∧ Rw w.heap.size w' C b ∧ Below w.heap.size w w' := by
  have hzd := Lib.hid (decide_eq_true hz)
  clear hz
  go_enter Try.func27, Try.ntmps27
  go_wp2_with (first
    | (refine wl_box 25 rfl rfl rfl ?_; intro w1 X1 T1; have hC := rcopy0 (h.below T1) hn)
    | (go_at_call 41; (with_reducible refine hC.mono ?_); rintro e w2 ⟨C0, rfl, H2, T2⟩; have X2 := X1.below T2)
    | (refine wl_run (xl_load 25 X2 rfl rfl Try.underlying25 rfl size25 (by omega : 0 + 3 ≤ 3) (cA_all _)) rfl ?_)
    | (refine wl_run (xl_build0 25 built25 rfl) rfl ?_)
    | (refine wl_run (v := .bool true) ((xl_eq25 (p := x) (q := zC) rfl rfl rfl).trans (by rw [hzd.out])) rfl ?_))
  go_ret
  exact ⟨_, rfl, H2.mono T1.size, ups T1 T2 T1.size⟩
set_option maxHeartbeats 40000000 in
set_option maxRecDepth 100000 in
theorem rwith_more (h : R0 base w B b v1 v2 v3) (hbw : B < w.heap.size) (hn : b.L.length ≤ 400 ∧ b.G.length ≤ 400) (hz : x ≠ zC) : Calls Try.prog 27 #[ptr B, eI k, .agg (cA x)] w fun e w' => ∃ C, e = .returned (ptr C) ∧ Rw w.heap.size w' C ⟨b.R, insK b.L k x, b.G⟩ ∧ Below w.heap.size w w' := by
  have hzd := Lib.hid (decide_eq_false hz)
  have hil := lv_len b.L
  have hcl : (cvsK b.L).length = b.L.length := List.length_map _
  have hr1 := h.r1
  have hr2 := h.r2
  have hbx := h.box
  obtain ⟨N, hN⟩ : ∃ N, b.L.length = N := ⟨_, rfl⟩
  rw [hN] at hil hcl hr1 hr2
  obtain ⟨a7, cap7, rfl, hc7, _⟩ := own_len hr1
  obtain ⟨a8, cap8, rfl, hc8, _⟩ := own_len hr2
  have j1 : (N : Int) ≤ (cap7 : Int) := by omega
  have hilh := Lib.hid hil
  have hclh := Lib.hid hcl
  have hNh := Lib.hid hN
  have hN4 : N ≤ 400 := by omega
  clear hz hil hcl hN
  go_enter Try.func27, Try.ntmps27
  go_upto_region 5 with (first
    | (refine wl_box 25 rfl rfl rfl ?_; intro w1 X1 T1; have hC := rcopy0 (h.below T1) hn)
    | (go_at_call 41; (with_reducible refine hC.mono ?_); rintro e w2 ⟨C0, rfl, H2, T2⟩; have X2 := X1.below T2)
    | (refine wl_run (xl_load 25 X2 rfl rfl Try.underlying25 rfl size25 (by omega : 0 + 3 ≤ 3) (cA_all _)) rfl ?_)
    | (refine wl_run (xl_build0 25 built25 rfl) rfl ?_)
    | (refine wl_run (v := .bool false) ((xl_eq25 (p := x) (q := zC) rfl rfl rfl).trans (by rw [hzd.out])) rfl ?_))
  have S2 := ups T1 T2 T1.size
  obtain ⟨u1, u2, u3, HC⟩ := H2
  have hCx := HC.box
  have hCh := HC.hi
  have hw0 := X1.lt
  have hwn : w.heap.size ≤ w1.heap.size := T1.size
  have O3 := HC.r3
  have hBx7 := hbx.below S2
  have h7 := own_below hr1 S2
  have h8r := own_below hr2 S2
  have hneB : ¬ B = C0 := by omega
  have hneX : ¬ w.heap.size = C0 := by omega
  have hn8 : (Value.slice a8 N cap8).ownBlock ≠ some C0 := fun e => by have := (hr2.lt _ e).2; omega
  have hn3 : u3.ownBlock ≠ some C0 := own_not O3 hCx (by decide)
  have X1r := X2
  clear hC HC X1 X2 T1 T2 hzd
  rename World => wr
  go_loopw [8] (fun s8 wx => ∃ i : Nat, s8 = .int .i64 i ∧ i ≤ N ∧ (∀ j q, j < i → (idsK b.L)[j]? = some q → q < k) ∧ wx = wr) (fun s8 _ => N - (intOf s8).toNat)
  case atStart => exact ⟨0, rfl, by omega, fun j q hj => (by omega), rfl⟩
  case round =>
    obtain ⟨i, rfl, hiN, hlo, rfl⟩ := hrel
    have c1 : wr.cell? ⟨B, 1, none⟩ = some (.slice a7 N cap7) := (hBx7.cell 1).trans rfl
    have fin : (∀ q, (idsK b.L)[i]? = some q → ¬ q < k) → ∀ w18a w21a w18b w21b aa ca ab cb, Below wr.heap.size wr w18a → But C0 w18a w21a → Below w21a.heap.size w21a w18b → But C0 w18b w21b → Box w21b C0 (rA b.R (.slice aa (i + 1 + (N - i)) ca) (.slice ab (i + 1 + (N - i)) cb) u3) 60 → w18a.ownsRow wr.heap.size 3 1 (.slice aa (i + 1 + (N - i)) ca) (i + 1 + (N - i)) (rowC fI ((idsK b.L).take i ++ [k] ++ (idsK b.L).drop i)) → w18b.ownsRow w21a.heap.size 25 3 (.slice ab (i + 1 + (N - i)) cb) (i + 1 + (N - i)) (rowC fC ((cvsK b.L).take i ++ [x] ++ (cvsK b.L).drop i)) →
        ∃ C, Ending.returned (ptr C0) = .returned (ptr C) ∧ Rw w.heap.size w21b C ⟨b.R, insK b.L k x, b.G⟩ ∧ Below w.heap.size w w21b := fun hst w18a w21a w18b w21b aa ca ab cb b1 k1 b2 k2 Y Oa Ob => by
      have hsp := ins_split (c := x) hlo hst (by rw [hNh.out]; exact hiN)
      have e1 : idsK (insK b.L k x) = (idsK b.L).take i ++ [k] ++ (idsK b.L).drop i := by
        rw [hsp]; unfold idsK; rw [List.map_append, List.map_cons, List.map_take, List.map_drop]; simp
      have e2 : cvsK (insK b.L k x) = (cvsK b.L).take i ++ [x] ++ (cvsK b.L).drop i := by
        rw [hsp]; unfold cvsK; rw [List.map_append, List.map_cons, List.map_take, List.map_drop]; simp
      have e3 : i + 1 + (N - i) = (insK b.L k x).length := by rw [insK_len, hNh.out]; omega
      rw [← e1, e3] at Oa
      rw [← e2, e3] at Ob
      rw [e3] at Y
      have hs1 := b1.size
      have hs2 := k1.size
      have hs3 := b2.size
      have hsr : w.heap.size ≤ wr.heap.size := S2.size
      have nCa : (Value.slice aa (insK b.L k x).length ca).ownBlock ≠ some C0 := fun e => by have := (Oa.lt _ e).1; have := hCx.lt; omega
      have nCb : (Value.slice ab (insK b.L k x).length cb).ownBlock ≠ some C0 := fun e => by have := (Ob.lt _ e).1; have := hCx.lt; omega
      have r3 := own_but (own_below (own_but (own_below O3 b1) k1 hn3) b2) k2 hn3
      refine ⟨C0, rfl, ⟨_, _, u3, Y, by omega, own_mono (own_but (own_below (own_but Oa k1 nCa) b2) k2 nCa) hsr, own_mono (own_but Ob k2 nCb) (by omega), own_mono r3 hwn, fun g e e2 => ?_⟩, ?_⟩
      · have q1 := (Ob.lt g e).1
        have q2 := (O3.lt g e2).2
        omega
      · exact k2.up (ups (k1.up (ups S2 b1 S2.size) (by omega)) b2 (by omega)) (by omega)
    have hti7 := Lib.hid (show ((idsK b.L).take i).length = i by rw [List.length_take, hilh.out]; omega)
    have hdi7 := Lib.hid (show ((idsK b.L).drop i).length = N - i by rw [List.length_drop, hilh.out])
    have hti8 := Lib.hid (show ((cvsK b.L).take i).length = i by rw [List.length_take, hclh.out]; omega)
    have hdi8 := Lib.hid (show ((cvsK b.L).drop i).length = N - i by rw [List.length_drop, hclh.out])
    have hic7 : i ≤ cap7 := by omega
    have hic8 : i ≤ cap8 := by omega
    have hfi := Lib.hid fin
    have hloh := Lib.hid hlo
    clear fin hlo
    by_cases hlt : i < N
    · have i1 : (i : Int) < (N : Int) := by omega
      have i2 : (0 : Int) ≤ (i : Int) := by omega
      have hw1 : IntKind.i64.wrap ((i : Int) + 1) = (i : Int) + 1 := i64_id (by omega)
      obtain ⟨q, hq⟩ : ∃ q, (idsK b.L)[i]? = some q := ⟨_, List.getElem?_eq_getElem (by rw [hilh.out]; exact hlt)⟩
      obtain ⟨g, cap', e, _⟩ := (own_form h7).resolve_left (by omega)
      have h7' := h7
      rw [e] at h7' c1
      obtain rfl : cap7 = cap' := by injection e
      have d0 := own_i h7' hq
      have hc1 := Lib.hid e
      clear e h7'
      by_cases hqk : q < k
      · have hlo2 : ∀ j q, j < i + 1 → (idsK b.L)[j]? = some q → q < k := fun j q' hj hq' => by
          rcases Nat.lt_or_ge j i with h | h
          · exact hloh.out j q' h hq'
          · obtain rfl : j = i := by omega
            rw [hq] at hq'; cases hq'; exact hqk
        have hlo3 := Lib.hid hlo2
        clear hlo2 hq
        go_wp2_with fail
        exact ⟨⟨i + 1, rfl, by omega, hlo3.out, by first | rfl | trivial⟩, by simp [intOf]; omega⟩
      · have hst : ∀ q', (idsK b.L)[i]? = some q' → ¬ q' < k := fun q' hq' => by rw [hq] at hq'; cases hq'; exact hqk
        have hfin := Lib.hid (hfi.out hst)
        clear hst hq hfi
        go_upto_region 7 with fail
        have hB := drew_below wr
        refine wp_region_held_drew (S := fun W => Off (fun j => j = C0) wr W) (by kernel_rfl) (Off.of hB) (fun hHeld => ?_)
        refine wpAnyH_take (i := 0) (v := ?_) (by simp only [List.getElem?_toArray, List.getElem?_cons_zero]; rfl) (by kernel_rfl) (by kernel_rfl) (by kernel_rfl) (by exact fun _ _ _ h => h) (Or.inl ⟨by rfl, ?_⟩) (by assumption) ?_
        rotate_left
        · (intro w hSw; (try dsimp only at hSw); go_simp; (try with_reducible rfl))
        try simp only [Act.put, List.setIfInBounds_toArray, List.set_cons_zero, List.set_cons_succ]
        refine wpAnyH_take (i := 2) (v := ?_) (by simp only [List.getElem?_toArray, List.getElem?_cons_zero, List.getElem?_cons_succ]; rfl) (by kernel_rfl) (by kernel_rfl) (by kernel_rfl) (by exact fun _ _ _ h => h) (Or.inl ⟨by rfl, ?_⟩) (by assumption) ?_
        rotate_left
        · (intro w hSw; (try dsimp only at hSw); go_simp; (try with_reducible rfl))
        try simp only [Act.put, List.setIfInBounds_toArray, List.set_cons_zero, List.set_cons_succ]
        refine wpAnyH_take (i := 3) (v := ?_) (by simp only [List.getElem?_toArray, List.getElem?_cons_zero, List.getElem?_cons_succ]; rfl) (by kernel_rfl) (by kernel_rfl) (by kernel_rfl) (by exact fun _ _ _ h => h) (Or.inl ⟨by rfl, ?_⟩) (by assumption) ?_
        rotate_left
        · (intro w hSw; (try dsimp only at hSw); go_simp; (try with_reducible rfl))
        try simp only [Act.put, List.setIfInBounds_toArray, List.set_cons_zero, List.set_cons_succ]
        refine wpAnyH_take (i := 4) (v := ?_) (by simp only [List.getElem?_toArray, List.getElem?_cons_zero, List.getElem?_cons_succ]; rfl) (by kernel_rfl) (by kernel_rfl) (by kernel_rfl) (by exact fun _ _ _ h => h) (Or.inl ⟨by rfl, ?_⟩) (by assumption) ?_
        rotate_left
        · (intro w hSw; (try dsimp only at hSw); go_simp; (try with_reducible rfl))
        try simp only [Act.put, List.setIfInBounds_toArray, List.set_cons_zero, List.set_cons_succ]
        refine wpAnyH_take (i := 5) (v := .slice a7 N cap7) (by simp only [List.getElem?_toArray, List.getElem?_cons_zero, List.getElem?_cons_succ]; rfl) (by kernel_rfl) (by kernel_rfl) (by kernel_rfl) (by exact fun _ _ _ h => h) (Or.inl ⟨by rfl, fun w hSw => xl_cell 48 (hSw.box hBx7 hneB) rfl rfl Try.underlying48 rfl rfl⟩) (by assumption) ?_
        try simp only [Act.put, List.setIfInBounds_toArray, List.set_cons_zero, List.set_cons_succ]
        refine wpAnyH_take (i := 6) (v := ?_) (by simp only [List.getElem?_toArray, List.getElem?_cons_zero, List.getElem?_cons_succ]; rfl) (by kernel_rfl) (by kernel_rfl) (by kernel_rfl) (by exact fun _ _ _ h => h) (Or.inl ⟨by rfl, ?_⟩) (by assumption) ?_
        rotate_left
        · (intro w hSw; (try dsimp only at hSw); go_simp; (try with_reducible rfl))
        try simp only [Act.put, List.setIfInBounds_toArray, List.set_cons_zero, List.set_cons_succ]
        refine wpAnyH_take (i := 7) (v := sliced a7 0 i cap7 1) (by simp only [List.getElem?_toArray, List.getElem?_cons_zero, List.getElem?_cons_succ]; rfl) (by kernel_rfl) (by kernel_rfl) (by kernel_rfl) (by exact fun _ _ _ h => h) (Or.inl ⟨by rfl, fun w hSw => xl_pre ht44 hs44 rfl rfl rfl hic7⟩) (by assumption) ?_
        try simp only [Act.put, List.setIfInBounds_toArray, List.set_cons_zero, List.set_cons_succ]
        refine wpAnyH_take (i := 9) (v := ?_) (by simp only [List.getElem?_toArray, List.getElem?_cons_zero, List.getElem?_cons_succ]; rfl) (by kernel_rfl) (by kernel_rfl) (by kernel_rfl) (by exact fun _ _ _ h => h) (Or.inl ⟨by rfl, ?_⟩) (by assumption) ?_
        rotate_left
        · (intro w hSw; (try dsimp only at hSw); go_simp; (try with_reducible rfl))
        try simp only [Act.put, List.setIfInBounds_toArray, List.set_cons_zero, List.set_cons_succ]
        refine wpAnyH_take (i := 12) (v := ?_) (by simp only [List.getElem?_toArray, List.getElem?_cons_zero, List.getElem?_cons_succ]; rfl) (by kernel_rfl) (by kernel_rfl) (by kernel_rfl) (by exact fun _ _ _ h => h) (Or.inl ⟨by rfl, ?_⟩) (by assumption) ?_
        rotate_left
        · (intro w hSw; (try dsimp only at hSw); go_simp; (try with_reducible rfl))
        try simp only [Act.put, List.setIfInBounds_toArray, List.set_cons_zero, List.set_cons_succ]
        refine wpAnyH_take (i := 13) (v := ?_) (by simp only [List.getElem?_toArray, List.getElem?_cons_zero, List.getElem?_cons_succ]; rfl) (by kernel_rfl) (by kernel_rfl) (by kernel_rfl) (by exact fun _ _ _ h => h) (Or.inl ⟨by rfl, ?_⟩) (by assumption) ?_
        rotate_left
        · (intro w hSw; (try dsimp only at hSw); go_simp; (try with_reducible rfl))
        try simp only [Act.put, List.setIfInBounds_toArray, List.set_cons_zero, List.set_cons_succ]
        refine wpAnyH_take (i := 14) (v := ?_) (by simp only [List.getElem?_toArray, List.getElem?_cons_zero, List.getElem?_cons_succ]; rfl) (by kernel_rfl) (by kernel_rfl) (by kernel_rfl) (by exact fun _ _ _ h => h) (Or.inl ⟨by rfl, ?_⟩) (by assumption) ?_
        rotate_left
        · (intro w hSw; (try dsimp only at hSw); go_simp; (try with_reducible rfl))
        try simp only [Act.put, List.setIfInBounds_toArray, List.set_cons_zero, List.set_cons_succ]
        refine wpAnyH_take (i := 15) (v := .slice a7 N cap7) (by simp only [List.getElem?_toArray, List.getElem?_cons_zero, List.getElem?_cons_succ]; rfl) (by kernel_rfl) (by kernel_rfl) (by kernel_rfl) (by exact fun _ _ _ h => h) (Or.inl ⟨by rfl, fun w hSw => xl_cell 48 (hSw.box hBx7 hneB) rfl rfl Try.underlying48 rfl rfl⟩) (by assumption) ?_
        try simp only [Act.put, List.setIfInBounds_toArray, List.set_cons_zero, List.set_cons_succ]
        refine wpAnyH_take (i := 16) (v := ?_) (by simp only [List.getElem?_toArray, List.getElem?_cons_zero, List.getElem?_cons_succ]; rfl) (by kernel_rfl) (by kernel_rfl) (by kernel_rfl) (by exact fun _ _ _ h => h) (Or.inl ⟨by rfl, ?_⟩) (by assumption) ?_
        rotate_left
        · (intro w hSw; (try dsimp only at hSw); go_simp; (try with_reducible rfl))
        try simp only [Act.put, List.setIfInBounds_toArray, List.set_cons_zero, List.set_cons_succ]
        refine wpAnyH_take (i := 17) (v := sliced a7 i N cap7 1) (by simp only [List.getElem?_toArray, List.getElem?_cons_zero, List.getElem?_cons_succ]; rfl) (by kernel_rfl) (by kernel_rfl) (by kernel_rfl) (by exact fun _ _ _ h => h) (Or.inl ⟨by rfl, fun w hSw => xl_suf ht44 hs44 rfl rfl rfl hiN⟩) (by assumption) ?_
        try simp only [Act.put, List.setIfInBounds_toArray, List.set_cons_zero, List.set_cons_succ]
        refine wpAnyH_ready (rs := [1, 10]) (by kernel_rfl) (by simp) ?_
        refine AllReadyH.cons (by simp only [List.getElem?_toArray, List.getElem?_cons_zero, List.getElem?_cons_succ]; rfl) (fun K hK => ?_) ?_
        · refine st_sl0 48 3 rfl rfl Try.underlying48 size3 ?_
          intro waa Xa Ta
          have E1 := own_empty (α := Int) (s := 1) (f := fI) Xa hB.size
          replace hB := ups hB Ta hB.size
          refine hK.out _ _ (Off.of hB) (fun hHeld => ?_)
          clear hK K
          try simp only [Act.put, List.setIfInBounds_toArray, List.set_cons_zero, List.set_cons_succ]
          refine wpAnyH_ready (rs := [8, 10]) (by kernel_rfl) (by simp) ?_
          refine AllReadyH.cons (by simp only [List.getElem?_toArray, List.getElem?_cons_zero, List.getElem?_cons_succ]; rfl) (fun K hK => ?_) ?_
          · refine step_view rowI cellsI rfl _ _ rfl wr.heap.size _ _ [] ((idsK b.L).take i) 0 i rfl hti7.out rfl E1 rfl (view_pre cellsI (by decide) (own_below h7 hB) hiN) (by omega) hB.size ?_
            intro v8a w8a O8 G8
            rw [List.nil_append, Nat.zero_add] at O8
            replace hB := hB.grown G8 hB.size (fun g e => (E1.lt g e).1)
            refine hK.out _ _ (Off.of hB) (fun hHeld => ?_)
            clear hK K
            try simp only [Act.put, List.setIfInBounds_toArray, List.set_cons_zero, List.set_cons_succ]
            refine wpAnyH_ready (rs := [10]) (by kernel_rfl) (by simp) ?_
            refine AllReadyH.cons (by simp only [List.getElem?_toArray, List.getElem?_cons_zero, List.getElem?_cons_succ]; rfl) (fun K hK => ?_) AllReadyH.nil
            refine st_sl 48 3 rfl rfl rfl Try.underlying48 (bslI _) ?_
            intro wba X10 Tb
            replace O8 := own_below O8 Tb
            replace hB := ups hB Tb hB.size
            refine hK.out _ _ (Off.of hB) (fun hHeld => ?_)
            clear hK K
            try simp only [Act.put, List.setIfInBounds_toArray, List.set_cons_zero, List.set_cons_succ]
            have F10 := flat_new (f := fI) (x := k) X10 rfl
            refine wpAnyH_ready (rs := [11]) (by kernel_rfl) (by simp) ?_
            refine AllReadyH.cons (by simp only [List.getElem?_toArray, List.getElem?_cons_zero, List.getElem?_cons_succ]; rfl) (fun K hK => ?_) AllReadyH.nil
            refine step_more rowI cellsI rfl _ _ rfl wr.heap.size _ ((idsK b.L).take i) [k] i 1 hti7.out rfl rfl O8 _ 1 rfl F10 (by omega) hB.size ?_
            intro v11a w11a O11 G11 N11 _
            replace hB := hB.grown G11 hB.size (fun g e => (O8.lt g e).1)
            refine hK.out _ _ (Off.of hB) (fun hHeld => ?_)
            clear hK K
            try simp only [Act.put, List.setIfInBounds_toArray, List.set_cons_zero, List.set_cons_succ]
            refine wpAnyH_ready (rs := [18]) (by kernel_rfl) (by simp) ?_
            refine AllReadyH.cons (by simp only [List.getElem?_toArray, List.getElem?_cons_zero, List.getElem?_cons_succ]; rfl) (fun K hK => ?_) AllReadyH.nil
            refine step_view rowI cellsI rfl _ _ rfl wr.heap.size _ _ ((idsK b.L).take i ++ [k]) ((idsK b.L).drop i) (i + 1) (N - i) (by rw [List.length_append, hti7.out]; rfl) hdi7.out rfl O11 rfl (view_suf cellsI (by decide) (own_below h7 hB) hiN) (by omega) hB.size ?_
            intro v18a w18a O18a G18
            replace hB := hB.grown G18 hB.size (fun g e => (O11.lt g e).1)
            obtain ⟨a18a, c18a, rfl, _⟩ := own_len O18a
            refine hK.out _ _ (Off.of hB) (fun hHeld => ?_)
            clear hK K
            try simp only [Act.put, List.setIfInBounds_toArray, List.set_cons_zero, List.set_cons_succ]
            refine wpAnyH_take (i := 19) (v := ?_) (by simp only [List.getElem?_toArray, List.getElem?_cons_zero, List.getElem?_cons_succ]; rfl) (by kernel_rfl) (by kernel_rfl) (by kernel_rfl) (by exact fun _ _ _ h => h) (Or.inl ⟨by rfl, ?_⟩) (by assumption) ?_
            rotate_left
            · (intro w hSw; (try dsimp only at hSw); go_simp; (try with_reducible rfl))
            try simp only [Act.put, List.setIfInBounds_toArray, List.set_cons_zero, List.set_cons_succ]
            refine wpAnyH_take (i := 20) (v := ?_) (by simp only [List.getElem?_toArray, List.getElem?_cons_zero, List.getElem?_cons_succ]; rfl) (by kernel_rfl) (by kernel_rfl) (by kernel_rfl) (by exact fun _ _ _ h => h) (Or.inl ⟨by rfl, ?_⟩) (by assumption) ?_
            rotate_left
            · (intro w hSw; (try dsimp only at hSw); go_simp; (try with_reducible rfl))
            try simp only [Act.put, List.setIfInBounds_toArray, List.set_cons_zero, List.set_cons_succ]
            refine wpAnyH_ready (rs := [21]) (by kernel_rfl) (by simp) ?_
            refine AllReadyH.cons (by simp only [List.getElem?_toArray, List.getElem?_cons_zero, List.getElem?_cons_succ]; rfl) (fun K hK => ?_) AllReadyH.nil
            refine st_put 48 (v := .slice a18a (i + 1 + (N - i)) c18a) (hCx.below hB) rfl rfl rfl rfl rfl rfl size44 (by decide : 1 < 4) (rfl : _ = rA b.R (.slice a18a (i + 1 + (N - i)) c18a) u2 u3) ?_
            intro w21a Y21a K21a
            refine hK.out _ _ ((Off.of hB).but K21a (.inr rfl)) (fun hHeld => ?_)
            clear hK K
            try simp only [Act.put, List.setIfInBounds_toArray, List.set_cons_zero, List.set_cons_succ]
            refine wpAnyH_done (by kernel_rfl) ?_ _
            clear hHeld
            have hBa := hB
            clear hB
            have hBx8 : Box w21a B (rA b.R (.slice a7 N cap7) (.slice a8 N cap8) v3) 60 := K21a.box (hBx7.below hBa) hneB
            have XC8 : Box w21a w.heap.size (cA x) 25 := K21a.box (X1r.below hBa) hneX
            have h8 : w21a.ownsRow base 25 3 (.slice a8 N cap8) N (rowC fC (cvsK b.L)) := own_but (own_below h8r hBa) K21a hn8
            go_upto_region 8 with fail
            have hB := drew_below w21a
            refine wp_region_held_drew (S := fun W => Off (fun j => j = C0) w21a W) (by kernel_rfl) (Off.of hB) (fun hHeld => ?_)
            refine wpAnyH_take (i := 0) (v := ?_) (by simp only [List.getElem?_toArray, List.getElem?_cons_zero]; rfl) (by kernel_rfl) (by kernel_rfl) (by kernel_rfl) (by exact fun _ _ _ h => h) (Or.inl ⟨by rfl, ?_⟩) (by assumption) ?_
            rotate_left
            · (intro w hSw; (try dsimp only at hSw); go_simp; (try with_reducible rfl))
            try simp only [Act.put, List.setIfInBounds_toArray, List.set_cons_zero, List.set_cons_succ]
            refine wpAnyH_take (i := 2) (v := ?_) (by simp only [List.getElem?_toArray, List.getElem?_cons_zero, List.getElem?_cons_succ]; rfl) (by kernel_rfl) (by kernel_rfl) (by kernel_rfl) (by exact fun _ _ _ h => h) (Or.inl ⟨by rfl, ?_⟩) (by assumption) ?_
            rotate_left
            · (intro w hSw; (try dsimp only at hSw); go_simp; (try with_reducible rfl))
            try simp only [Act.put, List.setIfInBounds_toArray, List.set_cons_zero, List.set_cons_succ]
            refine wpAnyH_take (i := 3) (v := ?_) (by simp only [List.getElem?_toArray, List.getElem?_cons_zero, List.getElem?_cons_succ]; rfl) (by kernel_rfl) (by kernel_rfl) (by kernel_rfl) (by exact fun _ _ _ h => h) (Or.inl ⟨by rfl, ?_⟩) (by assumption) ?_
            rotate_left
            · (intro w hSw; (try dsimp only at hSw); go_simp; (try with_reducible rfl))
            try simp only [Act.put, List.setIfInBounds_toArray, List.set_cons_zero, List.set_cons_succ]
            refine wpAnyH_take (i := 4) (v := ?_) (by simp only [List.getElem?_toArray, List.getElem?_cons_zero, List.getElem?_cons_succ]; rfl) (by kernel_rfl) (by kernel_rfl) (by kernel_rfl) (by exact fun _ _ _ h => h) (Or.inl ⟨by rfl, ?_⟩) (by assumption) ?_
            rotate_left
            · (intro w hSw; (try dsimp only at hSw); go_simp; (try with_reducible rfl))
            try simp only [Act.put, List.setIfInBounds_toArray, List.set_cons_zero, List.set_cons_succ]
            refine wpAnyH_take (i := 5) (v := .slice a8 N cap8) (by simp only [List.getElem?_toArray, List.getElem?_cons_zero, List.getElem?_cons_succ]; rfl) (by kernel_rfl) (by kernel_rfl) (by kernel_rfl) (by exact fun _ _ _ h => h) (Or.inl ⟨by rfl, fun w hSw => xl_cell 23 (hSw.box hBx8 hneB) rfl rfl Try.underlying23 rfl rfl⟩) (by assumption) ?_
            try simp only [Act.put, List.setIfInBounds_toArray, List.set_cons_zero, List.set_cons_succ]
            refine wpAnyH_take (i := 6) (v := ?_) (by simp only [List.getElem?_toArray, List.getElem?_cons_zero, List.getElem?_cons_succ]; rfl) (by kernel_rfl) (by kernel_rfl) (by kernel_rfl) (by exact fun _ _ _ h => h) (Or.inl ⟨by rfl, ?_⟩) (by assumption) ?_
            rotate_left
            · (intro w hSw; (try dsimp only at hSw); go_simp; (try with_reducible rfl))
            try simp only [Act.put, List.setIfInBounds_toArray, List.set_cons_zero, List.set_cons_succ]
            refine wpAnyH_take (i := 7) (v := sliced a8 0 i cap8 3) (by simp only [List.getElem?_toArray, List.getElem?_cons_zero, List.getElem?_cons_succ]; rfl) (by kernel_rfl) (by kernel_rfl) (by kernel_rfl) (by exact fun _ _ _ h => h) (Or.inl ⟨by rfl, fun w hSw => xl_pre ht45 hs45 rfl rfl rfl hic8⟩) (by assumption) ?_
            try simp only [Act.put, List.setIfInBounds_toArray, List.set_cons_zero, List.set_cons_succ]
            refine wpAnyH_take (i := 9) (v := .agg (cA x)) (by simp only [List.getElem?_toArray, List.getElem?_cons_zero, List.getElem?_cons_succ]; rfl) (by kernel_rfl) (by kernel_rfl) (by kernel_rfl) (by exact fun _ _ _ h => h) (Or.inl ⟨by rfl, fun w hSw => xl_load 25 (hSw.box XC8 hneX) rfl rfl Try.underlying25 rfl size25 (by omega : 0 + 3 ≤ 3) (cA_all _)⟩) (by assumption) ?_
            try simp only [Act.put, List.setIfInBounds_toArray, List.set_cons_zero, List.set_cons_succ]
            refine wpAnyH_take (i := 12) (v := ?_) (by simp only [List.getElem?_toArray, List.getElem?_cons_zero, List.getElem?_cons_succ]; rfl) (by kernel_rfl) (by kernel_rfl) (by kernel_rfl) (by exact fun _ _ _ h => h) (Or.inl ⟨by rfl, ?_⟩) (by assumption) ?_
            rotate_left
            · (intro w hSw; (try dsimp only at hSw); go_simp; (try with_reducible rfl))
            try simp only [Act.put, List.setIfInBounds_toArray, List.set_cons_zero, List.set_cons_succ]
            refine wpAnyH_take (i := 13) (v := ?_) (by simp only [List.getElem?_toArray, List.getElem?_cons_zero, List.getElem?_cons_succ]; rfl) (by kernel_rfl) (by kernel_rfl) (by kernel_rfl) (by exact fun _ _ _ h => h) (Or.inl ⟨by rfl, ?_⟩) (by assumption) ?_
            rotate_left
            · (intro w hSw; (try dsimp only at hSw); go_simp; (try with_reducible rfl))
            try simp only [Act.put, List.setIfInBounds_toArray, List.set_cons_zero, List.set_cons_succ]
            refine wpAnyH_take (i := 14) (v := ?_) (by simp only [List.getElem?_toArray, List.getElem?_cons_zero, List.getElem?_cons_succ]; rfl) (by kernel_rfl) (by kernel_rfl) (by kernel_rfl) (by exact fun _ _ _ h => h) (Or.inl ⟨by rfl, ?_⟩) (by assumption) ?_
            rotate_left
            · (intro w hSw; (try dsimp only at hSw); go_simp; (try with_reducible rfl))
            try simp only [Act.put, List.setIfInBounds_toArray, List.set_cons_zero, List.set_cons_succ]
            refine wpAnyH_take (i := 15) (v := .slice a8 N cap8) (by simp only [List.getElem?_toArray, List.getElem?_cons_zero, List.getElem?_cons_succ]; rfl) (by kernel_rfl) (by kernel_rfl) (by kernel_rfl) (by exact fun _ _ _ h => h) (Or.inl ⟨by rfl, fun w hSw => xl_cell 23 (hSw.box hBx8 hneB) rfl rfl Try.underlying23 rfl rfl⟩) (by assumption) ?_
            try simp only [Act.put, List.setIfInBounds_toArray, List.set_cons_zero, List.set_cons_succ]
            refine wpAnyH_take (i := 16) (v := ?_) (by simp only [List.getElem?_toArray, List.getElem?_cons_zero, List.getElem?_cons_succ]; rfl) (by kernel_rfl) (by kernel_rfl) (by kernel_rfl) (by exact fun _ _ _ h => h) (Or.inl ⟨by rfl, ?_⟩) (by assumption) ?_
            rotate_left
            · (intro w hSw; (try dsimp only at hSw); go_simp; (try with_reducible rfl))
            try simp only [Act.put, List.setIfInBounds_toArray, List.set_cons_zero, List.set_cons_succ]
            refine wpAnyH_take (i := 17) (v := sliced a8 i N cap8 3) (by simp only [List.getElem?_toArray, List.getElem?_cons_zero, List.getElem?_cons_succ]; rfl) (by kernel_rfl) (by kernel_rfl) (by kernel_rfl) (by exact fun _ _ _ h => h) (Or.inl ⟨by rfl, fun w hSw => xl_suf ht45 hs45 rfl rfl rfl hiN⟩) (by assumption) ?_
            try simp only [Act.put, List.setIfInBounds_toArray, List.set_cons_zero, List.set_cons_succ]
            refine wpAnyH_ready (rs := [1, 10]) (by kernel_rfl) (by simp) ?_
            refine AllReadyH.cons (by simp only [List.getElem?_toArray, List.getElem?_cons_zero, List.getElem?_cons_succ]; rfl) (fun K hK => ?_) ?_
            · refine st_sl0 23 25 rfl rfl Try.underlying23 size25 ?_
              intro wab Xa Ta
              have E1 := own_empty (α := Cv) (s := 3) (f := fC) Xa hB.size
              replace hB := ups hB Ta hB.size
              refine hK.out _ _ (Off.of hB) (fun hHeld => ?_)
              clear hK K
              try simp only [Act.put, List.setIfInBounds_toArray, List.set_cons_zero, List.set_cons_succ]
              refine wpAnyH_ready (rs := [8, 10]) (by kernel_rfl) (by simp) ?_
              refine AllReadyH.cons (by simp only [List.getElem?_toArray, List.getElem?_cons_zero, List.getElem?_cons_succ]; rfl) (fun K hK => ?_) ?_
              · refine step_view rowCv cellsC rfl _ _ rfl w21a.heap.size _ _ [] ((cvsK b.L).take i) 0 i rfl hti8.out rfl E1 rfl (view_pre cellsC (by decide) (own_below h8 hB) hiN) (by omega) hB.size ?_
                intro v8b w8b O8 G8
                rw [List.nil_append, Nat.zero_add] at O8
                replace hB := hB.grown G8 hB.size (fun g e => (E1.lt g e).1)
                refine hK.out _ _ (Off.of hB) (fun hHeld => ?_)
                clear hK K
                try simp only [Act.put, List.setIfInBounds_toArray, List.set_cons_zero, List.set_cons_succ]
                refine wpAnyH_ready (rs := [10]) (by kernel_rfl) (by simp) ?_
                refine AllReadyH.cons (by simp only [List.getElem?_toArray, List.getElem?_cons_zero, List.getElem?_cons_succ]; rfl) (fun K hK => ?_) AllReadyH.nil
                refine st_sl 23 25 rfl rfl rfl Try.underlying23 (bslC _) ?_
                intro wbb X10 Tb
                replace O8 := own_below O8 Tb
                replace hB := ups hB Tb hB.size
                refine hK.out _ _ (Off.of hB) (fun hHeld => ?_)
                clear hK K
                try simp only [Act.put, List.setIfInBounds_toArray, List.set_cons_zero, List.set_cons_succ]
                have F10 := flat_new (f := fC) (x := x) X10 rfl
                refine wpAnyH_ready (rs := [11]) (by kernel_rfl) (by simp) ?_
                refine AllReadyH.cons (by simp only [List.getElem?_toArray, List.getElem?_cons_zero, List.getElem?_cons_succ]; rfl) (fun K hK => ?_) AllReadyH.nil
                refine step_more rowCv cellsC rfl _ _ rfl w21a.heap.size _ ((cvsK b.L).take i) [x] i 1 hti8.out rfl rfl O8 _ 1 rfl F10 (by omega) hB.size ?_
                intro v11b w11b O11 G11 N11 _
                replace hB := hB.grown G11 hB.size (fun g e => (O8.lt g e).1)
                refine hK.out _ _ (Off.of hB) (fun hHeld => ?_)
                clear hK K
                try simp only [Act.put, List.setIfInBounds_toArray, List.set_cons_zero, List.set_cons_succ]
                refine wpAnyH_ready (rs := [18]) (by kernel_rfl) (by simp) ?_
                refine AllReadyH.cons (by simp only [List.getElem?_toArray, List.getElem?_cons_zero, List.getElem?_cons_succ]; rfl) (fun K hK => ?_) AllReadyH.nil
                refine step_view rowCv cellsC rfl _ _ rfl w21a.heap.size _ _ ((cvsK b.L).take i ++ [x]) ((cvsK b.L).drop i) (i + 1) (N - i) (by rw [List.length_append, hti8.out]; rfl) hdi8.out rfl O11 rfl (view_suf cellsC (by decide) (own_below h8 hB) hiN) (by omega) hB.size ?_
                intro v18b w18b O18b G18
                replace hB := hB.grown G18 hB.size (fun g e => (O11.lt g e).1)
                obtain ⟨a18b, c18b, rfl, _⟩ := own_len O18b
                refine hK.out _ _ (Off.of hB) (fun hHeld => ?_)
                clear hK K
                try simp only [Act.put, List.setIfInBounds_toArray, List.set_cons_zero, List.set_cons_succ]
                refine wpAnyH_take (i := 19) (v := ?_) (by simp only [List.getElem?_toArray, List.getElem?_cons_zero, List.getElem?_cons_succ]; rfl) (by kernel_rfl) (by kernel_rfl) (by kernel_rfl) (by exact fun _ _ _ h => h) (Or.inl ⟨by rfl, ?_⟩) (by assumption) ?_
                rotate_left
                · (intro w hSw; (try dsimp only at hSw); go_simp; (try with_reducible rfl))
                try simp only [Act.put, List.setIfInBounds_toArray, List.set_cons_zero, List.set_cons_succ]
                refine wpAnyH_take (i := 20) (v := ?_) (by simp only [List.getElem?_toArray, List.getElem?_cons_zero, List.getElem?_cons_succ]; rfl) (by kernel_rfl) (by kernel_rfl) (by kernel_rfl) (by exact fun _ _ _ h => h) (Or.inl ⟨by rfl, ?_⟩) (by assumption) ?_
                rotate_left
                · (intro w hSw; (try dsimp only at hSw); go_simp; (try with_reducible rfl))
                try simp only [Act.put, List.setIfInBounds_toArray, List.set_cons_zero, List.set_cons_succ]
                refine wpAnyH_ready (rs := [21]) (by kernel_rfl) (by simp) ?_
                refine AllReadyH.cons (by simp only [List.getElem?_toArray, List.getElem?_cons_zero, List.getElem?_cons_succ]; rfl) (fun K hK => ?_) AllReadyH.nil
                refine st_put 23 (v := .slice a18b (i + 1 + (N - i)) c18b) (Y21a.below hB) rfl rfl rfl rfl rfl rfl size45 (by decide : 2 < 4) (rfl : _ = rA b.R (.slice a18a (i + 1 + (N - i)) c18a) (.slice a18b (i + 1 + (N - i)) c18b) u3) ?_
                intro w21b Y21b K21b
                refine hK.out _ _ ((Off.of hB).but K21b (.inr rfl)) (fun hHeld => ?_)
                clear hK K
                try simp only [Act.put, List.setIfInBounds_toArray, List.set_cons_zero, List.set_cons_succ]
                refine wpAnyH_done (by kernel_rfl) ?_ _
                clear hHeld
                go_wp2_with fail
                all_goals go_ret
                all_goals exact hfin.out _ _ _ _ _ _ _ _ hBa K21a hB K21b Y21b O18a O18b
              refine AllReadyH.cons (by simp only [List.getElem?_toArray, List.getElem?_cons_zero, List.getElem?_cons_succ]; rfl) (fun K hK => ?_) AllReadyH.nil
              refine st_sl 23 25 rfl rfl rfl Try.underlying23 (bslC _) ?_
              intro wbb X10 Tb
              have ne10 := own_lt_ne E1 (Nat.le_refl _)
              replace E1 := own_below E1 Tb
              replace hB := ups hB Tb hB.size
              refine hK.out _ _ (Off.of hB) (fun hHeld => ?_)
              clear hK K
              try simp only [Act.put, List.setIfInBounds_toArray, List.set_cons_zero, List.set_cons_succ]
              refine wpAnyH_ready (rs := [8]) (by kernel_rfl) (by simp) ?_
              refine AllReadyH.cons (by simp only [List.getElem?_toArray, List.getElem?_cons_zero, List.getElem?_cons_succ]; rfl) (fun K hK => ?_) AllReadyH.nil
              refine step_view rowCv cellsC rfl _ _ rfl w21a.heap.size _ _ [] ((cvsK b.L).take i) 0 i rfl hti8.out rfl E1 rfl (view_pre cellsC (by decide) (own_below h8 hB) hiN) (by omega) hB.size ?_
              intro v8b w8b O8 G8
              rw [List.nil_append, Nat.zero_add] at O8
              replace X10 := X10.grown G8 (fun e => ne10 e.symm)
              replace hB := hB.grown G8 hB.size (fun g e => (E1.lt g e).1)
              refine hK.out _ _ (Off.of hB) (fun hHeld => ?_)
              clear hK K
              try simp only [Act.put, List.setIfInBounds_toArray, List.set_cons_zero, List.set_cons_succ]
              have F10 := flat_new (f := fC) (x := x) X10 rfl
              refine wpAnyH_ready (rs := [11]) (by kernel_rfl) (by simp) ?_
              refine AllReadyH.cons (by simp only [List.getElem?_toArray, List.getElem?_cons_zero, List.getElem?_cons_succ]; rfl) (fun K hK => ?_) AllReadyH.nil
              refine step_more rowCv cellsC rfl _ _ rfl w21a.heap.size _ ((cvsK b.L).take i) [x] i 1 hti8.out rfl rfl O8 _ 1 rfl F10 (by omega) hB.size ?_
              intro v11b w11b O11 G11 N11 _
              replace hB := hB.grown G11 hB.size (fun g e => (O8.lt g e).1)
              refine hK.out _ _ (Off.of hB) (fun hHeld => ?_)
              clear hK K
              try simp only [Act.put, List.setIfInBounds_toArray, List.set_cons_zero, List.set_cons_succ]
              refine wpAnyH_ready (rs := [18]) (by kernel_rfl) (by simp) ?_
              refine AllReadyH.cons (by simp only [List.getElem?_toArray, List.getElem?_cons_zero, List.getElem?_cons_succ]; rfl) (fun K hK => ?_) AllReadyH.nil
              refine step_view rowCv cellsC rfl _ _ rfl w21a.heap.size _ _ ((cvsK b.L).take i ++ [x]) ((cvsK b.L).drop i) (i + 1) (N - i) (by rw [List.length_append, hti8.out]; rfl) hdi8.out rfl O11 rfl (view_suf cellsC (by decide) (own_below h8 hB) hiN) (by omega) hB.size ?_
              intro v18b w18b O18b G18
              replace hB := hB.grown G18 hB.size (fun g e => (O11.lt g e).1)
              obtain ⟨a18b, c18b, rfl, _⟩ := own_len O18b
              refine hK.out _ _ (Off.of hB) (fun hHeld => ?_)
              clear hK K
              try simp only [Act.put, List.setIfInBounds_toArray, List.set_cons_zero, List.set_cons_succ]
              refine wpAnyH_take (i := 19) (v := ?_) (by simp only [List.getElem?_toArray, List.getElem?_cons_zero, List.getElem?_cons_succ]; rfl) (by kernel_rfl) (by kernel_rfl) (by kernel_rfl) (by exact fun _ _ _ h => h) (Or.inl ⟨by rfl, ?_⟩) (by assumption) ?_
              rotate_left
              · (intro w hSw; (try dsimp only at hSw); go_simp; (try with_reducible rfl))
              try simp only [Act.put, List.setIfInBounds_toArray, List.set_cons_zero, List.set_cons_succ]
              refine wpAnyH_take (i := 20) (v := ?_) (by simp only [List.getElem?_toArray, List.getElem?_cons_zero, List.getElem?_cons_succ]; rfl) (by kernel_rfl) (by kernel_rfl) (by kernel_rfl) (by exact fun _ _ _ h => h) (Or.inl ⟨by rfl, ?_⟩) (by assumption) ?_
              rotate_left
              · (intro w hSw; (try dsimp only at hSw); go_simp; (try with_reducible rfl))
              try simp only [Act.put, List.setIfInBounds_toArray, List.set_cons_zero, List.set_cons_succ]
              refine wpAnyH_ready (rs := [21]) (by kernel_rfl) (by simp) ?_
              refine AllReadyH.cons (by simp only [List.getElem?_toArray, List.getElem?_cons_zero, List.getElem?_cons_succ]; rfl) (fun K hK => ?_) AllReadyH.nil
              refine st_put 23 (v := .slice a18b (i + 1 + (N - i)) c18b) (Y21a.below hB) rfl rfl rfl rfl rfl rfl size45 (by decide : 2 < 4) (rfl : _ = rA b.R (.slice a18a (i + 1 + (N - i)) c18a) (.slice a18b (i + 1 + (N - i)) c18b) u3) ?_
              intro w21b Y21b K21b
              refine hK.out _ _ ((Off.of hB).but K21b (.inr rfl)) (fun hHeld => ?_)
              clear hK K
              try simp only [Act.put, List.setIfInBounds_toArray, List.set_cons_zero, List.set_cons_succ]
              refine wpAnyH_done (by kernel_rfl) ?_ _
              clear hHeld
              go_wp2_with fail
              all_goals go_ret
              all_goals exact hfin.out _ _ _ _ _ _ _ _ hBa K21a hB K21b Y21b O18a O18b
            refine AllReadyH.cons (by simp only [List.getElem?_toArray, List.getElem?_cons_zero, List.getElem?_cons_succ]; rfl) (fun K hK => ?_) AllReadyH.nil
            refine st_sl 23 25 rfl rfl rfl Try.underlying23 (bslC _) ?_
            intro wbb X10 Tb
            replace hB := ups hB Tb hB.size
            refine hK.out _ _ (Off.of hB) (fun hHeld => ?_)
            clear hK K
            try simp only [Act.put, List.setIfInBounds_toArray, List.set_cons_zero, List.set_cons_succ]
            refine wpAnyH_ready (rs := [1]) (by kernel_rfl) (by simp) ?_
            refine AllReadyH.cons (by simp only [List.getElem?_toArray, List.getElem?_cons_zero, List.getElem?_cons_succ]; rfl) (fun K hK => ?_) AllReadyH.nil
            refine st_sl0 23 25 rfl rfl Try.underlying23 size25 ?_
            intro wab Xa Ta
            have ne10 := own_new_ne X10 (n := 0) (c := 0) (Nat.le_refl _)
            replace X10 := X10.below Ta
            have E1 := own_empty (α := Cv) (s := 3) (f := fC) Xa hB.size
            replace hB := ups hB Ta hB.size
            refine hK.out _ _ (Off.of hB) (fun hHeld => ?_)
            clear hK K
            try simp only [Act.put, List.setIfInBounds_toArray, List.set_cons_zero, List.set_cons_succ]
            refine wpAnyH_ready (rs := [8]) (by kernel_rfl) (by simp) ?_
            refine AllReadyH.cons (by simp only [List.getElem?_toArray, List.getElem?_cons_zero, List.getElem?_cons_succ]; rfl) (fun K hK => ?_) AllReadyH.nil
            refine step_view rowCv cellsC rfl _ _ rfl w21a.heap.size _ _ [] ((cvsK b.L).take i) 0 i rfl hti8.out rfl E1 rfl (view_pre cellsC (by decide) (own_below h8 hB) hiN) (by omega) hB.size ?_
            intro v8b w8b O8 G8
            rw [List.nil_append, Nat.zero_add] at O8
            replace X10 := X10.grown G8 (fun e => ne10 e.symm)
            replace hB := hB.grown G8 hB.size (fun g e => (E1.lt g e).1)
            refine hK.out _ _ (Off.of hB) (fun hHeld => ?_)
            clear hK K
            try simp only [Act.put, List.setIfInBounds_toArray, List.set_cons_zero, List.set_cons_succ]
            have F10 := flat_new (f := fC) (x := x) X10 rfl
            refine wpAnyH_ready (rs := [11]) (by kernel_rfl) (by simp) ?_
            refine AllReadyH.cons (by simp only [List.getElem?_toArray, List.getElem?_cons_zero, List.getElem?_cons_succ]; rfl) (fun K hK => ?_) AllReadyH.nil
            refine step_more rowCv cellsC rfl _ _ rfl w21a.heap.size _ ((cvsK b.L).take i) [x] i 1 hti8.out rfl rfl O8 _ 1 rfl F10 (by omega) hB.size ?_
            intro v11b w11b O11 G11 N11 _
            replace hB := hB.grown G11 hB.size (fun g e => (O8.lt g e).1)
            refine hK.out _ _ (Off.of hB) (fun hHeld => ?_)
            clear hK K
            try simp only [Act.put, List.setIfInBounds_toArray, List.set_cons_zero, List.set_cons_succ]
            refine wpAnyH_ready (rs := [18]) (by kernel_rfl) (by simp) ?_
            refine AllReadyH.cons (by simp only [List.getElem?_toArray, List.getElem?_cons_zero, List.getElem?_cons_succ]; rfl) (fun K hK => ?_) AllReadyH.nil
            refine step_view rowCv cellsC rfl _ _ rfl w21a.heap.size _ _ ((cvsK b.L).take i ++ [x]) ((cvsK b.L).drop i) (i + 1) (N - i) (by rw [List.length_append, hti8.out]; rfl) hdi8.out rfl O11 rfl (view_suf cellsC (by decide) (own_below h8 hB) hiN) (by omega) hB.size ?_
            intro v18b w18b O18b G18
            replace hB := hB.grown G18 hB.size (fun g e => (O11.lt g e).1)
            obtain ⟨a18b, c18b, rfl, _⟩ := own_len O18b
            refine hK.out _ _ (Off.of hB) (fun hHeld => ?_)
            clear hK K
            try simp only [Act.put, List.setIfInBounds_toArray, List.set_cons_zero, List.set_cons_succ]
            refine wpAnyH_take (i := 19) (v := ?_) (by simp only [List.getElem?_toArray, List.getElem?_cons_zero, List.getElem?_cons_succ]; rfl) (by kernel_rfl) (by kernel_rfl) (by kernel_rfl) (by exact fun _ _ _ h => h) (Or.inl ⟨by rfl, ?_⟩) (by assumption) ?_
            rotate_left
            · (intro w hSw; (try dsimp only at hSw); go_simp; (try with_reducible rfl))
            try simp only [Act.put, List.setIfInBounds_toArray, List.set_cons_zero, List.set_cons_succ]
            refine wpAnyH_take (i := 20) (v := ?_) (by simp only [List.getElem?_toArray, List.getElem?_cons_zero, List.getElem?_cons_succ]; rfl) (by kernel_rfl) (by kernel_rfl) (by kernel_rfl) (by exact fun _ _ _ h => h) (Or.inl ⟨by rfl, ?_⟩) (by assumption) ?_
            rotate_left
            · (intro w hSw; (try dsimp only at hSw); go_simp; (try with_reducible rfl))
            try simp only [Act.put, List.setIfInBounds_toArray, List.set_cons_zero, List.set_cons_succ]
            refine wpAnyH_ready (rs := [21]) (by kernel_rfl) (by simp) ?_
            refine AllReadyH.cons (by simp only [List.getElem?_toArray, List.getElem?_cons_zero, List.getElem?_cons_succ]; rfl) (fun K hK => ?_) AllReadyH.nil
            refine st_put 23 (v := .slice a18b (i + 1 + (N - i)) c18b) (Y21a.below hB) rfl rfl rfl rfl rfl rfl size45 (by decide : 2 < 4) (rfl : _ = rA b.R (.slice a18a (i + 1 + (N - i)) c18a) (.slice a18b (i + 1 + (N - i)) c18b) u3) ?_
            intro w21b Y21b K21b
            refine hK.out _ _ ((Off.of hB).but K21b (.inr rfl)) (fun hHeld => ?_)
            clear hK K
            try simp only [Act.put, List.setIfInBounds_toArray, List.set_cons_zero, List.set_cons_succ]
            refine wpAnyH_done (by kernel_rfl) ?_ _
            clear hHeld
            go_wp2_with fail
            all_goals go_ret
            all_goals exact hfin.out _ _ _ _ _ _ _ _ hBa K21a hB K21b Y21b O18a O18b
          refine AllReadyH.cons (by simp only [List.getElem?_toArray, List.getElem?_cons_zero, List.getElem?_cons_succ]; rfl) (fun K hK => ?_) AllReadyH.nil
          refine st_sl 48 3 rfl rfl rfl Try.underlying48 (bslI _) ?_
          intro wba X10 Tb
          have ne10 := own_lt_ne E1 (Nat.le_refl _)
          replace E1 := own_below E1 Tb
          replace hB := ups hB Tb hB.size
          refine hK.out _ _ (Off.of hB) (fun hHeld => ?_)
          clear hK K
          try simp only [Act.put, List.setIfInBounds_toArray, List.set_cons_zero, List.set_cons_succ]
          refine wpAnyH_ready (rs := [8]) (by kernel_rfl) (by simp) ?_
          refine AllReadyH.cons (by simp only [List.getElem?_toArray, List.getElem?_cons_zero, List.getElem?_cons_succ]; rfl) (fun K hK => ?_) AllReadyH.nil
          refine step_view rowI cellsI rfl _ _ rfl wr.heap.size _ _ [] ((idsK b.L).take i) 0 i rfl hti7.out rfl E1 rfl (view_pre cellsI (by decide) (own_below h7 hB) hiN) (by omega) hB.size ?_
          intro v8a w8a O8 G8
          rw [List.nil_append, Nat.zero_add] at O8
          replace X10 := X10.grown G8 (fun e => ne10 e.symm)
          replace hB := hB.grown G8 hB.size (fun g e => (E1.lt g e).1)
          refine hK.out _ _ (Off.of hB) (fun hHeld => ?_)
          clear hK K
          try simp only [Act.put, List.setIfInBounds_toArray, List.set_cons_zero, List.set_cons_succ]
          have F10 := flat_new (f := fI) (x := k) X10 rfl
          refine wpAnyH_ready (rs := [11]) (by kernel_rfl) (by simp) ?_
          refine AllReadyH.cons (by simp only [List.getElem?_toArray, List.getElem?_cons_zero, List.getElem?_cons_succ]; rfl) (fun K hK => ?_) AllReadyH.nil
          refine step_more rowI cellsI rfl _ _ rfl wr.heap.size _ ((idsK b.L).take i) [k] i 1 hti7.out rfl rfl O8 _ 1 rfl F10 (by omega) hB.size ?_
          intro v11a w11a O11 G11 N11 _
          replace hB := hB.grown G11 hB.size (fun g e => (O8.lt g e).1)
          refine hK.out _ _ (Off.of hB) (fun hHeld => ?_)
          clear hK K
          try simp only [Act.put, List.setIfInBounds_toArray, List.set_cons_zero, List.set_cons_succ]
          refine wpAnyH_ready (rs := [18]) (by kernel_rfl) (by simp) ?_
          refine AllReadyH.cons (by simp only [List.getElem?_toArray, List.getElem?_cons_zero, List.getElem?_cons_succ]; rfl) (fun K hK => ?_) AllReadyH.nil
          refine step_view rowI cellsI rfl _ _ rfl wr.heap.size _ _ ((idsK b.L).take i ++ [k]) ((idsK b.L).drop i) (i + 1) (N - i) (by rw [List.length_append, hti7.out]; rfl) hdi7.out rfl O11 rfl (view_suf cellsI (by decide) (own_below h7 hB) hiN) (by omega) hB.size ?_
          intro v18a w18a O18a G18
          replace hB := hB.grown G18 hB.size (fun g e => (O11.lt g e).1)
          obtain ⟨a18a, c18a, rfl, _⟩ := own_len O18a
          refine hK.out _ _ (Off.of hB) (fun hHeld => ?_)
          clear hK K
          try simp only [Act.put, List.setIfInBounds_toArray, List.set_cons_zero, List.set_cons_succ]
          refine wpAnyH_take (i := 19) (v := ?_) (by simp only [List.getElem?_toArray, List.getElem?_cons_zero, List.getElem?_cons_succ]; rfl) (by kernel_rfl) (by kernel_rfl) (by kernel_rfl) (by exact fun _ _ _ h => h) (Or.inl ⟨by rfl, ?_⟩) (by assumption) ?_
          rotate_left
          · (intro w hSw; (try dsimp only at hSw); go_simp; (try with_reducible rfl))
          try simp only [Act.put, List.setIfInBounds_toArray, List.set_cons_zero, List.set_cons_succ]
          refine wpAnyH_take (i := 20) (v := ?_) (by simp only [List.getElem?_toArray, List.getElem?_cons_zero, List.getElem?_cons_succ]; rfl) (by kernel_rfl) (by kernel_rfl) (by kernel_rfl) (by exact fun _ _ _ h => h) (Or.inl ⟨by rfl, ?_⟩) (by assumption) ?_
          rotate_left
          · (intro w hSw; (try dsimp only at hSw); go_simp; (try with_reducible rfl))
          try simp only [Act.put, List.setIfInBounds_toArray, List.set_cons_zero, List.set_cons_succ]
          refine wpAnyH_ready (rs := [21]) (by kernel_rfl) (by simp) ?_
          refine AllReadyH.cons (by simp only [List.getElem?_toArray, List.getElem?_cons_zero, List.getElem?_cons_succ]; rfl) (fun K hK => ?_) AllReadyH.nil
          refine st_put 48 (v := .slice a18a (i + 1 + (N - i)) c18a) (hCx.below hB) rfl rfl rfl rfl rfl rfl size44 (by decide : 1 < 4) (rfl : _ = rA b.R (.slice a18a (i + 1 + (N - i)) c18a) u2 u3) ?_
          intro w21a Y21a K21a
          refine hK.out _ _ ((Off.of hB).but K21a (.inr rfl)) (fun hHeld => ?_)
          clear hK K
          try simp only [Act.put, List.setIfInBounds_toArray, List.set_cons_zero, List.set_cons_succ]
          refine wpAnyH_done (by kernel_rfl) ?_ _
          clear hHeld
          have hBa := hB
          clear hB
          have hBx8 : Box w21a B (rA b.R (.slice a7 N cap7) (.slice a8 N cap8) v3) 60 := K21a.box (hBx7.below hBa) hneB
          have XC8 : Box w21a w.heap.size (cA x) 25 := K21a.box (X1r.below hBa) hneX
          have h8 : w21a.ownsRow base 25 3 (.slice a8 N cap8) N (rowC fC (cvsK b.L)) := own_but (own_below h8r hBa) K21a hn8
          go_upto_region 8 with fail
          have hB := drew_below w21a
          refine wp_region_held_drew (S := fun W => Off (fun j => j = C0) w21a W) (by kernel_rfl) (Off.of hB) (fun hHeld => ?_)
          refine wpAnyH_take (i := 0) (v := ?_) (by simp only [List.getElem?_toArray, List.getElem?_cons_zero]; rfl) (by kernel_rfl) (by kernel_rfl) (by kernel_rfl) (by exact fun _ _ _ h => h) (Or.inl ⟨by rfl, ?_⟩) (by assumption) ?_
          rotate_left
          · (intro w hSw; (try dsimp only at hSw); go_simp; (try with_reducible rfl))
          try simp only [Act.put, List.setIfInBounds_toArray, List.set_cons_zero, List.set_cons_succ]
          refine wpAnyH_take (i := 2) (v := ?_) (by simp only [List.getElem?_toArray, List.getElem?_cons_zero, List.getElem?_cons_succ]; rfl) (by kernel_rfl) (by kernel_rfl) (by kernel_rfl) (by exact fun _ _ _ h => h) (Or.inl ⟨by rfl, ?_⟩) (by assumption) ?_
          rotate_left
          · (intro w hSw; (try dsimp only at hSw); go_simp; (try with_reducible rfl))
          try simp only [Act.put, List.setIfInBounds_toArray, List.set_cons_zero, List.set_cons_succ]
          refine wpAnyH_take (i := 3) (v := ?_) (by simp only [List.getElem?_toArray, List.getElem?_cons_zero, List.getElem?_cons_succ]; rfl) (by kernel_rfl) (by kernel_rfl) (by kernel_rfl) (by exact fun _ _ _ h => h) (Or.inl ⟨by rfl, ?_⟩) (by assumption) ?_
          rotate_left
          · (intro w hSw; (try dsimp only at hSw); go_simp; (try with_reducible rfl))
          try simp only [Act.put, List.setIfInBounds_toArray, List.set_cons_zero, List.set_cons_succ]
          refine wpAnyH_take (i := 4) (v := ?_) (by simp only [List.getElem?_toArray, List.getElem?_cons_zero, List.getElem?_cons_succ]; rfl) (by kernel_rfl) (by kernel_rfl) (by kernel_rfl) (by exact fun _ _ _ h => h) (Or.inl ⟨by rfl, ?_⟩) (by assumption) ?_
          rotate_left
          · (intro w hSw; (try dsimp only at hSw); go_simp; (try with_reducible rfl))
          try simp only [Act.put, List.setIfInBounds_toArray, List.set_cons_zero, List.set_cons_succ]
          refine wpAnyH_take (i := 5) (v := .slice a8 N cap8) (by simp only [List.getElem?_toArray, List.getElem?_cons_zero, List.getElem?_cons_succ]; rfl) (by kernel_rfl) (by kernel_rfl) (by kernel_rfl) (by exact fun _ _ _ h => h) (Or.inl ⟨by rfl, fun w hSw => xl_cell 23 (hSw.box hBx8 hneB) rfl rfl Try.underlying23 rfl rfl⟩) (by assumption) ?_
          try simp only [Act.put, List.setIfInBounds_toArray, List.set_cons_zero, List.set_cons_succ]
          refine wpAnyH_take (i := 6) (v := ?_) (by simp only [List.getElem?_toArray, List.getElem?_cons_zero, List.getElem?_cons_succ]; rfl) (by kernel_rfl) (by kernel_rfl) (by kernel_rfl) (by exact fun _ _ _ h => h) (Or.inl ⟨by rfl, ?_⟩) (by assumption) ?_
          rotate_left
          · (intro w hSw; (try dsimp only at hSw); go_simp; (try with_reducible rfl))
          try simp only [Act.put, List.setIfInBounds_toArray, List.set_cons_zero, List.set_cons_succ]
          refine wpAnyH_take (i := 7) (v := sliced a8 0 i cap8 3) (by simp only [List.getElem?_toArray, List.getElem?_cons_zero, List.getElem?_cons_succ]; rfl) (by kernel_rfl) (by kernel_rfl) (by kernel_rfl) (by exact fun _ _ _ h => h) (Or.inl ⟨by rfl, fun w hSw => xl_pre ht45 hs45 rfl rfl rfl hic8⟩) (by assumption) ?_
          try simp only [Act.put, List.setIfInBounds_toArray, List.set_cons_zero, List.set_cons_succ]
          refine wpAnyH_take (i := 9) (v := .agg (cA x)) (by simp only [List.getElem?_toArray, List.getElem?_cons_zero, List.getElem?_cons_succ]; rfl) (by kernel_rfl) (by kernel_rfl) (by kernel_rfl) (by exact fun _ _ _ h => h) (Or.inl ⟨by rfl, fun w hSw => xl_load 25 (hSw.box XC8 hneX) rfl rfl Try.underlying25 rfl size25 (by omega : 0 + 3 ≤ 3) (cA_all _)⟩) (by assumption) ?_
          try simp only [Act.put, List.setIfInBounds_toArray, List.set_cons_zero, List.set_cons_succ]
          refine wpAnyH_take (i := 12) (v := ?_) (by simp only [List.getElem?_toArray, List.getElem?_cons_zero, List.getElem?_cons_succ]; rfl) (by kernel_rfl) (by kernel_rfl) (by kernel_rfl) (by exact fun _ _ _ h => h) (Or.inl ⟨by rfl, ?_⟩) (by assumption) ?_
          rotate_left
          · (intro w hSw; (try dsimp only at hSw); go_simp; (try with_reducible rfl))
          try simp only [Act.put, List.setIfInBounds_toArray, List.set_cons_zero, List.set_cons_succ]
          refine wpAnyH_take (i := 13) (v := ?_) (by simp only [List.getElem?_toArray, List.getElem?_cons_zero, List.getElem?_cons_succ]; rfl) (by kernel_rfl) (by kernel_rfl) (by kernel_rfl) (by exact fun _ _ _ h => h) (Or.inl ⟨by rfl, ?_⟩) (by assumption) ?_
          rotate_left
          · (intro w hSw; (try dsimp only at hSw); go_simp; (try with_reducible rfl))
          try simp only [Act.put, List.setIfInBounds_toArray, List.set_cons_zero, List.set_cons_succ]
          refine wpAnyH_take (i := 14) (v := ?_) (by simp only [List.getElem?_toArray, List.getElem?_cons_zero, List.getElem?_cons_succ]; rfl) (by kernel_rfl) (by kernel_rfl) (by kernel_rfl) (by exact fun _ _ _ h => h) (Or.inl ⟨by rfl, ?_⟩) (by assumption) ?_
          rotate_left
          · (intro w hSw; (try dsimp only at hSw); go_simp; (try with_reducible rfl))
          try simp only [Act.put, List.setIfInBounds_toArray, List.set_cons_zero, List.set_cons_succ]
          refine wpAnyH_take (i := 15) (v := .slice a8 N cap8) (by simp only [List.getElem?_toArray, List.getElem?_cons_zero, List.getElem?_cons_succ]; rfl) (by kernel_rfl) (by kernel_rfl) (by kernel_rfl) (by exact fun _ _ _ h => h) (Or.inl ⟨by rfl, fun w hSw => xl_cell 23 (hSw.box hBx8 hneB) rfl rfl Try.underlying23 rfl rfl⟩) (by assumption) ?_
          try simp only [Act.put, List.setIfInBounds_toArray, List.set_cons_zero, List.set_cons_succ]
          refine wpAnyH_take (i := 16) (v := ?_) (by simp only [List.getElem?_toArray, List.getElem?_cons_zero, List.getElem?_cons_succ]; rfl) (by kernel_rfl) (by kernel_rfl) (by kernel_rfl) (by exact fun _ _ _ h => h) (Or.inl ⟨by rfl, ?_⟩) (by assumption) ?_
          rotate_left
          · (intro w hSw; (try dsimp only at hSw); go_simp; (try with_reducible rfl))
          try simp only [Act.put, List.setIfInBounds_toArray, List.set_cons_zero, List.set_cons_succ]
          refine wpAnyH_take (i := 17) (v := sliced a8 i N cap8 3) (by simp only [List.getElem?_toArray, List.getElem?_cons_zero, List.getElem?_cons_succ]; rfl) (by kernel_rfl) (by kernel_rfl) (by kernel_rfl) (by exact fun _ _ _ h => h) (Or.inl ⟨by rfl, fun w hSw => xl_suf ht45 hs45 rfl rfl rfl hiN⟩) (by assumption) ?_
          try simp only [Act.put, List.setIfInBounds_toArray, List.set_cons_zero, List.set_cons_succ]
          refine wpAnyH_ready (rs := [1, 10]) (by kernel_rfl) (by simp) ?_
          refine AllReadyH.cons (by simp only [List.getElem?_toArray, List.getElem?_cons_zero, List.getElem?_cons_succ]; rfl) (fun K hK => ?_) ?_
          · refine st_sl0 23 25 rfl rfl Try.underlying23 size25 ?_
            intro wab Xa Ta
            have E1 := own_empty (α := Cv) (s := 3) (f := fC) Xa hB.size
            replace hB := ups hB Ta hB.size
            refine hK.out _ _ (Off.of hB) (fun hHeld => ?_)
            clear hK K
            try simp only [Act.put, List.setIfInBounds_toArray, List.set_cons_zero, List.set_cons_succ]
            refine wpAnyH_ready (rs := [8, 10]) (by kernel_rfl) (by simp) ?_
            refine AllReadyH.cons (by simp only [List.getElem?_toArray, List.getElem?_cons_zero, List.getElem?_cons_succ]; rfl) (fun K hK => ?_) ?_
            · refine step_view rowCv cellsC rfl _ _ rfl w21a.heap.size _ _ [] ((cvsK b.L).take i) 0 i rfl hti8.out rfl E1 rfl (view_pre cellsC (by decide) (own_below h8 hB) hiN) (by omega) hB.size ?_
              intro v8b w8b O8 G8
              rw [List.nil_append, Nat.zero_add] at O8
              replace hB := hB.grown G8 hB.size (fun g e => (E1.lt g e).1)
              refine hK.out _ _ (Off.of hB) (fun hHeld => ?_)
              clear hK K
              try simp only [Act.put, List.setIfInBounds_toArray, List.set_cons_zero, List.set_cons_succ]
              refine wpAnyH_ready (rs := [10]) (by kernel_rfl) (by simp) ?_
              refine AllReadyH.cons (by simp only [List.getElem?_toArray, List.getElem?_cons_zero, List.getElem?_cons_succ]; rfl) (fun K hK => ?_) AllReadyH.nil
              refine st_sl 23 25 rfl rfl rfl Try.underlying23 (bslC _) ?_
              intro wbb X10 Tb
              replace O8 := own_below O8 Tb
              replace hB := ups hB Tb hB.size
              refine hK.out _ _ (Off.of hB) (fun hHeld => ?_)
              clear hK K
              try simp only [Act.put, List.setIfInBounds_toArray, List.set_cons_zero, List.set_cons_succ]
              have F10 := flat_new (f := fC) (x := x) X10 rfl
              refine wpAnyH_ready (rs := [11]) (by kernel_rfl) (by simp) ?_
              refine AllReadyH.cons (by simp only [List.getElem?_toArray, List.getElem?_cons_zero, List.getElem?_cons_succ]; rfl) (fun K hK => ?_) AllReadyH.nil
              refine step_more rowCv cellsC rfl _ _ rfl w21a.heap.size _ ((cvsK b.L).take i) [x] i 1 hti8.out rfl rfl O8 _ 1 rfl F10 (by omega) hB.size ?_
              intro v11b w11b O11 G11 N11 _
              replace hB := hB.grown G11 hB.size (fun g e => (O8.lt g e).1)
              refine hK.out _ _ (Off.of hB) (fun hHeld => ?_)
              clear hK K
              try simp only [Act.put, List.setIfInBounds_toArray, List.set_cons_zero, List.set_cons_succ]
              refine wpAnyH_ready (rs := [18]) (by kernel_rfl) (by simp) ?_
              refine AllReadyH.cons (by simp only [List.getElem?_toArray, List.getElem?_cons_zero, List.getElem?_cons_succ]; rfl) (fun K hK => ?_) AllReadyH.nil
              refine step_view rowCv cellsC rfl _ _ rfl w21a.heap.size _ _ ((cvsK b.L).take i ++ [x]) ((cvsK b.L).drop i) (i + 1) (N - i) (by rw [List.length_append, hti8.out]; rfl) hdi8.out rfl O11 rfl (view_suf cellsC (by decide) (own_below h8 hB) hiN) (by omega) hB.size ?_
              intro v18b w18b O18b G18
              replace hB := hB.grown G18 hB.size (fun g e => (O11.lt g e).1)
              obtain ⟨a18b, c18b, rfl, _⟩ := own_len O18b
              refine hK.out _ _ (Off.of hB) (fun hHeld => ?_)
              clear hK K
              try simp only [Act.put, List.setIfInBounds_toArray, List.set_cons_zero, List.set_cons_succ]
              refine wpAnyH_take (i := 19) (v := ?_) (by simp only [List.getElem?_toArray, List.getElem?_cons_zero, List.getElem?_cons_succ]; rfl) (by kernel_rfl) (by kernel_rfl) (by kernel_rfl) (by exact fun _ _ _ h => h) (Or.inl ⟨by rfl, ?_⟩) (by assumption) ?_
              rotate_left
              · (intro w hSw; (try dsimp only at hSw); go_simp; (try with_reducible rfl))
              try simp only [Act.put, List.setIfInBounds_toArray, List.set_cons_zero, List.set_cons_succ]
              refine wpAnyH_take (i := 20) (v := ?_) (by simp only [List.getElem?_toArray, List.getElem?_cons_zero, List.getElem?_cons_succ]; rfl) (by kernel_rfl) (by kernel_rfl) (by kernel_rfl) (by exact fun _ _ _ h => h) (Or.inl ⟨by rfl, ?_⟩) (by assumption) ?_
              rotate_left
              · (intro w hSw; (try dsimp only at hSw); go_simp; (try with_reducible rfl))
              try simp only [Act.put, List.setIfInBounds_toArray, List.set_cons_zero, List.set_cons_succ]
              refine wpAnyH_ready (rs := [21]) (by kernel_rfl) (by simp) ?_
              refine AllReadyH.cons (by simp only [List.getElem?_toArray, List.getElem?_cons_zero, List.getElem?_cons_succ]; rfl) (fun K hK => ?_) AllReadyH.nil
              refine st_put 23 (v := .slice a18b (i + 1 + (N - i)) c18b) (Y21a.below hB) rfl rfl rfl rfl rfl rfl size45 (by decide : 2 < 4) (rfl : _ = rA b.R (.slice a18a (i + 1 + (N - i)) c18a) (.slice a18b (i + 1 + (N - i)) c18b) u3) ?_
              intro w21b Y21b K21b
              refine hK.out _ _ ((Off.of hB).but K21b (.inr rfl)) (fun hHeld => ?_)
              clear hK K
              try simp only [Act.put, List.setIfInBounds_toArray, List.set_cons_zero, List.set_cons_succ]
              refine wpAnyH_done (by kernel_rfl) ?_ _
              clear hHeld
              go_wp2_with fail
              all_goals go_ret
              all_goals exact hfin.out _ _ _ _ _ _ _ _ hBa K21a hB K21b Y21b O18a O18b
            refine AllReadyH.cons (by simp only [List.getElem?_toArray, List.getElem?_cons_zero, List.getElem?_cons_succ]; rfl) (fun K hK => ?_) AllReadyH.nil
            refine st_sl 23 25 rfl rfl rfl Try.underlying23 (bslC _) ?_
            intro wbb X10 Tb
            have ne10 := own_lt_ne E1 (Nat.le_refl _)
            replace E1 := own_below E1 Tb
            replace hB := ups hB Tb hB.size
            refine hK.out _ _ (Off.of hB) (fun hHeld => ?_)
            clear hK K
            try simp only [Act.put, List.setIfInBounds_toArray, List.set_cons_zero, List.set_cons_succ]
            refine wpAnyH_ready (rs := [8]) (by kernel_rfl) (by simp) ?_
            refine AllReadyH.cons (by simp only [List.getElem?_toArray, List.getElem?_cons_zero, List.getElem?_cons_succ]; rfl) (fun K hK => ?_) AllReadyH.nil
            refine step_view rowCv cellsC rfl _ _ rfl w21a.heap.size _ _ [] ((cvsK b.L).take i) 0 i rfl hti8.out rfl E1 rfl (view_pre cellsC (by decide) (own_below h8 hB) hiN) (by omega) hB.size ?_
            intro v8b w8b O8 G8
            rw [List.nil_append, Nat.zero_add] at O8
            replace X10 := X10.grown G8 (fun e => ne10 e.symm)
            replace hB := hB.grown G8 hB.size (fun g e => (E1.lt g e).1)
            refine hK.out _ _ (Off.of hB) (fun hHeld => ?_)
            clear hK K
            try simp only [Act.put, List.setIfInBounds_toArray, List.set_cons_zero, List.set_cons_succ]
            have F10 := flat_new (f := fC) (x := x) X10 rfl
            refine wpAnyH_ready (rs := [11]) (by kernel_rfl) (by simp) ?_
            refine AllReadyH.cons (by simp only [List.getElem?_toArray, List.getElem?_cons_zero, List.getElem?_cons_succ]; rfl) (fun K hK => ?_) AllReadyH.nil
            refine step_more rowCv cellsC rfl _ _ rfl w21a.heap.size _ ((cvsK b.L).take i) [x] i 1 hti8.out rfl rfl O8 _ 1 rfl F10 (by omega) hB.size ?_
            intro v11b w11b O11 G11 N11 _
            replace hB := hB.grown G11 hB.size (fun g e => (O8.lt g e).1)
            refine hK.out _ _ (Off.of hB) (fun hHeld => ?_)
            clear hK K
            try simp only [Act.put, List.setIfInBounds_toArray, List.set_cons_zero, List.set_cons_succ]
            refine wpAnyH_ready (rs := [18]) (by kernel_rfl) (by simp) ?_
            refine AllReadyH.cons (by simp only [List.getElem?_toArray, List.getElem?_cons_zero, List.getElem?_cons_succ]; rfl) (fun K hK => ?_) AllReadyH.nil
            refine step_view rowCv cellsC rfl _ _ rfl w21a.heap.size _ _ ((cvsK b.L).take i ++ [x]) ((cvsK b.L).drop i) (i + 1) (N - i) (by rw [List.length_append, hti8.out]; rfl) hdi8.out rfl O11 rfl (view_suf cellsC (by decide) (own_below h8 hB) hiN) (by omega) hB.size ?_
            intro v18b w18b O18b G18
            replace hB := hB.grown G18 hB.size (fun g e => (O11.lt g e).1)
            obtain ⟨a18b, c18b, rfl, _⟩ := own_len O18b
            refine hK.out _ _ (Off.of hB) (fun hHeld => ?_)
            clear hK K
            try simp only [Act.put, List.setIfInBounds_toArray, List.set_cons_zero, List.set_cons_succ]
            refine wpAnyH_take (i := 19) (v := ?_) (by simp only [List.getElem?_toArray, List.getElem?_cons_zero, List.getElem?_cons_succ]; rfl) (by kernel_rfl) (by kernel_rfl) (by kernel_rfl) (by exact fun _ _ _ h => h) (Or.inl ⟨by rfl, ?_⟩) (by assumption) ?_
            rotate_left
            · (intro w hSw; (try dsimp only at hSw); go_simp; (try with_reducible rfl))
            try simp only [Act.put, List.setIfInBounds_toArray, List.set_cons_zero, List.set_cons_succ]
            refine wpAnyH_take (i := 20) (v := ?_) (by simp only [List.getElem?_toArray, List.getElem?_cons_zero, List.getElem?_cons_succ]; rfl) (by kernel_rfl) (by kernel_rfl) (by kernel_rfl) (by exact fun _ _ _ h => h) (Or.inl ⟨by rfl, ?_⟩) (by assumption) ?_
            rotate_left
            · (intro w hSw; (try dsimp only at hSw); go_simp; (try with_reducible rfl))
            try simp only [Act.put, List.setIfInBounds_toArray, List.set_cons_zero, List.set_cons_succ]
            refine wpAnyH_ready (rs := [21]) (by kernel_rfl) (by simp) ?_
            refine AllReadyH.cons (by simp only [List.getElem?_toArray, List.getElem?_cons_zero, List.getElem?_cons_succ]; rfl) (fun K hK => ?_) AllReadyH.nil
            refine st_put 23 (v := .slice a18b (i + 1 + (N - i)) c18b) (Y21a.below hB) rfl rfl rfl rfl rfl rfl size45 (by decide : 2 < 4) (rfl : _ = rA b.R (.slice a18a (i + 1 + (N - i)) c18a) (.slice a18b (i + 1 + (N - i)) c18b) u3) ?_
            intro w21b Y21b K21b
            refine hK.out _ _ ((Off.of hB).but K21b (.inr rfl)) (fun hHeld => ?_)
            clear hK K
            try simp only [Act.put, List.setIfInBounds_toArray, List.set_cons_zero, List.set_cons_succ]
            refine wpAnyH_done (by kernel_rfl) ?_ _
            clear hHeld
            go_wp2_with fail
            all_goals go_ret
            all_goals exact hfin.out _ _ _ _ _ _ _ _ hBa K21a hB K21b Y21b O18a O18b
          refine AllReadyH.cons (by simp only [List.getElem?_toArray, List.getElem?_cons_zero, List.getElem?_cons_succ]; rfl) (fun K hK => ?_) AllReadyH.nil
          refine st_sl 23 25 rfl rfl rfl Try.underlying23 (bslC _) ?_
          intro wbb X10 Tb
          replace hB := ups hB Tb hB.size
          refine hK.out _ _ (Off.of hB) (fun hHeld => ?_)
          clear hK K
          try simp only [Act.put, List.setIfInBounds_toArray, List.set_cons_zero, List.set_cons_succ]
          refine wpAnyH_ready (rs := [1]) (by kernel_rfl) (by simp) ?_
          refine AllReadyH.cons (by simp only [List.getElem?_toArray, List.getElem?_cons_zero, List.getElem?_cons_succ]; rfl) (fun K hK => ?_) AllReadyH.nil
          refine st_sl0 23 25 rfl rfl Try.underlying23 size25 ?_
          intro wab Xa Ta
          have ne10 := own_new_ne X10 (n := 0) (c := 0) (Nat.le_refl _)
          replace X10 := X10.below Ta
          have E1 := own_empty (α := Cv) (s := 3) (f := fC) Xa hB.size
          replace hB := ups hB Ta hB.size
          refine hK.out _ _ (Off.of hB) (fun hHeld => ?_)
          clear hK K
          try simp only [Act.put, List.setIfInBounds_toArray, List.set_cons_zero, List.set_cons_succ]
          refine wpAnyH_ready (rs := [8]) (by kernel_rfl) (by simp) ?_
          refine AllReadyH.cons (by simp only [List.getElem?_toArray, List.getElem?_cons_zero, List.getElem?_cons_succ]; rfl) (fun K hK => ?_) AllReadyH.nil
          refine step_view rowCv cellsC rfl _ _ rfl w21a.heap.size _ _ [] ((cvsK b.L).take i) 0 i rfl hti8.out rfl E1 rfl (view_pre cellsC (by decide) (own_below h8 hB) hiN) (by omega) hB.size ?_
          intro v8b w8b O8 G8
          rw [List.nil_append, Nat.zero_add] at O8
          replace X10 := X10.grown G8 (fun e => ne10 e.symm)
          replace hB := hB.grown G8 hB.size (fun g e => (E1.lt g e).1)
          refine hK.out _ _ (Off.of hB) (fun hHeld => ?_)
          clear hK K
          try simp only [Act.put, List.setIfInBounds_toArray, List.set_cons_zero, List.set_cons_succ]
          have F10 := flat_new (f := fC) (x := x) X10 rfl
          refine wpAnyH_ready (rs := [11]) (by kernel_rfl) (by simp) ?_
          refine AllReadyH.cons (by simp only [List.getElem?_toArray, List.getElem?_cons_zero, List.getElem?_cons_succ]; rfl) (fun K hK => ?_) AllReadyH.nil
          refine step_more rowCv cellsC rfl _ _ rfl w21a.heap.size _ ((cvsK b.L).take i) [x] i 1 hti8.out rfl rfl O8 _ 1 rfl F10 (by omega) hB.size ?_
          intro v11b w11b O11 G11 N11 _
          replace hB := hB.grown G11 hB.size (fun g e => (O8.lt g e).1)
          refine hK.out _ _ (Off.of hB) (fun hHeld => ?_)
          clear hK K
          try simp only [Act.put, List.setIfInBounds_toArray, List.set_cons_zero, List.set_cons_succ]
          refine wpAnyH_ready (rs := [18]) (by kernel_rfl) (by simp) ?_
          refine AllReadyH.cons (by simp only [List.getElem?_toArray, List.getElem?_cons_zero, List.getElem?_cons_succ]; rfl) (fun K hK => ?_) AllReadyH.nil
          refine step_view rowCv cellsC rfl _ _ rfl w21a.heap.size _ _ ((cvsK b.L).take i ++ [x]) ((cvsK b.L).drop i) (i + 1) (N - i) (by rw [List.length_append, hti8.out]; rfl) hdi8.out rfl O11 rfl (view_suf cellsC (by decide) (own_below h8 hB) hiN) (by omega) hB.size ?_
          intro v18b w18b O18b G18
          replace hB := hB.grown G18 hB.size (fun g e => (O11.lt g e).1)
          obtain ⟨a18b, c18b, rfl, _⟩ := own_len O18b
          refine hK.out _ _ (Off.of hB) (fun hHeld => ?_)
          clear hK K
          try simp only [Act.put, List.setIfInBounds_toArray, List.set_cons_zero, List.set_cons_succ]
          refine wpAnyH_take (i := 19) (v := ?_) (by simp only [List.getElem?_toArray, List.getElem?_cons_zero, List.getElem?_cons_succ]; rfl) (by kernel_rfl) (by kernel_rfl) (by kernel_rfl) (by exact fun _ _ _ h => h) (Or.inl ⟨by rfl, ?_⟩) (by assumption) ?_
          rotate_left
          · (intro w hSw; (try dsimp only at hSw); go_simp; (try with_reducible rfl))
          try simp only [Act.put, List.setIfInBounds_toArray, List.set_cons_zero, List.set_cons_succ]
          refine wpAnyH_take (i := 20) (v := ?_) (by simp only [List.getElem?_toArray, List.getElem?_cons_zero, List.getElem?_cons_succ]; rfl) (by kernel_rfl) (by kernel_rfl) (by kernel_rfl) (by exact fun _ _ _ h => h) (Or.inl ⟨by rfl, ?_⟩) (by assumption) ?_
          rotate_left
          · (intro w hSw; (try dsimp only at hSw); go_simp; (try with_reducible rfl))
          try simp only [Act.put, List.setIfInBounds_toArray, List.set_cons_zero, List.set_cons_succ]
          refine wpAnyH_ready (rs := [21]) (by kernel_rfl) (by simp) ?_
          refine AllReadyH.cons (by simp only [List.getElem?_toArray, List.getElem?_cons_zero, List.getElem?_cons_succ]; rfl) (fun K hK => ?_) AllReadyH.nil
          refine st_put 23 (v := .slice a18b (i + 1 + (N - i)) c18b) (Y21a.below hB) rfl rfl rfl rfl rfl rfl size45 (by decide : 2 < 4) (rfl : _ = rA b.R (.slice a18a (i + 1 + (N - i)) c18a) (.slice a18b (i + 1 + (N - i)) c18b) u3) ?_
          intro w21b Y21b K21b
          refine hK.out _ _ ((Off.of hB).but K21b (.inr rfl)) (fun hHeld => ?_)
          clear hK K
          try simp only [Act.put, List.setIfInBounds_toArray, List.set_cons_zero, List.set_cons_succ]
          refine wpAnyH_done (by kernel_rfl) ?_ _
          clear hHeld
          go_wp2_with fail
          all_goals go_ret
          all_goals exact hfin.out _ _ _ _ _ _ _ _ hBa K21a hB K21b Y21b O18a O18b
        refine AllReadyH.cons (by simp only [List.getElem?_toArray, List.getElem?_cons_zero, List.getElem?_cons_succ]; rfl) (fun K hK => ?_) AllReadyH.nil
        refine st_sl 48 3 rfl rfl rfl Try.underlying48 (bslI _) ?_
        intro wba X10 Tb
        replace hB := ups hB Tb hB.size
        refine hK.out _ _ (Off.of hB) (fun hHeld => ?_)
        clear hK K
        try simp only [Act.put, List.setIfInBounds_toArray, List.set_cons_zero, List.set_cons_succ]
        refine wpAnyH_ready (rs := [1]) (by kernel_rfl) (by simp) ?_
        refine AllReadyH.cons (by simp only [List.getElem?_toArray, List.getElem?_cons_zero, List.getElem?_cons_succ]; rfl) (fun K hK => ?_) AllReadyH.nil
        refine st_sl0 48 3 rfl rfl Try.underlying48 size3 ?_
        intro waa Xa Ta
        have ne10 := own_new_ne X10 (n := 0) (c := 0) (Nat.le_refl _)
        replace X10 := X10.below Ta
        have E1 := own_empty (α := Int) (s := 1) (f := fI) Xa hB.size
        replace hB := ups hB Ta hB.size
        refine hK.out _ _ (Off.of hB) (fun hHeld => ?_)
        clear hK K
        try simp only [Act.put, List.setIfInBounds_toArray, List.set_cons_zero, List.set_cons_succ]
        refine wpAnyH_ready (rs := [8]) (by kernel_rfl) (by simp) ?_
        refine AllReadyH.cons (by simp only [List.getElem?_toArray, List.getElem?_cons_zero, List.getElem?_cons_succ]; rfl) (fun K hK => ?_) AllReadyH.nil
        refine step_view rowI cellsI rfl _ _ rfl wr.heap.size _ _ [] ((idsK b.L).take i) 0 i rfl hti7.out rfl E1 rfl (view_pre cellsI (by decide) (own_below h7 hB) hiN) (by omega) hB.size ?_
        intro v8a w8a O8 G8
        rw [List.nil_append, Nat.zero_add] at O8
        replace X10 := X10.grown G8 (fun e => ne10 e.symm)
        replace hB := hB.grown G8 hB.size (fun g e => (E1.lt g e).1)
        refine hK.out _ _ (Off.of hB) (fun hHeld => ?_)
        clear hK K
        try simp only [Act.put, List.setIfInBounds_toArray, List.set_cons_zero, List.set_cons_succ]
        have F10 := flat_new (f := fI) (x := k) X10 rfl
        refine wpAnyH_ready (rs := [11]) (by kernel_rfl) (by simp) ?_
        refine AllReadyH.cons (by simp only [List.getElem?_toArray, List.getElem?_cons_zero, List.getElem?_cons_succ]; rfl) (fun K hK => ?_) AllReadyH.nil
        refine step_more rowI cellsI rfl _ _ rfl wr.heap.size _ ((idsK b.L).take i) [k] i 1 hti7.out rfl rfl O8 _ 1 rfl F10 (by omega) hB.size ?_
        intro v11a w11a O11 G11 N11 _
        replace hB := hB.grown G11 hB.size (fun g e => (O8.lt g e).1)
        refine hK.out _ _ (Off.of hB) (fun hHeld => ?_)
        clear hK K
        try simp only [Act.put, List.setIfInBounds_toArray, List.set_cons_zero, List.set_cons_succ]
        refine wpAnyH_ready (rs := [18]) (by kernel_rfl) (by simp) ?_
        refine AllReadyH.cons (by simp only [List.getElem?_toArray, List.getElem?_cons_zero, List.getElem?_cons_succ]; rfl) (fun K hK => ?_) AllReadyH.nil
        refine step_view rowI cellsI rfl _ _ rfl wr.heap.size _ _ ((idsK b.L).take i ++ [k]) ((idsK b.L).drop i) (i + 1) (N - i) (by rw [List.length_append, hti7.out]; rfl) hdi7.out rfl O11 rfl (view_suf cellsI (by decide) (own_below h7 hB) hiN) (by omega) hB.size ?_
        intro v18a w18a O18a G18
        replace hB := hB.grown G18 hB.size (fun g e => (O11.lt g e).1)
        obtain ⟨a18a, c18a, rfl, _⟩ := own_len O18a
        refine hK.out _ _ (Off.of hB) (fun hHeld => ?_)
        clear hK K
        try simp only [Act.put, List.setIfInBounds_toArray, List.set_cons_zero, List.set_cons_succ]
        refine wpAnyH_take (i := 19) (v := ?_) (by simp only [List.getElem?_toArray, List.getElem?_cons_zero, List.getElem?_cons_succ]; rfl) (by kernel_rfl) (by kernel_rfl) (by kernel_rfl) (by exact fun _ _ _ h => h) (Or.inl ⟨by rfl, ?_⟩) (by assumption) ?_
        rotate_left
        · (intro w hSw; (try dsimp only at hSw); go_simp; (try with_reducible rfl))
        try simp only [Act.put, List.setIfInBounds_toArray, List.set_cons_zero, List.set_cons_succ]
        refine wpAnyH_take (i := 20) (v := ?_) (by simp only [List.getElem?_toArray, List.getElem?_cons_zero, List.getElem?_cons_succ]; rfl) (by kernel_rfl) (by kernel_rfl) (by kernel_rfl) (by exact fun _ _ _ h => h) (Or.inl ⟨by rfl, ?_⟩) (by assumption) ?_
        rotate_left
        · (intro w hSw; (try dsimp only at hSw); go_simp; (try with_reducible rfl))
        try simp only [Act.put, List.setIfInBounds_toArray, List.set_cons_zero, List.set_cons_succ]
        refine wpAnyH_ready (rs := [21]) (by kernel_rfl) (by simp) ?_
        refine AllReadyH.cons (by simp only [List.getElem?_toArray, List.getElem?_cons_zero, List.getElem?_cons_succ]; rfl) (fun K hK => ?_) AllReadyH.nil
        refine st_put 48 (v := .slice a18a (i + 1 + (N - i)) c18a) (hCx.below hB) rfl rfl rfl rfl rfl rfl size44 (by decide : 1 < 4) (rfl : _ = rA b.R (.slice a18a (i + 1 + (N - i)) c18a) u2 u3) ?_
        intro w21a Y21a K21a
        refine hK.out _ _ ((Off.of hB).but K21a (.inr rfl)) (fun hHeld => ?_)
        clear hK K
        try simp only [Act.put, List.setIfInBounds_toArray, List.set_cons_zero, List.set_cons_succ]
        refine wpAnyH_done (by kernel_rfl) ?_ _
        clear hHeld
        have hBa := hB
        clear hB
        have hBx8 : Box w21a B (rA b.R (.slice a7 N cap7) (.slice a8 N cap8) v3) 60 := K21a.box (hBx7.below hBa) hneB
        have XC8 : Box w21a w.heap.size (cA x) 25 := K21a.box (X1r.below hBa) hneX
        have h8 : w21a.ownsRow base 25 3 (.slice a8 N cap8) N (rowC fC (cvsK b.L)) := own_but (own_below h8r hBa) K21a hn8
        go_upto_region 8 with fail
        have hB := drew_below w21a
        refine wp_region_held_drew (S := fun W => Off (fun j => j = C0) w21a W) (by kernel_rfl) (Off.of hB) (fun hHeld => ?_)
        refine wpAnyH_take (i := 0) (v := ?_) (by simp only [List.getElem?_toArray, List.getElem?_cons_zero]; rfl) (by kernel_rfl) (by kernel_rfl) (by kernel_rfl) (by exact fun _ _ _ h => h) (Or.inl ⟨by rfl, ?_⟩) (by assumption) ?_
        rotate_left
        · (intro w hSw; (try dsimp only at hSw); go_simp; (try with_reducible rfl))
        try simp only [Act.put, List.setIfInBounds_toArray, List.set_cons_zero, List.set_cons_succ]
        refine wpAnyH_take (i := 2) (v := ?_) (by simp only [List.getElem?_toArray, List.getElem?_cons_zero, List.getElem?_cons_succ]; rfl) (by kernel_rfl) (by kernel_rfl) (by kernel_rfl) (by exact fun _ _ _ h => h) (Or.inl ⟨by rfl, ?_⟩) (by assumption) ?_
        rotate_left
        · (intro w hSw; (try dsimp only at hSw); go_simp; (try with_reducible rfl))
        try simp only [Act.put, List.setIfInBounds_toArray, List.set_cons_zero, List.set_cons_succ]
        refine wpAnyH_take (i := 3) (v := ?_) (by simp only [List.getElem?_toArray, List.getElem?_cons_zero, List.getElem?_cons_succ]; rfl) (by kernel_rfl) (by kernel_rfl) (by kernel_rfl) (by exact fun _ _ _ h => h) (Or.inl ⟨by rfl, ?_⟩) (by assumption) ?_
        rotate_left
        · (intro w hSw; (try dsimp only at hSw); go_simp; (try with_reducible rfl))
        try simp only [Act.put, List.setIfInBounds_toArray, List.set_cons_zero, List.set_cons_succ]
        refine wpAnyH_take (i := 4) (v := ?_) (by simp only [List.getElem?_toArray, List.getElem?_cons_zero, List.getElem?_cons_succ]; rfl) (by kernel_rfl) (by kernel_rfl) (by kernel_rfl) (by exact fun _ _ _ h => h) (Or.inl ⟨by rfl, ?_⟩) (by assumption) ?_
        rotate_left
        · (intro w hSw; (try dsimp only at hSw); go_simp; (try with_reducible rfl))
        try simp only [Act.put, List.setIfInBounds_toArray, List.set_cons_zero, List.set_cons_succ]
        refine wpAnyH_take (i := 5) (v := .slice a8 N cap8) (by simp only [List.getElem?_toArray, List.getElem?_cons_zero, List.getElem?_cons_succ]; rfl) (by kernel_rfl) (by kernel_rfl) (by kernel_rfl) (by exact fun _ _ _ h => h) (Or.inl ⟨by rfl, fun w hSw => xl_cell 23 (hSw.box hBx8 hneB) rfl rfl Try.underlying23 rfl rfl⟩) (by assumption) ?_
        try simp only [Act.put, List.setIfInBounds_toArray, List.set_cons_zero, List.set_cons_succ]
        refine wpAnyH_take (i := 6) (v := ?_) (by simp only [List.getElem?_toArray, List.getElem?_cons_zero, List.getElem?_cons_succ]; rfl) (by kernel_rfl) (by kernel_rfl) (by kernel_rfl) (by exact fun _ _ _ h => h) (Or.inl ⟨by rfl, ?_⟩) (by assumption) ?_
        rotate_left
        · (intro w hSw; (try dsimp only at hSw); go_simp; (try with_reducible rfl))
        try simp only [Act.put, List.setIfInBounds_toArray, List.set_cons_zero, List.set_cons_succ]
        refine wpAnyH_take (i := 7) (v := sliced a8 0 i cap8 3) (by simp only [List.getElem?_toArray, List.getElem?_cons_zero, List.getElem?_cons_succ]; rfl) (by kernel_rfl) (by kernel_rfl) (by kernel_rfl) (by exact fun _ _ _ h => h) (Or.inl ⟨by rfl, fun w hSw => xl_pre ht45 hs45 rfl rfl rfl hic8⟩) (by assumption) ?_
        try simp only [Act.put, List.setIfInBounds_toArray, List.set_cons_zero, List.set_cons_succ]
        refine wpAnyH_take (i := 9) (v := .agg (cA x)) (by simp only [List.getElem?_toArray, List.getElem?_cons_zero, List.getElem?_cons_succ]; rfl) (by kernel_rfl) (by kernel_rfl) (by kernel_rfl) (by exact fun _ _ _ h => h) (Or.inl ⟨by rfl, fun w hSw => xl_load 25 (hSw.box XC8 hneX) rfl rfl Try.underlying25 rfl size25 (by omega : 0 + 3 ≤ 3) (cA_all _)⟩) (by assumption) ?_
        try simp only [Act.put, List.setIfInBounds_toArray, List.set_cons_zero, List.set_cons_succ]
        refine wpAnyH_take (i := 12) (v := ?_) (by simp only [List.getElem?_toArray, List.getElem?_cons_zero, List.getElem?_cons_succ]; rfl) (by kernel_rfl) (by kernel_rfl) (by kernel_rfl) (by exact fun _ _ _ h => h) (Or.inl ⟨by rfl, ?_⟩) (by assumption) ?_
        rotate_left
        · (intro w hSw; (try dsimp only at hSw); go_simp; (try with_reducible rfl))
        try simp only [Act.put, List.setIfInBounds_toArray, List.set_cons_zero, List.set_cons_succ]
        refine wpAnyH_take (i := 13) (v := ?_) (by simp only [List.getElem?_toArray, List.getElem?_cons_zero, List.getElem?_cons_succ]; rfl) (by kernel_rfl) (by kernel_rfl) (by kernel_rfl) (by exact fun _ _ _ h => h) (Or.inl ⟨by rfl, ?_⟩) (by assumption) ?_
        rotate_left
        · (intro w hSw; (try dsimp only at hSw); go_simp; (try with_reducible rfl))
        try simp only [Act.put, List.setIfInBounds_toArray, List.set_cons_zero, List.set_cons_succ]
        refine wpAnyH_take (i := 14) (v := ?_) (by simp only [List.getElem?_toArray, List.getElem?_cons_zero, List.getElem?_cons_succ]; rfl) (by kernel_rfl) (by kernel_rfl) (by kernel_rfl) (by exact fun _ _ _ h => h) (Or.inl ⟨by rfl, ?_⟩) (by assumption) ?_
        rotate_left
        · (intro w hSw; (try dsimp only at hSw); go_simp; (try with_reducible rfl))
        try simp only [Act.put, List.setIfInBounds_toArray, List.set_cons_zero, List.set_cons_succ]
        refine wpAnyH_take (i := 15) (v := .slice a8 N cap8) (by simp only [List.getElem?_toArray, List.getElem?_cons_zero, List.getElem?_cons_succ]; rfl) (by kernel_rfl) (by kernel_rfl) (by kernel_rfl) (by exact fun _ _ _ h => h) (Or.inl ⟨by rfl, fun w hSw => xl_cell 23 (hSw.box hBx8 hneB) rfl rfl Try.underlying23 rfl rfl⟩) (by assumption) ?_
        try simp only [Act.put, List.setIfInBounds_toArray, List.set_cons_zero, List.set_cons_succ]
        refine wpAnyH_take (i := 16) (v := ?_) (by simp only [List.getElem?_toArray, List.getElem?_cons_zero, List.getElem?_cons_succ]; rfl) (by kernel_rfl) (by kernel_rfl) (by kernel_rfl) (by exact fun _ _ _ h => h) (Or.inl ⟨by rfl, ?_⟩) (by assumption) ?_
        rotate_left
        · (intro w hSw; (try dsimp only at hSw); go_simp; (try with_reducible rfl))
        try simp only [Act.put, List.setIfInBounds_toArray, List.set_cons_zero, List.set_cons_succ]
        refine wpAnyH_take (i := 17) (v := sliced a8 i N cap8 3) (by simp only [List.getElem?_toArray, List.getElem?_cons_zero, List.getElem?_cons_succ]; rfl) (by kernel_rfl) (by kernel_rfl) (by kernel_rfl) (by exact fun _ _ _ h => h) (Or.inl ⟨by rfl, fun w hSw => xl_suf ht45 hs45 rfl rfl rfl hiN⟩) (by assumption) ?_
        try simp only [Act.put, List.setIfInBounds_toArray, List.set_cons_zero, List.set_cons_succ]
        refine wpAnyH_ready (rs := [1, 10]) (by kernel_rfl) (by simp) ?_
        refine AllReadyH.cons (by simp only [List.getElem?_toArray, List.getElem?_cons_zero, List.getElem?_cons_succ]; rfl) (fun K hK => ?_) ?_
        · refine st_sl0 23 25 rfl rfl Try.underlying23 size25 ?_
          intro wab Xa Ta
          have E1 := own_empty (α := Cv) (s := 3) (f := fC) Xa hB.size
          replace hB := ups hB Ta hB.size
          refine hK.out _ _ (Off.of hB) (fun hHeld => ?_)
          clear hK K
          try simp only [Act.put, List.setIfInBounds_toArray, List.set_cons_zero, List.set_cons_succ]
          refine wpAnyH_ready (rs := [8, 10]) (by kernel_rfl) (by simp) ?_
          refine AllReadyH.cons (by simp only [List.getElem?_toArray, List.getElem?_cons_zero, List.getElem?_cons_succ]; rfl) (fun K hK => ?_) ?_
          · refine step_view rowCv cellsC rfl _ _ rfl w21a.heap.size _ _ [] ((cvsK b.L).take i) 0 i rfl hti8.out rfl E1 rfl (view_pre cellsC (by decide) (own_below h8 hB) hiN) (by omega) hB.size ?_
            intro v8b w8b O8 G8
            rw [List.nil_append, Nat.zero_add] at O8
            replace hB := hB.grown G8 hB.size (fun g e => (E1.lt g e).1)
            refine hK.out _ _ (Off.of hB) (fun hHeld => ?_)
            clear hK K
            try simp only [Act.put, List.setIfInBounds_toArray, List.set_cons_zero, List.set_cons_succ]
            refine wpAnyH_ready (rs := [10]) (by kernel_rfl) (by simp) ?_
            refine AllReadyH.cons (by simp only [List.getElem?_toArray, List.getElem?_cons_zero, List.getElem?_cons_succ]; rfl) (fun K hK => ?_) AllReadyH.nil
            refine st_sl 23 25 rfl rfl rfl Try.underlying23 (bslC _) ?_
            intro wbb X10 Tb
            replace O8 := own_below O8 Tb
            replace hB := ups hB Tb hB.size
            refine hK.out _ _ (Off.of hB) (fun hHeld => ?_)
            clear hK K
            try simp only [Act.put, List.setIfInBounds_toArray, List.set_cons_zero, List.set_cons_succ]
            have F10 := flat_new (f := fC) (x := x) X10 rfl
            refine wpAnyH_ready (rs := [11]) (by kernel_rfl) (by simp) ?_
            refine AllReadyH.cons (by simp only [List.getElem?_toArray, List.getElem?_cons_zero, List.getElem?_cons_succ]; rfl) (fun K hK => ?_) AllReadyH.nil
            refine step_more rowCv cellsC rfl _ _ rfl w21a.heap.size _ ((cvsK b.L).take i) [x] i 1 hti8.out rfl rfl O8 _ 1 rfl F10 (by omega) hB.size ?_
            intro v11b w11b O11 G11 N11 _
            replace hB := hB.grown G11 hB.size (fun g e => (O8.lt g e).1)
            refine hK.out _ _ (Off.of hB) (fun hHeld => ?_)
            clear hK K
            try simp only [Act.put, List.setIfInBounds_toArray, List.set_cons_zero, List.set_cons_succ]
            refine wpAnyH_ready (rs := [18]) (by kernel_rfl) (by simp) ?_
            refine AllReadyH.cons (by simp only [List.getElem?_toArray, List.getElem?_cons_zero, List.getElem?_cons_succ]; rfl) (fun K hK => ?_) AllReadyH.nil
            refine step_view rowCv cellsC rfl _ _ rfl w21a.heap.size _ _ ((cvsK b.L).take i ++ [x]) ((cvsK b.L).drop i) (i + 1) (N - i) (by rw [List.length_append, hti8.out]; rfl) hdi8.out rfl O11 rfl (view_suf cellsC (by decide) (own_below h8 hB) hiN) (by omega) hB.size ?_
            intro v18b w18b O18b G18
            replace hB := hB.grown G18 hB.size (fun g e => (O11.lt g e).1)
            obtain ⟨a18b, c18b, rfl, _⟩ := own_len O18b
            refine hK.out _ _ (Off.of hB) (fun hHeld => ?_)
            clear hK K
            try simp only [Act.put, List.setIfInBounds_toArray, List.set_cons_zero, List.set_cons_succ]
            refine wpAnyH_take (i := 19) (v := ?_) (by simp only [List.getElem?_toArray, List.getElem?_cons_zero, List.getElem?_cons_succ]; rfl) (by kernel_rfl) (by kernel_rfl) (by kernel_rfl) (by exact fun _ _ _ h => h) (Or.inl ⟨by rfl, ?_⟩) (by assumption) ?_
            rotate_left
            · (intro w hSw; (try dsimp only at hSw); go_simp; (try with_reducible rfl))
            try simp only [Act.put, List.setIfInBounds_toArray, List.set_cons_zero, List.set_cons_succ]
            refine wpAnyH_take (i := 20) (v := ?_) (by simp only [List.getElem?_toArray, List.getElem?_cons_zero, List.getElem?_cons_succ]; rfl) (by kernel_rfl) (by kernel_rfl) (by kernel_rfl) (by exact fun _ _ _ h => h) (Or.inl ⟨by rfl, ?_⟩) (by assumption) ?_
            rotate_left
            · (intro w hSw; (try dsimp only at hSw); go_simp; (try with_reducible rfl))
            try simp only [Act.put, List.setIfInBounds_toArray, List.set_cons_zero, List.set_cons_succ]
            refine wpAnyH_ready (rs := [21]) (by kernel_rfl) (by simp) ?_
            refine AllReadyH.cons (by simp only [List.getElem?_toArray, List.getElem?_cons_zero, List.getElem?_cons_succ]; rfl) (fun K hK => ?_) AllReadyH.nil
            refine st_put 23 (v := .slice a18b (i + 1 + (N - i)) c18b) (Y21a.below hB) rfl rfl rfl rfl rfl rfl size45 (by decide : 2 < 4) (rfl : _ = rA b.R (.slice a18a (i + 1 + (N - i)) c18a) (.slice a18b (i + 1 + (N - i)) c18b) u3) ?_
            intro w21b Y21b K21b
            refine hK.out _ _ ((Off.of hB).but K21b (.inr rfl)) (fun hHeld => ?_)
            clear hK K
            try simp only [Act.put, List.setIfInBounds_toArray, List.set_cons_zero, List.set_cons_succ]
            refine wpAnyH_done (by kernel_rfl) ?_ _
            clear hHeld
            go_wp2_with fail
            all_goals go_ret
            all_goals exact hfin.out _ _ _ _ _ _ _ _ hBa K21a hB K21b Y21b O18a O18b
          refine AllReadyH.cons (by simp only [List.getElem?_toArray, List.getElem?_cons_zero, List.getElem?_cons_succ]; rfl) (fun K hK => ?_) AllReadyH.nil
          refine st_sl 23 25 rfl rfl rfl Try.underlying23 (bslC _) ?_
          intro wbb X10 Tb
          have ne10 := own_lt_ne E1 (Nat.le_refl _)
          replace E1 := own_below E1 Tb
          replace hB := ups hB Tb hB.size
          refine hK.out _ _ (Off.of hB) (fun hHeld => ?_)
          clear hK K
          try simp only [Act.put, List.setIfInBounds_toArray, List.set_cons_zero, List.set_cons_succ]
          refine wpAnyH_ready (rs := [8]) (by kernel_rfl) (by simp) ?_
          refine AllReadyH.cons (by simp only [List.getElem?_toArray, List.getElem?_cons_zero, List.getElem?_cons_succ]; rfl) (fun K hK => ?_) AllReadyH.nil
          refine step_view rowCv cellsC rfl _ _ rfl w21a.heap.size _ _ [] ((cvsK b.L).take i) 0 i rfl hti8.out rfl E1 rfl (view_pre cellsC (by decide) (own_below h8 hB) hiN) (by omega) hB.size ?_
          intro v8b w8b O8 G8
          rw [List.nil_append, Nat.zero_add] at O8
          replace X10 := X10.grown G8 (fun e => ne10 e.symm)
          replace hB := hB.grown G8 hB.size (fun g e => (E1.lt g e).1)
          refine hK.out _ _ (Off.of hB) (fun hHeld => ?_)
          clear hK K
          try simp only [Act.put, List.setIfInBounds_toArray, List.set_cons_zero, List.set_cons_succ]
          have F10 := flat_new (f := fC) (x := x) X10 rfl
          refine wpAnyH_ready (rs := [11]) (by kernel_rfl) (by simp) ?_
          refine AllReadyH.cons (by simp only [List.getElem?_toArray, List.getElem?_cons_zero, List.getElem?_cons_succ]; rfl) (fun K hK => ?_) AllReadyH.nil
          refine step_more rowCv cellsC rfl _ _ rfl w21a.heap.size _ ((cvsK b.L).take i) [x] i 1 hti8.out rfl rfl O8 _ 1 rfl F10 (by omega) hB.size ?_
          intro v11b w11b O11 G11 N11 _
          replace hB := hB.grown G11 hB.size (fun g e => (O8.lt g e).1)
          refine hK.out _ _ (Off.of hB) (fun hHeld => ?_)
          clear hK K
          try simp only [Act.put, List.setIfInBounds_toArray, List.set_cons_zero, List.set_cons_succ]
          refine wpAnyH_ready (rs := [18]) (by kernel_rfl) (by simp) ?_
          refine AllReadyH.cons (by simp only [List.getElem?_toArray, List.getElem?_cons_zero, List.getElem?_cons_succ]; rfl) (fun K hK => ?_) AllReadyH.nil
          refine step_view rowCv cellsC rfl _ _ rfl w21a.heap.size _ _ ((cvsK b.L).take i ++ [x]) ((cvsK b.L).drop i) (i + 1) (N - i) (by rw [List.length_append, hti8.out]; rfl) hdi8.out rfl O11 rfl (view_suf cellsC (by decide) (own_below h8 hB) hiN) (by omega) hB.size ?_
          intro v18b w18b O18b G18
          replace hB := hB.grown G18 hB.size (fun g e => (O11.lt g e).1)
          obtain ⟨a18b, c18b, rfl, _⟩ := own_len O18b
          refine hK.out _ _ (Off.of hB) (fun hHeld => ?_)
          clear hK K
          try simp only [Act.put, List.setIfInBounds_toArray, List.set_cons_zero, List.set_cons_succ]
          refine wpAnyH_take (i := 19) (v := ?_) (by simp only [List.getElem?_toArray, List.getElem?_cons_zero, List.getElem?_cons_succ]; rfl) (by kernel_rfl) (by kernel_rfl) (by kernel_rfl) (by exact fun _ _ _ h => h) (Or.inl ⟨by rfl, ?_⟩) (by assumption) ?_
          rotate_left
          · (intro w hSw; (try dsimp only at hSw); go_simp; (try with_reducible rfl))
          try simp only [Act.put, List.setIfInBounds_toArray, List.set_cons_zero, List.set_cons_succ]
          refine wpAnyH_take (i := 20) (v := ?_) (by simp only [List.getElem?_toArray, List.getElem?_cons_zero, List.getElem?_cons_succ]; rfl) (by kernel_rfl) (by kernel_rfl) (by kernel_rfl) (by exact fun _ _ _ h => h) (Or.inl ⟨by rfl, ?_⟩) (by assumption) ?_
          rotate_left
          · (intro w hSw; (try dsimp only at hSw); go_simp; (try with_reducible rfl))
          try simp only [Act.put, List.setIfInBounds_toArray, List.set_cons_zero, List.set_cons_succ]
          refine wpAnyH_ready (rs := [21]) (by kernel_rfl) (by simp) ?_
          refine AllReadyH.cons (by simp only [List.getElem?_toArray, List.getElem?_cons_zero, List.getElem?_cons_succ]; rfl) (fun K hK => ?_) AllReadyH.nil
          refine st_put 23 (v := .slice a18b (i + 1 + (N - i)) c18b) (Y21a.below hB) rfl rfl rfl rfl rfl rfl size45 (by decide : 2 < 4) (rfl : _ = rA b.R (.slice a18a (i + 1 + (N - i)) c18a) (.slice a18b (i + 1 + (N - i)) c18b) u3) ?_
          intro w21b Y21b K21b
          refine hK.out _ _ ((Off.of hB).but K21b (.inr rfl)) (fun hHeld => ?_)
          clear hK K
          try simp only [Act.put, List.setIfInBounds_toArray, List.set_cons_zero, List.set_cons_succ]
          refine wpAnyH_done (by kernel_rfl) ?_ _
          clear hHeld
          go_wp2_with fail
          all_goals go_ret
          all_goals exact hfin.out _ _ _ _ _ _ _ _ hBa K21a hB K21b Y21b O18a O18b
        refine AllReadyH.cons (by simp only [List.getElem?_toArray, List.getElem?_cons_zero, List.getElem?_cons_succ]; rfl) (fun K hK => ?_) AllReadyH.nil
        refine st_sl 23 25 rfl rfl rfl Try.underlying23 (bslC _) ?_
        intro wbb X10 Tb
        replace hB := ups hB Tb hB.size
        refine hK.out _ _ (Off.of hB) (fun hHeld => ?_)
        clear hK K
        try simp only [Act.put, List.setIfInBounds_toArray, List.set_cons_zero, List.set_cons_succ]
        refine wpAnyH_ready (rs := [1]) (by kernel_rfl) (by simp) ?_
        refine AllReadyH.cons (by simp only [List.getElem?_toArray, List.getElem?_cons_zero, List.getElem?_cons_succ]; rfl) (fun K hK => ?_) AllReadyH.nil
        refine st_sl0 23 25 rfl rfl Try.underlying23 size25 ?_
        intro wab Xa Ta
        have ne10 := own_new_ne X10 (n := 0) (c := 0) (Nat.le_refl _)
        replace X10 := X10.below Ta
        have E1 := own_empty (α := Cv) (s := 3) (f := fC) Xa hB.size
        replace hB := ups hB Ta hB.size
        refine hK.out _ _ (Off.of hB) (fun hHeld => ?_)
        clear hK K
        try simp only [Act.put, List.setIfInBounds_toArray, List.set_cons_zero, List.set_cons_succ]
        refine wpAnyH_ready (rs := [8]) (by kernel_rfl) (by simp) ?_
        refine AllReadyH.cons (by simp only [List.getElem?_toArray, List.getElem?_cons_zero, List.getElem?_cons_succ]; rfl) (fun K hK => ?_) AllReadyH.nil
        refine step_view rowCv cellsC rfl _ _ rfl w21a.heap.size _ _ [] ((cvsK b.L).take i) 0 i rfl hti8.out rfl E1 rfl (view_pre cellsC (by decide) (own_below h8 hB) hiN) (by omega) hB.size ?_
        intro v8b w8b O8 G8
        rw [List.nil_append, Nat.zero_add] at O8
        replace X10 := X10.grown G8 (fun e => ne10 e.symm)
        replace hB := hB.grown G8 hB.size (fun g e => (E1.lt g e).1)
        refine hK.out _ _ (Off.of hB) (fun hHeld => ?_)
        clear hK K
        try simp only [Act.put, List.setIfInBounds_toArray, List.set_cons_zero, List.set_cons_succ]
        have F10 := flat_new (f := fC) (x := x) X10 rfl
        refine wpAnyH_ready (rs := [11]) (by kernel_rfl) (by simp) ?_
        refine AllReadyH.cons (by simp only [List.getElem?_toArray, List.getElem?_cons_zero, List.getElem?_cons_succ]; rfl) (fun K hK => ?_) AllReadyH.nil
        refine step_more rowCv cellsC rfl _ _ rfl w21a.heap.size _ ((cvsK b.L).take i) [x] i 1 hti8.out rfl rfl O8 _ 1 rfl F10 (by omega) hB.size ?_
        intro v11b w11b O11 G11 N11 _
        replace hB := hB.grown G11 hB.size (fun g e => (O8.lt g e).1)
        refine hK.out _ _ (Off.of hB) (fun hHeld => ?_)
        clear hK K
        try simp only [Act.put, List.setIfInBounds_toArray, List.set_cons_zero, List.set_cons_succ]
        refine wpAnyH_ready (rs := [18]) (by kernel_rfl) (by simp) ?_
        refine AllReadyH.cons (by simp only [List.getElem?_toArray, List.getElem?_cons_zero, List.getElem?_cons_succ]; rfl) (fun K hK => ?_) AllReadyH.nil
        refine step_view rowCv cellsC rfl _ _ rfl w21a.heap.size _ _ ((cvsK b.L).take i ++ [x]) ((cvsK b.L).drop i) (i + 1) (N - i) (by rw [List.length_append, hti8.out]; rfl) hdi8.out rfl O11 rfl (view_suf cellsC (by decide) (own_below h8 hB) hiN) (by omega) hB.size ?_
        intro v18b w18b O18b G18
        replace hB := hB.grown G18 hB.size (fun g e => (O11.lt g e).1)
        obtain ⟨a18b, c18b, rfl, _⟩ := own_len O18b
        refine hK.out _ _ (Off.of hB) (fun hHeld => ?_)
        clear hK K
        try simp only [Act.put, List.setIfInBounds_toArray, List.set_cons_zero, List.set_cons_succ]
        refine wpAnyH_take (i := 19) (v := ?_) (by simp only [List.getElem?_toArray, List.getElem?_cons_zero, List.getElem?_cons_succ]; rfl) (by kernel_rfl) (by kernel_rfl) (by kernel_rfl) (by exact fun _ _ _ h => h) (Or.inl ⟨by rfl, ?_⟩) (by assumption) ?_
        rotate_left
        · (intro w hSw; (try dsimp only at hSw); go_simp; (try with_reducible rfl))
        try simp only [Act.put, List.setIfInBounds_toArray, List.set_cons_zero, List.set_cons_succ]
        refine wpAnyH_take (i := 20) (v := ?_) (by simp only [List.getElem?_toArray, List.getElem?_cons_zero, List.getElem?_cons_succ]; rfl) (by kernel_rfl) (by kernel_rfl) (by kernel_rfl) (by exact fun _ _ _ h => h) (Or.inl ⟨by rfl, ?_⟩) (by assumption) ?_
        rotate_left
        · (intro w hSw; (try dsimp only at hSw); go_simp; (try with_reducible rfl))
        try simp only [Act.put, List.setIfInBounds_toArray, List.set_cons_zero, List.set_cons_succ]
        refine wpAnyH_ready (rs := [21]) (by kernel_rfl) (by simp) ?_
        refine AllReadyH.cons (by simp only [List.getElem?_toArray, List.getElem?_cons_zero, List.getElem?_cons_succ]; rfl) (fun K hK => ?_) AllReadyH.nil
        refine st_put 23 (v := .slice a18b (i + 1 + (N - i)) c18b) (Y21a.below hB) rfl rfl rfl rfl rfl rfl size45 (by decide : 2 < 4) (rfl : _ = rA b.R (.slice a18a (i + 1 + (N - i)) c18a) (.slice a18b (i + 1 + (N - i)) c18b) u3) ?_
        intro w21b Y21b K21b
        refine hK.out _ _ ((Off.of hB).but K21b (.inr rfl)) (fun hHeld => ?_)
        clear hK K
        try simp only [Act.put, List.setIfInBounds_toArray, List.set_cons_zero, List.set_cons_succ]
        refine wpAnyH_done (by kernel_rfl) ?_ _
        clear hHeld
        go_wp2_with fail
        all_goals go_ret
        all_goals exact hfin.out _ _ _ _ _ _ _ _ hBa K21a hB K21b Y21b O18a O18b
    · have i1 : ¬ (i : Int) < (N : Int) := by omega
      have hst : ∀ q', (idsK b.L)[i]? = some q' → ¬ q' < k := fun q' hq' => by rw [List.getElem?_eq_none (by rw [hilh.out]; omega)] at hq'; cases hq'
      have hfin := Lib.hid (hfi.out hst)
      clear hst hfi
      go_upto_region 7 with fail
      have hB := drew_below wr
      refine wp_region_held_drew (S := fun W => Off (fun j => j = C0) wr W) (by kernel_rfl) (Off.of hB) (fun hHeld => ?_)
      refine wpAnyH_take (i := 0) (v := ?_) (by simp only [List.getElem?_toArray, List.getElem?_cons_zero]; rfl) (by kernel_rfl) (by kernel_rfl) (by kernel_rfl) (by exact fun _ _ _ h => h) (Or.inl ⟨by rfl, ?_⟩) (by assumption) ?_
      rotate_left
      · (intro w hSw; (try dsimp only at hSw); go_simp; (try with_reducible rfl))
      try simp only [Act.put, List.setIfInBounds_toArray, List.set_cons_zero, List.set_cons_succ]
      refine wpAnyH_take (i := 2) (v := ?_) (by simp only [List.getElem?_toArray, List.getElem?_cons_zero, List.getElem?_cons_succ]; rfl) (by kernel_rfl) (by kernel_rfl) (by kernel_rfl) (by exact fun _ _ _ h => h) (Or.inl ⟨by rfl, ?_⟩) (by assumption) ?_
      rotate_left
      · (intro w hSw; (try dsimp only at hSw); go_simp; (try with_reducible rfl))
      try simp only [Act.put, List.setIfInBounds_toArray, List.set_cons_zero, List.set_cons_succ]
      refine wpAnyH_take (i := 3) (v := ?_) (by simp only [List.getElem?_toArray, List.getElem?_cons_zero, List.getElem?_cons_succ]; rfl) (by kernel_rfl) (by kernel_rfl) (by kernel_rfl) (by exact fun _ _ _ h => h) (Or.inl ⟨by rfl, ?_⟩) (by assumption) ?_
      rotate_left
      · (intro w hSw; (try dsimp only at hSw); go_simp; (try with_reducible rfl))
      try simp only [Act.put, List.setIfInBounds_toArray, List.set_cons_zero, List.set_cons_succ]
      refine wpAnyH_take (i := 4) (v := ?_) (by simp only [List.getElem?_toArray, List.getElem?_cons_zero, List.getElem?_cons_succ]; rfl) (by kernel_rfl) (by kernel_rfl) (by kernel_rfl) (by exact fun _ _ _ h => h) (Or.inl ⟨by rfl, ?_⟩) (by assumption) ?_
      rotate_left
      · (intro w hSw; (try dsimp only at hSw); go_simp; (try with_reducible rfl))
      try simp only [Act.put, List.setIfInBounds_toArray, List.set_cons_zero, List.set_cons_succ]
      refine wpAnyH_take (i := 5) (v := .slice a7 N cap7) (by simp only [List.getElem?_toArray, List.getElem?_cons_zero, List.getElem?_cons_succ]; rfl) (by kernel_rfl) (by kernel_rfl) (by kernel_rfl) (by exact fun _ _ _ h => h) (Or.inl ⟨by rfl, fun w hSw => xl_cell 48 (hSw.box hBx7 hneB) rfl rfl Try.underlying48 rfl rfl⟩) (by assumption) ?_
      try simp only [Act.put, List.setIfInBounds_toArray, List.set_cons_zero, List.set_cons_succ]
      refine wpAnyH_take (i := 6) (v := ?_) (by simp only [List.getElem?_toArray, List.getElem?_cons_zero, List.getElem?_cons_succ]; rfl) (by kernel_rfl) (by kernel_rfl) (by kernel_rfl) (by exact fun _ _ _ h => h) (Or.inl ⟨by rfl, ?_⟩) (by assumption) ?_
      rotate_left
      · (intro w hSw; (try dsimp only at hSw); go_simp; (try with_reducible rfl))
      try simp only [Act.put, List.setIfInBounds_toArray, List.set_cons_zero, List.set_cons_succ]
      refine wpAnyH_take (i := 7) (v := sliced a7 0 i cap7 1) (by simp only [List.getElem?_toArray, List.getElem?_cons_zero, List.getElem?_cons_succ]; rfl) (by kernel_rfl) (by kernel_rfl) (by kernel_rfl) (by exact fun _ _ _ h => h) (Or.inl ⟨by rfl, fun w hSw => xl_pre ht44 hs44 rfl rfl rfl hic7⟩) (by assumption) ?_
      try simp only [Act.put, List.setIfInBounds_toArray, List.set_cons_zero, List.set_cons_succ]
      refine wpAnyH_take (i := 9) (v := ?_) (by simp only [List.getElem?_toArray, List.getElem?_cons_zero, List.getElem?_cons_succ]; rfl) (by kernel_rfl) (by kernel_rfl) (by kernel_rfl) (by exact fun _ _ _ h => h) (Or.inl ⟨by rfl, ?_⟩) (by assumption) ?_
      rotate_left
      · (intro w hSw; (try dsimp only at hSw); go_simp; (try with_reducible rfl))
      try simp only [Act.put, List.setIfInBounds_toArray, List.set_cons_zero, List.set_cons_succ]
      refine wpAnyH_take (i := 12) (v := ?_) (by simp only [List.getElem?_toArray, List.getElem?_cons_zero, List.getElem?_cons_succ]; rfl) (by kernel_rfl) (by kernel_rfl) (by kernel_rfl) (by exact fun _ _ _ h => h) (Or.inl ⟨by rfl, ?_⟩) (by assumption) ?_
      rotate_left
      · (intro w hSw; (try dsimp only at hSw); go_simp; (try with_reducible rfl))
      try simp only [Act.put, List.setIfInBounds_toArray, List.set_cons_zero, List.set_cons_succ]
      refine wpAnyH_take (i := 13) (v := ?_) (by simp only [List.getElem?_toArray, List.getElem?_cons_zero, List.getElem?_cons_succ]; rfl) (by kernel_rfl) (by kernel_rfl) (by kernel_rfl) (by exact fun _ _ _ h => h) (Or.inl ⟨by rfl, ?_⟩) (by assumption) ?_
      rotate_left
      · (intro w hSw; (try dsimp only at hSw); go_simp; (try with_reducible rfl))
      try simp only [Act.put, List.setIfInBounds_toArray, List.set_cons_zero, List.set_cons_succ]
      refine wpAnyH_take (i := 14) (v := ?_) (by simp only [List.getElem?_toArray, List.getElem?_cons_zero, List.getElem?_cons_succ]; rfl) (by kernel_rfl) (by kernel_rfl) (by kernel_rfl) (by exact fun _ _ _ h => h) (Or.inl ⟨by rfl, ?_⟩) (by assumption) ?_
      rotate_left
      · (intro w hSw; (try dsimp only at hSw); go_simp; (try with_reducible rfl))
      try simp only [Act.put, List.setIfInBounds_toArray, List.set_cons_zero, List.set_cons_succ]
      refine wpAnyH_take (i := 15) (v := .slice a7 N cap7) (by simp only [List.getElem?_toArray, List.getElem?_cons_zero, List.getElem?_cons_succ]; rfl) (by kernel_rfl) (by kernel_rfl) (by kernel_rfl) (by exact fun _ _ _ h => h) (Or.inl ⟨by rfl, fun w hSw => xl_cell 48 (hSw.box hBx7 hneB) rfl rfl Try.underlying48 rfl rfl⟩) (by assumption) ?_
      try simp only [Act.put, List.setIfInBounds_toArray, List.set_cons_zero, List.set_cons_succ]
      refine wpAnyH_take (i := 16) (v := ?_) (by simp only [List.getElem?_toArray, List.getElem?_cons_zero, List.getElem?_cons_succ]; rfl) (by kernel_rfl) (by kernel_rfl) (by kernel_rfl) (by exact fun _ _ _ h => h) (Or.inl ⟨by rfl, ?_⟩) (by assumption) ?_
      rotate_left
      · (intro w hSw; (try dsimp only at hSw); go_simp; (try with_reducible rfl))
      try simp only [Act.put, List.setIfInBounds_toArray, List.set_cons_zero, List.set_cons_succ]
      refine wpAnyH_take (i := 17) (v := sliced a7 i N cap7 1) (by simp only [List.getElem?_toArray, List.getElem?_cons_zero, List.getElem?_cons_succ]; rfl) (by kernel_rfl) (by kernel_rfl) (by kernel_rfl) (by exact fun _ _ _ h => h) (Or.inl ⟨by rfl, fun w hSw => xl_suf ht44 hs44 rfl rfl rfl hiN⟩) (by assumption) ?_
      try simp only [Act.put, List.setIfInBounds_toArray, List.set_cons_zero, List.set_cons_succ]
      refine wpAnyH_ready (rs := [1, 10]) (by kernel_rfl) (by simp) ?_
      refine AllReadyH.cons (by simp only [List.getElem?_toArray, List.getElem?_cons_zero, List.getElem?_cons_succ]; rfl) (fun K hK => ?_) ?_
      · refine st_sl0 48 3 rfl rfl Try.underlying48 size3 ?_
        intro waa Xa Ta
        have E1 := own_empty (α := Int) (s := 1) (f := fI) Xa hB.size
        replace hB := ups hB Ta hB.size
        refine hK.out _ _ (Off.of hB) (fun hHeld => ?_)
        clear hK K
        try simp only [Act.put, List.setIfInBounds_toArray, List.set_cons_zero, List.set_cons_succ]
        refine wpAnyH_ready (rs := [8, 10]) (by kernel_rfl) (by simp) ?_
        refine AllReadyH.cons (by simp only [List.getElem?_toArray, List.getElem?_cons_zero, List.getElem?_cons_succ]; rfl) (fun K hK => ?_) ?_
        · refine step_view rowI cellsI rfl _ _ rfl wr.heap.size _ _ [] ((idsK b.L).take i) 0 i rfl hti7.out rfl E1 rfl (view_pre cellsI (by decide) (own_below h7 hB) hiN) (by omega) hB.size ?_
          intro v8a w8a O8 G8
          rw [List.nil_append, Nat.zero_add] at O8
          replace hB := hB.grown G8 hB.size (fun g e => (E1.lt g e).1)
          refine hK.out _ _ (Off.of hB) (fun hHeld => ?_)
          clear hK K
          try simp only [Act.put, List.setIfInBounds_toArray, List.set_cons_zero, List.set_cons_succ]
          refine wpAnyH_ready (rs := [10]) (by kernel_rfl) (by simp) ?_
          refine AllReadyH.cons (by simp only [List.getElem?_toArray, List.getElem?_cons_zero, List.getElem?_cons_succ]; rfl) (fun K hK => ?_) AllReadyH.nil
          refine st_sl 48 3 rfl rfl rfl Try.underlying48 (bslI _) ?_
          intro wba X10 Tb
          replace O8 := own_below O8 Tb
          replace hB := ups hB Tb hB.size
          refine hK.out _ _ (Off.of hB) (fun hHeld => ?_)
          clear hK K
          try simp only [Act.put, List.setIfInBounds_toArray, List.set_cons_zero, List.set_cons_succ]
          have F10 := flat_new (f := fI) (x := k) X10 rfl
          refine wpAnyH_ready (rs := [11]) (by kernel_rfl) (by simp) ?_
          refine AllReadyH.cons (by simp only [List.getElem?_toArray, List.getElem?_cons_zero, List.getElem?_cons_succ]; rfl) (fun K hK => ?_) AllReadyH.nil
          refine step_more rowI cellsI rfl _ _ rfl wr.heap.size _ ((idsK b.L).take i) [k] i 1 hti7.out rfl rfl O8 _ 1 rfl F10 (by omega) hB.size ?_
          intro v11a w11a O11 G11 N11 _
          replace hB := hB.grown G11 hB.size (fun g e => (O8.lt g e).1)
          refine hK.out _ _ (Off.of hB) (fun hHeld => ?_)
          clear hK K
          try simp only [Act.put, List.setIfInBounds_toArray, List.set_cons_zero, List.set_cons_succ]
          refine wpAnyH_ready (rs := [18]) (by kernel_rfl) (by simp) ?_
          refine AllReadyH.cons (by simp only [List.getElem?_toArray, List.getElem?_cons_zero, List.getElem?_cons_succ]; rfl) (fun K hK => ?_) AllReadyH.nil
          refine step_view rowI cellsI rfl _ _ rfl wr.heap.size _ _ ((idsK b.L).take i ++ [k]) ((idsK b.L).drop i) (i + 1) (N - i) (by rw [List.length_append, hti7.out]; rfl) hdi7.out rfl O11 rfl (view_suf cellsI (by decide) (own_below h7 hB) hiN) (by omega) hB.size ?_
          intro v18a w18a O18a G18
          replace hB := hB.grown G18 hB.size (fun g e => (O11.lt g e).1)
          obtain ⟨a18a, c18a, rfl, _⟩ := own_len O18a
          refine hK.out _ _ (Off.of hB) (fun hHeld => ?_)
          clear hK K
          try simp only [Act.put, List.setIfInBounds_toArray, List.set_cons_zero, List.set_cons_succ]
          refine wpAnyH_take (i := 19) (v := ?_) (by simp only [List.getElem?_toArray, List.getElem?_cons_zero, List.getElem?_cons_succ]; rfl) (by kernel_rfl) (by kernel_rfl) (by kernel_rfl) (by exact fun _ _ _ h => h) (Or.inl ⟨by rfl, ?_⟩) (by assumption) ?_
          rotate_left
          · (intro w hSw; (try dsimp only at hSw); go_simp; (try with_reducible rfl))
          try simp only [Act.put, List.setIfInBounds_toArray, List.set_cons_zero, List.set_cons_succ]
          refine wpAnyH_take (i := 20) (v := ?_) (by simp only [List.getElem?_toArray, List.getElem?_cons_zero, List.getElem?_cons_succ]; rfl) (by kernel_rfl) (by kernel_rfl) (by kernel_rfl) (by exact fun _ _ _ h => h) (Or.inl ⟨by rfl, ?_⟩) (by assumption) ?_
          rotate_left
          · (intro w hSw; (try dsimp only at hSw); go_simp; (try with_reducible rfl))
          try simp only [Act.put, List.setIfInBounds_toArray, List.set_cons_zero, List.set_cons_succ]
          refine wpAnyH_ready (rs := [21]) (by kernel_rfl) (by simp) ?_
          refine AllReadyH.cons (by simp only [List.getElem?_toArray, List.getElem?_cons_zero, List.getElem?_cons_succ]; rfl) (fun K hK => ?_) AllReadyH.nil
          refine st_put 48 (v := .slice a18a (i + 1 + (N - i)) c18a) (hCx.below hB) rfl rfl rfl rfl rfl rfl size44 (by decide : 1 < 4) (rfl : _ = rA b.R (.slice a18a (i + 1 + (N - i)) c18a) u2 u3) ?_
          intro w21a Y21a K21a
          refine hK.out _ _ ((Off.of hB).but K21a (.inr rfl)) (fun hHeld => ?_)
          clear hK K
          try simp only [Act.put, List.setIfInBounds_toArray, List.set_cons_zero, List.set_cons_succ]
          refine wpAnyH_done (by kernel_rfl) ?_ _
          clear hHeld
          have hBa := hB
          clear hB
          have hBx8 : Box w21a B (rA b.R (.slice a7 N cap7) (.slice a8 N cap8) v3) 60 := K21a.box (hBx7.below hBa) hneB
          have XC8 : Box w21a w.heap.size (cA x) 25 := K21a.box (X1r.below hBa) hneX
          have h8 : w21a.ownsRow base 25 3 (.slice a8 N cap8) N (rowC fC (cvsK b.L)) := own_but (own_below h8r hBa) K21a hn8
          go_upto_region 8 with fail
          have hB := drew_below w21a
          refine wp_region_held_drew (S := fun W => Off (fun j => j = C0) w21a W) (by kernel_rfl) (Off.of hB) (fun hHeld => ?_)
          refine wpAnyH_take (i := 0) (v := ?_) (by simp only [List.getElem?_toArray, List.getElem?_cons_zero]; rfl) (by kernel_rfl) (by kernel_rfl) (by kernel_rfl) (by exact fun _ _ _ h => h) (Or.inl ⟨by rfl, ?_⟩) (by assumption) ?_
          rotate_left
          · (intro w hSw; (try dsimp only at hSw); go_simp; (try with_reducible rfl))
          try simp only [Act.put, List.setIfInBounds_toArray, List.set_cons_zero, List.set_cons_succ]
          refine wpAnyH_take (i := 2) (v := ?_) (by simp only [List.getElem?_toArray, List.getElem?_cons_zero, List.getElem?_cons_succ]; rfl) (by kernel_rfl) (by kernel_rfl) (by kernel_rfl) (by exact fun _ _ _ h => h) (Or.inl ⟨by rfl, ?_⟩) (by assumption) ?_
          rotate_left
          · (intro w hSw; (try dsimp only at hSw); go_simp; (try with_reducible rfl))
          try simp only [Act.put, List.setIfInBounds_toArray, List.set_cons_zero, List.set_cons_succ]
          refine wpAnyH_take (i := 3) (v := ?_) (by simp only [List.getElem?_toArray, List.getElem?_cons_zero, List.getElem?_cons_succ]; rfl) (by kernel_rfl) (by kernel_rfl) (by kernel_rfl) (by exact fun _ _ _ h => h) (Or.inl ⟨by rfl, ?_⟩) (by assumption) ?_
          rotate_left
          · (intro w hSw; (try dsimp only at hSw); go_simp; (try with_reducible rfl))
          try simp only [Act.put, List.setIfInBounds_toArray, List.set_cons_zero, List.set_cons_succ]
          refine wpAnyH_take (i := 4) (v := ?_) (by simp only [List.getElem?_toArray, List.getElem?_cons_zero, List.getElem?_cons_succ]; rfl) (by kernel_rfl) (by kernel_rfl) (by kernel_rfl) (by exact fun _ _ _ h => h) (Or.inl ⟨by rfl, ?_⟩) (by assumption) ?_
          rotate_left
          · (intro w hSw; (try dsimp only at hSw); go_simp; (try with_reducible rfl))
          try simp only [Act.put, List.setIfInBounds_toArray, List.set_cons_zero, List.set_cons_succ]
          refine wpAnyH_take (i := 5) (v := .slice a8 N cap8) (by simp only [List.getElem?_toArray, List.getElem?_cons_zero, List.getElem?_cons_succ]; rfl) (by kernel_rfl) (by kernel_rfl) (by kernel_rfl) (by exact fun _ _ _ h => h) (Or.inl ⟨by rfl, fun w hSw => xl_cell 23 (hSw.box hBx8 hneB) rfl rfl Try.underlying23 rfl rfl⟩) (by assumption) ?_
          try simp only [Act.put, List.setIfInBounds_toArray, List.set_cons_zero, List.set_cons_succ]
          refine wpAnyH_take (i := 6) (v := ?_) (by simp only [List.getElem?_toArray, List.getElem?_cons_zero, List.getElem?_cons_succ]; rfl) (by kernel_rfl) (by kernel_rfl) (by kernel_rfl) (by exact fun _ _ _ h => h) (Or.inl ⟨by rfl, ?_⟩) (by assumption) ?_
          rotate_left
          · (intro w hSw; (try dsimp only at hSw); go_simp; (try with_reducible rfl))
          try simp only [Act.put, List.setIfInBounds_toArray, List.set_cons_zero, List.set_cons_succ]
          refine wpAnyH_take (i := 7) (v := sliced a8 0 i cap8 3) (by simp only [List.getElem?_toArray, List.getElem?_cons_zero, List.getElem?_cons_succ]; rfl) (by kernel_rfl) (by kernel_rfl) (by kernel_rfl) (by exact fun _ _ _ h => h) (Or.inl ⟨by rfl, fun w hSw => xl_pre ht45 hs45 rfl rfl rfl hic8⟩) (by assumption) ?_
          try simp only [Act.put, List.setIfInBounds_toArray, List.set_cons_zero, List.set_cons_succ]
          refine wpAnyH_take (i := 9) (v := .agg (cA x)) (by simp only [List.getElem?_toArray, List.getElem?_cons_zero, List.getElem?_cons_succ]; rfl) (by kernel_rfl) (by kernel_rfl) (by kernel_rfl) (by exact fun _ _ _ h => h) (Or.inl ⟨by rfl, fun w hSw => xl_load 25 (hSw.box XC8 hneX) rfl rfl Try.underlying25 rfl size25 (by omega : 0 + 3 ≤ 3) (cA_all _)⟩) (by assumption) ?_
          try simp only [Act.put, List.setIfInBounds_toArray, List.set_cons_zero, List.set_cons_succ]
          refine wpAnyH_take (i := 12) (v := ?_) (by simp only [List.getElem?_toArray, List.getElem?_cons_zero, List.getElem?_cons_succ]; rfl) (by kernel_rfl) (by kernel_rfl) (by kernel_rfl) (by exact fun _ _ _ h => h) (Or.inl ⟨by rfl, ?_⟩) (by assumption) ?_
          rotate_left
          · (intro w hSw; (try dsimp only at hSw); go_simp; (try with_reducible rfl))
          try simp only [Act.put, List.setIfInBounds_toArray, List.set_cons_zero, List.set_cons_succ]
          refine wpAnyH_take (i := 13) (v := ?_) (by simp only [List.getElem?_toArray, List.getElem?_cons_zero, List.getElem?_cons_succ]; rfl) (by kernel_rfl) (by kernel_rfl) (by kernel_rfl) (by exact fun _ _ _ h => h) (Or.inl ⟨by rfl, ?_⟩) (by assumption) ?_
          rotate_left
          · (intro w hSw; (try dsimp only at hSw); go_simp; (try with_reducible rfl))
          try simp only [Act.put, List.setIfInBounds_toArray, List.set_cons_zero, List.set_cons_succ]
          refine wpAnyH_take (i := 14) (v := ?_) (by simp only [List.getElem?_toArray, List.getElem?_cons_zero, List.getElem?_cons_succ]; rfl) (by kernel_rfl) (by kernel_rfl) (by kernel_rfl) (by exact fun _ _ _ h => h) (Or.inl ⟨by rfl, ?_⟩) (by assumption) ?_
          rotate_left
          · (intro w hSw; (try dsimp only at hSw); go_simp; (try with_reducible rfl))
          try simp only [Act.put, List.setIfInBounds_toArray, List.set_cons_zero, List.set_cons_succ]
          refine wpAnyH_take (i := 15) (v := .slice a8 N cap8) (by simp only [List.getElem?_toArray, List.getElem?_cons_zero, List.getElem?_cons_succ]; rfl) (by kernel_rfl) (by kernel_rfl) (by kernel_rfl) (by exact fun _ _ _ h => h) (Or.inl ⟨by rfl, fun w hSw => xl_cell 23 (hSw.box hBx8 hneB) rfl rfl Try.underlying23 rfl rfl⟩) (by assumption) ?_
          try simp only [Act.put, List.setIfInBounds_toArray, List.set_cons_zero, List.set_cons_succ]
          refine wpAnyH_take (i := 16) (v := ?_) (by simp only [List.getElem?_toArray, List.getElem?_cons_zero, List.getElem?_cons_succ]; rfl) (by kernel_rfl) (by kernel_rfl) (by kernel_rfl) (by exact fun _ _ _ h => h) (Or.inl ⟨by rfl, ?_⟩) (by assumption) ?_
          rotate_left
          · (intro w hSw; (try dsimp only at hSw); go_simp; (try with_reducible rfl))
          try simp only [Act.put, List.setIfInBounds_toArray, List.set_cons_zero, List.set_cons_succ]
          refine wpAnyH_take (i := 17) (v := sliced a8 i N cap8 3) (by simp only [List.getElem?_toArray, List.getElem?_cons_zero, List.getElem?_cons_succ]; rfl) (by kernel_rfl) (by kernel_rfl) (by kernel_rfl) (by exact fun _ _ _ h => h) (Or.inl ⟨by rfl, fun w hSw => xl_suf ht45 hs45 rfl rfl rfl hiN⟩) (by assumption) ?_
          try simp only [Act.put, List.setIfInBounds_toArray, List.set_cons_zero, List.set_cons_succ]
          refine wpAnyH_ready (rs := [1, 10]) (by kernel_rfl) (by simp) ?_
          refine AllReadyH.cons (by simp only [List.getElem?_toArray, List.getElem?_cons_zero, List.getElem?_cons_succ]; rfl) (fun K hK => ?_) ?_
          · refine st_sl0 23 25 rfl rfl Try.underlying23 size25 ?_
            intro wab Xa Ta
            have E1 := own_empty (α := Cv) (s := 3) (f := fC) Xa hB.size
            replace hB := ups hB Ta hB.size
            refine hK.out _ _ (Off.of hB) (fun hHeld => ?_)
            clear hK K
            try simp only [Act.put, List.setIfInBounds_toArray, List.set_cons_zero, List.set_cons_succ]
            refine wpAnyH_ready (rs := [8, 10]) (by kernel_rfl) (by simp) ?_
            refine AllReadyH.cons (by simp only [List.getElem?_toArray, List.getElem?_cons_zero, List.getElem?_cons_succ]; rfl) (fun K hK => ?_) ?_
            · refine step_view rowCv cellsC rfl _ _ rfl w21a.heap.size _ _ [] ((cvsK b.L).take i) 0 i rfl hti8.out rfl E1 rfl (view_pre cellsC (by decide) (own_below h8 hB) hiN) (by omega) hB.size ?_
              intro v8b w8b O8 G8
              rw [List.nil_append, Nat.zero_add] at O8
              replace hB := hB.grown G8 hB.size (fun g e => (E1.lt g e).1)
              refine hK.out _ _ (Off.of hB) (fun hHeld => ?_)
              clear hK K
              try simp only [Act.put, List.setIfInBounds_toArray, List.set_cons_zero, List.set_cons_succ]
              refine wpAnyH_ready (rs := [10]) (by kernel_rfl) (by simp) ?_
              refine AllReadyH.cons (by simp only [List.getElem?_toArray, List.getElem?_cons_zero, List.getElem?_cons_succ]; rfl) (fun K hK => ?_) AllReadyH.nil
              refine st_sl 23 25 rfl rfl rfl Try.underlying23 (bslC _) ?_
              intro wbb X10 Tb
              replace O8 := own_below O8 Tb
              replace hB := ups hB Tb hB.size
              refine hK.out _ _ (Off.of hB) (fun hHeld => ?_)
              clear hK K
              try simp only [Act.put, List.setIfInBounds_toArray, List.set_cons_zero, List.set_cons_succ]
              have F10 := flat_new (f := fC) (x := x) X10 rfl
              refine wpAnyH_ready (rs := [11]) (by kernel_rfl) (by simp) ?_
              refine AllReadyH.cons (by simp only [List.getElem?_toArray, List.getElem?_cons_zero, List.getElem?_cons_succ]; rfl) (fun K hK => ?_) AllReadyH.nil
              refine step_more rowCv cellsC rfl _ _ rfl w21a.heap.size _ ((cvsK b.L).take i) [x] i 1 hti8.out rfl rfl O8 _ 1 rfl F10 (by omega) hB.size ?_
              intro v11b w11b O11 G11 N11 _
              replace hB := hB.grown G11 hB.size (fun g e => (O8.lt g e).1)
              refine hK.out _ _ (Off.of hB) (fun hHeld => ?_)
              clear hK K
              try simp only [Act.put, List.setIfInBounds_toArray, List.set_cons_zero, List.set_cons_succ]
              refine wpAnyH_ready (rs := [18]) (by kernel_rfl) (by simp) ?_
              refine AllReadyH.cons (by simp only [List.getElem?_toArray, List.getElem?_cons_zero, List.getElem?_cons_succ]; rfl) (fun K hK => ?_) AllReadyH.nil
              refine step_view rowCv cellsC rfl _ _ rfl w21a.heap.size _ _ ((cvsK b.L).take i ++ [x]) ((cvsK b.L).drop i) (i + 1) (N - i) (by rw [List.length_append, hti8.out]; rfl) hdi8.out rfl O11 rfl (view_suf cellsC (by decide) (own_below h8 hB) hiN) (by omega) hB.size ?_
              intro v18b w18b O18b G18
              replace hB := hB.grown G18 hB.size (fun g e => (O11.lt g e).1)
              obtain ⟨a18b, c18b, rfl, _⟩ := own_len O18b
              refine hK.out _ _ (Off.of hB) (fun hHeld => ?_)
              clear hK K
              try simp only [Act.put, List.setIfInBounds_toArray, List.set_cons_zero, List.set_cons_succ]
              refine wpAnyH_take (i := 19) (v := ?_) (by simp only [List.getElem?_toArray, List.getElem?_cons_zero, List.getElem?_cons_succ]; rfl) (by kernel_rfl) (by kernel_rfl) (by kernel_rfl) (by exact fun _ _ _ h => h) (Or.inl ⟨by rfl, ?_⟩) (by assumption) ?_
              rotate_left
              · (intro w hSw; (try dsimp only at hSw); go_simp; (try with_reducible rfl))
              try simp only [Act.put, List.setIfInBounds_toArray, List.set_cons_zero, List.set_cons_succ]
              refine wpAnyH_take (i := 20) (v := ?_) (by simp only [List.getElem?_toArray, List.getElem?_cons_zero, List.getElem?_cons_succ]; rfl) (by kernel_rfl) (by kernel_rfl) (by kernel_rfl) (by exact fun _ _ _ h => h) (Or.inl ⟨by rfl, ?_⟩) (by assumption) ?_
              rotate_left
              · (intro w hSw; (try dsimp only at hSw); go_simp; (try with_reducible rfl))
              try simp only [Act.put, List.setIfInBounds_toArray, List.set_cons_zero, List.set_cons_succ]
              refine wpAnyH_ready (rs := [21]) (by kernel_rfl) (by simp) ?_
              refine AllReadyH.cons (by simp only [List.getElem?_toArray, List.getElem?_cons_zero, List.getElem?_cons_succ]; rfl) (fun K hK => ?_) AllReadyH.nil
              refine st_put 23 (v := .slice a18b (i + 1 + (N - i)) c18b) (Y21a.below hB) rfl rfl rfl rfl rfl rfl size45 (by decide : 2 < 4) (rfl : _ = rA b.R (.slice a18a (i + 1 + (N - i)) c18a) (.slice a18b (i + 1 + (N - i)) c18b) u3) ?_
              intro w21b Y21b K21b
              refine hK.out _ _ ((Off.of hB).but K21b (.inr rfl)) (fun hHeld => ?_)
              clear hK K
              try simp only [Act.put, List.setIfInBounds_toArray, List.set_cons_zero, List.set_cons_succ]
              refine wpAnyH_done (by kernel_rfl) ?_ _
              clear hHeld
              go_wp2_with fail
              all_goals go_ret
              all_goals exact hfin.out _ _ _ _ _ _ _ _ hBa K21a hB K21b Y21b O18a O18b
            refine AllReadyH.cons (by simp only [List.getElem?_toArray, List.getElem?_cons_zero, List.getElem?_cons_succ]; rfl) (fun K hK => ?_) AllReadyH.nil
            refine st_sl 23 25 rfl rfl rfl Try.underlying23 (bslC _) ?_
            intro wbb X10 Tb
            have ne10 := own_lt_ne E1 (Nat.le_refl _)
            replace E1 := own_below E1 Tb
            replace hB := ups hB Tb hB.size
            refine hK.out _ _ (Off.of hB) (fun hHeld => ?_)
            clear hK K
            try simp only [Act.put, List.setIfInBounds_toArray, List.set_cons_zero, List.set_cons_succ]
            refine wpAnyH_ready (rs := [8]) (by kernel_rfl) (by simp) ?_
            refine AllReadyH.cons (by simp only [List.getElem?_toArray, List.getElem?_cons_zero, List.getElem?_cons_succ]; rfl) (fun K hK => ?_) AllReadyH.nil
            refine step_view rowCv cellsC rfl _ _ rfl w21a.heap.size _ _ [] ((cvsK b.L).take i) 0 i rfl hti8.out rfl E1 rfl (view_pre cellsC (by decide) (own_below h8 hB) hiN) (by omega) hB.size ?_
            intro v8b w8b O8 G8
            rw [List.nil_append, Nat.zero_add] at O8
            replace X10 := X10.grown G8 (fun e => ne10 e.symm)
            replace hB := hB.grown G8 hB.size (fun g e => (E1.lt g e).1)
            refine hK.out _ _ (Off.of hB) (fun hHeld => ?_)
            clear hK K
            try simp only [Act.put, List.setIfInBounds_toArray, List.set_cons_zero, List.set_cons_succ]
            have F10 := flat_new (f := fC) (x := x) X10 rfl
            refine wpAnyH_ready (rs := [11]) (by kernel_rfl) (by simp) ?_
            refine AllReadyH.cons (by simp only [List.getElem?_toArray, List.getElem?_cons_zero, List.getElem?_cons_succ]; rfl) (fun K hK => ?_) AllReadyH.nil
            refine step_more rowCv cellsC rfl _ _ rfl w21a.heap.size _ ((cvsK b.L).take i) [x] i 1 hti8.out rfl rfl O8 _ 1 rfl F10 (by omega) hB.size ?_
            intro v11b w11b O11 G11 N11 _
            replace hB := hB.grown G11 hB.size (fun g e => (O8.lt g e).1)
            refine hK.out _ _ (Off.of hB) (fun hHeld => ?_)
            clear hK K
            try simp only [Act.put, List.setIfInBounds_toArray, List.set_cons_zero, List.set_cons_succ]
            refine wpAnyH_ready (rs := [18]) (by kernel_rfl) (by simp) ?_
            refine AllReadyH.cons (by simp only [List.getElem?_toArray, List.getElem?_cons_zero, List.getElem?_cons_succ]; rfl) (fun K hK => ?_) AllReadyH.nil
            refine step_view rowCv cellsC rfl _ _ rfl w21a.heap.size _ _ ((cvsK b.L).take i ++ [x]) ((cvsK b.L).drop i) (i + 1) (N - i) (by rw [List.length_append, hti8.out]; rfl) hdi8.out rfl O11 rfl (view_suf cellsC (by decide) (own_below h8 hB) hiN) (by omega) hB.size ?_
            intro v18b w18b O18b G18
            replace hB := hB.grown G18 hB.size (fun g e => (O11.lt g e).1)
            obtain ⟨a18b, c18b, rfl, _⟩ := own_len O18b
            refine hK.out _ _ (Off.of hB) (fun hHeld => ?_)
            clear hK K
            try simp only [Act.put, List.setIfInBounds_toArray, List.set_cons_zero, List.set_cons_succ]
            refine wpAnyH_take (i := 19) (v := ?_) (by simp only [List.getElem?_toArray, List.getElem?_cons_zero, List.getElem?_cons_succ]; rfl) (by kernel_rfl) (by kernel_rfl) (by kernel_rfl) (by exact fun _ _ _ h => h) (Or.inl ⟨by rfl, ?_⟩) (by assumption) ?_
            rotate_left
            · (intro w hSw; (try dsimp only at hSw); go_simp; (try with_reducible rfl))
            try simp only [Act.put, List.setIfInBounds_toArray, List.set_cons_zero, List.set_cons_succ]
            refine wpAnyH_take (i := 20) (v := ?_) (by simp only [List.getElem?_toArray, List.getElem?_cons_zero, List.getElem?_cons_succ]; rfl) (by kernel_rfl) (by kernel_rfl) (by kernel_rfl) (by exact fun _ _ _ h => h) (Or.inl ⟨by rfl, ?_⟩) (by assumption) ?_
            rotate_left
            · (intro w hSw; (try dsimp only at hSw); go_simp; (try with_reducible rfl))
            try simp only [Act.put, List.setIfInBounds_toArray, List.set_cons_zero, List.set_cons_succ]
            refine wpAnyH_ready (rs := [21]) (by kernel_rfl) (by simp) ?_
            refine AllReadyH.cons (by simp only [List.getElem?_toArray, List.getElem?_cons_zero, List.getElem?_cons_succ]; rfl) (fun K hK => ?_) AllReadyH.nil
            refine st_put 23 (v := .slice a18b (i + 1 + (N - i)) c18b) (Y21a.below hB) rfl rfl rfl rfl rfl rfl size45 (by decide : 2 < 4) (rfl : _ = rA b.R (.slice a18a (i + 1 + (N - i)) c18a) (.slice a18b (i + 1 + (N - i)) c18b) u3) ?_
            intro w21b Y21b K21b
            refine hK.out _ _ ((Off.of hB).but K21b (.inr rfl)) (fun hHeld => ?_)
            clear hK K
            try simp only [Act.put, List.setIfInBounds_toArray, List.set_cons_zero, List.set_cons_succ]
            refine wpAnyH_done (by kernel_rfl) ?_ _
            clear hHeld
            go_wp2_with fail
            all_goals go_ret
            all_goals exact hfin.out _ _ _ _ _ _ _ _ hBa K21a hB K21b Y21b O18a O18b
          refine AllReadyH.cons (by simp only [List.getElem?_toArray, List.getElem?_cons_zero, List.getElem?_cons_succ]; rfl) (fun K hK => ?_) AllReadyH.nil
          refine st_sl 23 25 rfl rfl rfl Try.underlying23 (bslC _) ?_
          intro wbb X10 Tb
          replace hB := ups hB Tb hB.size
          refine hK.out _ _ (Off.of hB) (fun hHeld => ?_)
          clear hK K
          try simp only [Act.put, List.setIfInBounds_toArray, List.set_cons_zero, List.set_cons_succ]
          refine wpAnyH_ready (rs := [1]) (by kernel_rfl) (by simp) ?_
          refine AllReadyH.cons (by simp only [List.getElem?_toArray, List.getElem?_cons_zero, List.getElem?_cons_succ]; rfl) (fun K hK => ?_) AllReadyH.nil
          refine st_sl0 23 25 rfl rfl Try.underlying23 size25 ?_
          intro wab Xa Ta
          have ne10 := own_new_ne X10 (n := 0) (c := 0) (Nat.le_refl _)
          replace X10 := X10.below Ta
          have E1 := own_empty (α := Cv) (s := 3) (f := fC) Xa hB.size
          replace hB := ups hB Ta hB.size
          refine hK.out _ _ (Off.of hB) (fun hHeld => ?_)
          clear hK K
          try simp only [Act.put, List.setIfInBounds_toArray, List.set_cons_zero, List.set_cons_succ]
          refine wpAnyH_ready (rs := [8]) (by kernel_rfl) (by simp) ?_
          refine AllReadyH.cons (by simp only [List.getElem?_toArray, List.getElem?_cons_zero, List.getElem?_cons_succ]; rfl) (fun K hK => ?_) AllReadyH.nil
          refine step_view rowCv cellsC rfl _ _ rfl w21a.heap.size _ _ [] ((cvsK b.L).take i) 0 i rfl hti8.out rfl E1 rfl (view_pre cellsC (by decide) (own_below h8 hB) hiN) (by omega) hB.size ?_
          intro v8b w8b O8 G8
          rw [List.nil_append, Nat.zero_add] at O8
          replace X10 := X10.grown G8 (fun e => ne10 e.symm)
          replace hB := hB.grown G8 hB.size (fun g e => (E1.lt g e).1)
          refine hK.out _ _ (Off.of hB) (fun hHeld => ?_)
          clear hK K
          try simp only [Act.put, List.setIfInBounds_toArray, List.set_cons_zero, List.set_cons_succ]
          have F10 := flat_new (f := fC) (x := x) X10 rfl
          refine wpAnyH_ready (rs := [11]) (by kernel_rfl) (by simp) ?_
          refine AllReadyH.cons (by simp only [List.getElem?_toArray, List.getElem?_cons_zero, List.getElem?_cons_succ]; rfl) (fun K hK => ?_) AllReadyH.nil
          refine step_more rowCv cellsC rfl _ _ rfl w21a.heap.size _ ((cvsK b.L).take i) [x] i 1 hti8.out rfl rfl O8 _ 1 rfl F10 (by omega) hB.size ?_
          intro v11b w11b O11 G11 N11 _
          replace hB := hB.grown G11 hB.size (fun g e => (O8.lt g e).1)
          refine hK.out _ _ (Off.of hB) (fun hHeld => ?_)
          clear hK K
          try simp only [Act.put, List.setIfInBounds_toArray, List.set_cons_zero, List.set_cons_succ]
          refine wpAnyH_ready (rs := [18]) (by kernel_rfl) (by simp) ?_
          refine AllReadyH.cons (by simp only [List.getElem?_toArray, List.getElem?_cons_zero, List.getElem?_cons_succ]; rfl) (fun K hK => ?_) AllReadyH.nil
          refine step_view rowCv cellsC rfl _ _ rfl w21a.heap.size _ _ ((cvsK b.L).take i ++ [x]) ((cvsK b.L).drop i) (i + 1) (N - i) (by rw [List.length_append, hti8.out]; rfl) hdi8.out rfl O11 rfl (view_suf cellsC (by decide) (own_below h8 hB) hiN) (by omega) hB.size ?_
          intro v18b w18b O18b G18
          replace hB := hB.grown G18 hB.size (fun g e => (O11.lt g e).1)
          obtain ⟨a18b, c18b, rfl, _⟩ := own_len O18b
          refine hK.out _ _ (Off.of hB) (fun hHeld => ?_)
          clear hK K
          try simp only [Act.put, List.setIfInBounds_toArray, List.set_cons_zero, List.set_cons_succ]
          refine wpAnyH_take (i := 19) (v := ?_) (by simp only [List.getElem?_toArray, List.getElem?_cons_zero, List.getElem?_cons_succ]; rfl) (by kernel_rfl) (by kernel_rfl) (by kernel_rfl) (by exact fun _ _ _ h => h) (Or.inl ⟨by rfl, ?_⟩) (by assumption) ?_
          rotate_left
          · (intro w hSw; (try dsimp only at hSw); go_simp; (try with_reducible rfl))
          try simp only [Act.put, List.setIfInBounds_toArray, List.set_cons_zero, List.set_cons_succ]
          refine wpAnyH_take (i := 20) (v := ?_) (by simp only [List.getElem?_toArray, List.getElem?_cons_zero, List.getElem?_cons_succ]; rfl) (by kernel_rfl) (by kernel_rfl) (by kernel_rfl) (by exact fun _ _ _ h => h) (Or.inl ⟨by rfl, ?_⟩) (by assumption) ?_
          rotate_left
          · (intro w hSw; (try dsimp only at hSw); go_simp; (try with_reducible rfl))
          try simp only [Act.put, List.setIfInBounds_toArray, List.set_cons_zero, List.set_cons_succ]
          refine wpAnyH_ready (rs := [21]) (by kernel_rfl) (by simp) ?_
          refine AllReadyH.cons (by simp only [List.getElem?_toArray, List.getElem?_cons_zero, List.getElem?_cons_succ]; rfl) (fun K hK => ?_) AllReadyH.nil
          refine st_put 23 (v := .slice a18b (i + 1 + (N - i)) c18b) (Y21a.below hB) rfl rfl rfl rfl rfl rfl size45 (by decide : 2 < 4) (rfl : _ = rA b.R (.slice a18a (i + 1 + (N - i)) c18a) (.slice a18b (i + 1 + (N - i)) c18b) u3) ?_
          intro w21b Y21b K21b
          refine hK.out _ _ ((Off.of hB).but K21b (.inr rfl)) (fun hHeld => ?_)
          clear hK K
          try simp only [Act.put, List.setIfInBounds_toArray, List.set_cons_zero, List.set_cons_succ]
          refine wpAnyH_done (by kernel_rfl) ?_ _
          clear hHeld
          go_wp2_with fail
          all_goals go_ret
          all_goals exact hfin.out _ _ _ _ _ _ _ _ hBa K21a hB K21b Y21b O18a O18b
        refine AllReadyH.cons (by simp only [List.getElem?_toArray, List.getElem?_cons_zero, List.getElem?_cons_succ]; rfl) (fun K hK => ?_) AllReadyH.nil
        refine st_sl 48 3 rfl rfl rfl Try.underlying48 (bslI _) ?_
        intro wba X10 Tb
        have ne10 := own_lt_ne E1 (Nat.le_refl _)
        replace E1 := own_below E1 Tb
        replace hB := ups hB Tb hB.size
        refine hK.out _ _ (Off.of hB) (fun hHeld => ?_)
        clear hK K
        try simp only [Act.put, List.setIfInBounds_toArray, List.set_cons_zero, List.set_cons_succ]
        refine wpAnyH_ready (rs := [8]) (by kernel_rfl) (by simp) ?_
        refine AllReadyH.cons (by simp only [List.getElem?_toArray, List.getElem?_cons_zero, List.getElem?_cons_succ]; rfl) (fun K hK => ?_) AllReadyH.nil
        refine step_view rowI cellsI rfl _ _ rfl wr.heap.size _ _ [] ((idsK b.L).take i) 0 i rfl hti7.out rfl E1 rfl (view_pre cellsI (by decide) (own_below h7 hB) hiN) (by omega) hB.size ?_
        intro v8a w8a O8 G8
        rw [List.nil_append, Nat.zero_add] at O8
        replace X10 := X10.grown G8 (fun e => ne10 e.symm)
        replace hB := hB.grown G8 hB.size (fun g e => (E1.lt g e).1)
        refine hK.out _ _ (Off.of hB) (fun hHeld => ?_)
        clear hK K
        try simp only [Act.put, List.setIfInBounds_toArray, List.set_cons_zero, List.set_cons_succ]
        have F10 := flat_new (f := fI) (x := k) X10 rfl
        refine wpAnyH_ready (rs := [11]) (by kernel_rfl) (by simp) ?_
        refine AllReadyH.cons (by simp only [List.getElem?_toArray, List.getElem?_cons_zero, List.getElem?_cons_succ]; rfl) (fun K hK => ?_) AllReadyH.nil
        refine step_more rowI cellsI rfl _ _ rfl wr.heap.size _ ((idsK b.L).take i) [k] i 1 hti7.out rfl rfl O8 _ 1 rfl F10 (by omega) hB.size ?_
        intro v11a w11a O11 G11 N11 _
        replace hB := hB.grown G11 hB.size (fun g e => (O8.lt g e).1)
        refine hK.out _ _ (Off.of hB) (fun hHeld => ?_)
        clear hK K
        try simp only [Act.put, List.setIfInBounds_toArray, List.set_cons_zero, List.set_cons_succ]
        refine wpAnyH_ready (rs := [18]) (by kernel_rfl) (by simp) ?_
        refine AllReadyH.cons (by simp only [List.getElem?_toArray, List.getElem?_cons_zero, List.getElem?_cons_succ]; rfl) (fun K hK => ?_) AllReadyH.nil
        refine step_view rowI cellsI rfl _ _ rfl wr.heap.size _ _ ((idsK b.L).take i ++ [k]) ((idsK b.L).drop i) (i + 1) (N - i) (by rw [List.length_append, hti7.out]; rfl) hdi7.out rfl O11 rfl (view_suf cellsI (by decide) (own_below h7 hB) hiN) (by omega) hB.size ?_
        intro v18a w18a O18a G18
        replace hB := hB.grown G18 hB.size (fun g e => (O11.lt g e).1)
        obtain ⟨a18a, c18a, rfl, _⟩ := own_len O18a
        refine hK.out _ _ (Off.of hB) (fun hHeld => ?_)
        clear hK K
        try simp only [Act.put, List.setIfInBounds_toArray, List.set_cons_zero, List.set_cons_succ]
        refine wpAnyH_take (i := 19) (v := ?_) (by simp only [List.getElem?_toArray, List.getElem?_cons_zero, List.getElem?_cons_succ]; rfl) (by kernel_rfl) (by kernel_rfl) (by kernel_rfl) (by exact fun _ _ _ h => h) (Or.inl ⟨by rfl, ?_⟩) (by assumption) ?_
        rotate_left
        · (intro w hSw; (try dsimp only at hSw); go_simp; (try with_reducible rfl))
        try simp only [Act.put, List.setIfInBounds_toArray, List.set_cons_zero, List.set_cons_succ]
        refine wpAnyH_take (i := 20) (v := ?_) (by simp only [List.getElem?_toArray, List.getElem?_cons_zero, List.getElem?_cons_succ]; rfl) (by kernel_rfl) (by kernel_rfl) (by kernel_rfl) (by exact fun _ _ _ h => h) (Or.inl ⟨by rfl, ?_⟩) (by assumption) ?_
        rotate_left
        · (intro w hSw; (try dsimp only at hSw); go_simp; (try with_reducible rfl))
        try simp only [Act.put, List.setIfInBounds_toArray, List.set_cons_zero, List.set_cons_succ]
        refine wpAnyH_ready (rs := [21]) (by kernel_rfl) (by simp) ?_
        refine AllReadyH.cons (by simp only [List.getElem?_toArray, List.getElem?_cons_zero, List.getElem?_cons_succ]; rfl) (fun K hK => ?_) AllReadyH.nil
        refine st_put 48 (v := .slice a18a (i + 1 + (N - i)) c18a) (hCx.below hB) rfl rfl rfl rfl rfl rfl size44 (by decide : 1 < 4) (rfl : _ = rA b.R (.slice a18a (i + 1 + (N - i)) c18a) u2 u3) ?_
        intro w21a Y21a K21a
        refine hK.out _ _ ((Off.of hB).but K21a (.inr rfl)) (fun hHeld => ?_)
        clear hK K
        try simp only [Act.put, List.setIfInBounds_toArray, List.set_cons_zero, List.set_cons_succ]
        refine wpAnyH_done (by kernel_rfl) ?_ _
        clear hHeld
        have hBa := hB
        clear hB
        have hBx8 : Box w21a B (rA b.R (.slice a7 N cap7) (.slice a8 N cap8) v3) 60 := K21a.box (hBx7.below hBa) hneB
        have XC8 : Box w21a w.heap.size (cA x) 25 := K21a.box (X1r.below hBa) hneX
        have h8 : w21a.ownsRow base 25 3 (.slice a8 N cap8) N (rowC fC (cvsK b.L)) := own_but (own_below h8r hBa) K21a hn8
        go_upto_region 8 with fail
        have hB := drew_below w21a
        refine wp_region_held_drew (S := fun W => Off (fun j => j = C0) w21a W) (by kernel_rfl) (Off.of hB) (fun hHeld => ?_)
        refine wpAnyH_take (i := 0) (v := ?_) (by simp only [List.getElem?_toArray, List.getElem?_cons_zero]; rfl) (by kernel_rfl) (by kernel_rfl) (by kernel_rfl) (by exact fun _ _ _ h => h) (Or.inl ⟨by rfl, ?_⟩) (by assumption) ?_
        rotate_left
        · (intro w hSw; (try dsimp only at hSw); go_simp; (try with_reducible rfl))
        try simp only [Act.put, List.setIfInBounds_toArray, List.set_cons_zero, List.set_cons_succ]
        refine wpAnyH_take (i := 2) (v := ?_) (by simp only [List.getElem?_toArray, List.getElem?_cons_zero, List.getElem?_cons_succ]; rfl) (by kernel_rfl) (by kernel_rfl) (by kernel_rfl) (by exact fun _ _ _ h => h) (Or.inl ⟨by rfl, ?_⟩) (by assumption) ?_
        rotate_left
        · (intro w hSw; (try dsimp only at hSw); go_simp; (try with_reducible rfl))
        try simp only [Act.put, List.setIfInBounds_toArray, List.set_cons_zero, List.set_cons_succ]
        refine wpAnyH_take (i := 3) (v := ?_) (by simp only [List.getElem?_toArray, List.getElem?_cons_zero, List.getElem?_cons_succ]; rfl) (by kernel_rfl) (by kernel_rfl) (by kernel_rfl) (by exact fun _ _ _ h => h) (Or.inl ⟨by rfl, ?_⟩) (by assumption) ?_
        rotate_left
        · (intro w hSw; (try dsimp only at hSw); go_simp; (try with_reducible rfl))
        try simp only [Act.put, List.setIfInBounds_toArray, List.set_cons_zero, List.set_cons_succ]
        refine wpAnyH_take (i := 4) (v := ?_) (by simp only [List.getElem?_toArray, List.getElem?_cons_zero, List.getElem?_cons_succ]; rfl) (by kernel_rfl) (by kernel_rfl) (by kernel_rfl) (by exact fun _ _ _ h => h) (Or.inl ⟨by rfl, ?_⟩) (by assumption) ?_
        rotate_left
        · (intro w hSw; (try dsimp only at hSw); go_simp; (try with_reducible rfl))
        try simp only [Act.put, List.setIfInBounds_toArray, List.set_cons_zero, List.set_cons_succ]
        refine wpAnyH_take (i := 5) (v := .slice a8 N cap8) (by simp only [List.getElem?_toArray, List.getElem?_cons_zero, List.getElem?_cons_succ]; rfl) (by kernel_rfl) (by kernel_rfl) (by kernel_rfl) (by exact fun _ _ _ h => h) (Or.inl ⟨by rfl, fun w hSw => xl_cell 23 (hSw.box hBx8 hneB) rfl rfl Try.underlying23 rfl rfl⟩) (by assumption) ?_
        try simp only [Act.put, List.setIfInBounds_toArray, List.set_cons_zero, List.set_cons_succ]
        refine wpAnyH_take (i := 6) (v := ?_) (by simp only [List.getElem?_toArray, List.getElem?_cons_zero, List.getElem?_cons_succ]; rfl) (by kernel_rfl) (by kernel_rfl) (by kernel_rfl) (by exact fun _ _ _ h => h) (Or.inl ⟨by rfl, ?_⟩) (by assumption) ?_
        rotate_left
        · (intro w hSw; (try dsimp only at hSw); go_simp; (try with_reducible rfl))
        try simp only [Act.put, List.setIfInBounds_toArray, List.set_cons_zero, List.set_cons_succ]
        refine wpAnyH_take (i := 7) (v := sliced a8 0 i cap8 3) (by simp only [List.getElem?_toArray, List.getElem?_cons_zero, List.getElem?_cons_succ]; rfl) (by kernel_rfl) (by kernel_rfl) (by kernel_rfl) (by exact fun _ _ _ h => h) (Or.inl ⟨by rfl, fun w hSw => xl_pre ht45 hs45 rfl rfl rfl hic8⟩) (by assumption) ?_
        try simp only [Act.put, List.setIfInBounds_toArray, List.set_cons_zero, List.set_cons_succ]
        refine wpAnyH_take (i := 9) (v := .agg (cA x)) (by simp only [List.getElem?_toArray, List.getElem?_cons_zero, List.getElem?_cons_succ]; rfl) (by kernel_rfl) (by kernel_rfl) (by kernel_rfl) (by exact fun _ _ _ h => h) (Or.inl ⟨by rfl, fun w hSw => xl_load 25 (hSw.box XC8 hneX) rfl rfl Try.underlying25 rfl size25 (by omega : 0 + 3 ≤ 3) (cA_all _)⟩) (by assumption) ?_
        try simp only [Act.put, List.setIfInBounds_toArray, List.set_cons_zero, List.set_cons_succ]
        refine wpAnyH_take (i := 12) (v := ?_) (by simp only [List.getElem?_toArray, List.getElem?_cons_zero, List.getElem?_cons_succ]; rfl) (by kernel_rfl) (by kernel_rfl) (by kernel_rfl) (by exact fun _ _ _ h => h) (Or.inl ⟨by rfl, ?_⟩) (by assumption) ?_
        rotate_left
        · (intro w hSw; (try dsimp only at hSw); go_simp; (try with_reducible rfl))
        try simp only [Act.put, List.setIfInBounds_toArray, List.set_cons_zero, List.set_cons_succ]
        refine wpAnyH_take (i := 13) (v := ?_) (by simp only [List.getElem?_toArray, List.getElem?_cons_zero, List.getElem?_cons_succ]; rfl) (by kernel_rfl) (by kernel_rfl) (by kernel_rfl) (by exact fun _ _ _ h => h) (Or.inl ⟨by rfl, ?_⟩) (by assumption) ?_
        rotate_left
        · (intro w hSw; (try dsimp only at hSw); go_simp; (try with_reducible rfl))
        try simp only [Act.put, List.setIfInBounds_toArray, List.set_cons_zero, List.set_cons_succ]
        refine wpAnyH_take (i := 14) (v := ?_) (by simp only [List.getElem?_toArray, List.getElem?_cons_zero, List.getElem?_cons_succ]; rfl) (by kernel_rfl) (by kernel_rfl) (by kernel_rfl) (by exact fun _ _ _ h => h) (Or.inl ⟨by rfl, ?_⟩) (by assumption) ?_
        rotate_left
        · (intro w hSw; (try dsimp only at hSw); go_simp; (try with_reducible rfl))
        try simp only [Act.put, List.setIfInBounds_toArray, List.set_cons_zero, List.set_cons_succ]
        refine wpAnyH_take (i := 15) (v := .slice a8 N cap8) (by simp only [List.getElem?_toArray, List.getElem?_cons_zero, List.getElem?_cons_succ]; rfl) (by kernel_rfl) (by kernel_rfl) (by kernel_rfl) (by exact fun _ _ _ h => h) (Or.inl ⟨by rfl, fun w hSw => xl_cell 23 (hSw.box hBx8 hneB) rfl rfl Try.underlying23 rfl rfl⟩) (by assumption) ?_
        try simp only [Act.put, List.setIfInBounds_toArray, List.set_cons_zero, List.set_cons_succ]
        refine wpAnyH_take (i := 16) (v := ?_) (by simp only [List.getElem?_toArray, List.getElem?_cons_zero, List.getElem?_cons_succ]; rfl) (by kernel_rfl) (by kernel_rfl) (by kernel_rfl) (by exact fun _ _ _ h => h) (Or.inl ⟨by rfl, ?_⟩) (by assumption) ?_
        rotate_left
        · (intro w hSw; (try dsimp only at hSw); go_simp; (try with_reducible rfl))
        try simp only [Act.put, List.setIfInBounds_toArray, List.set_cons_zero, List.set_cons_succ]
        refine wpAnyH_take (i := 17) (v := sliced a8 i N cap8 3) (by simp only [List.getElem?_toArray, List.getElem?_cons_zero, List.getElem?_cons_succ]; rfl) (by kernel_rfl) (by kernel_rfl) (by kernel_rfl) (by exact fun _ _ _ h => h) (Or.inl ⟨by rfl, fun w hSw => xl_suf ht45 hs45 rfl rfl rfl hiN⟩) (by assumption) ?_
        try simp only [Act.put, List.setIfInBounds_toArray, List.set_cons_zero, List.set_cons_succ]
        refine wpAnyH_ready (rs := [1, 10]) (by kernel_rfl) (by simp) ?_
        refine AllReadyH.cons (by simp only [List.getElem?_toArray, List.getElem?_cons_zero, List.getElem?_cons_succ]; rfl) (fun K hK => ?_) ?_
        · refine st_sl0 23 25 rfl rfl Try.underlying23 size25 ?_
          intro wab Xa Ta
          have E1 := own_empty (α := Cv) (s := 3) (f := fC) Xa hB.size
          replace hB := ups hB Ta hB.size
          refine hK.out _ _ (Off.of hB) (fun hHeld => ?_)
          clear hK K
          try simp only [Act.put, List.setIfInBounds_toArray, List.set_cons_zero, List.set_cons_succ]
          refine wpAnyH_ready (rs := [8, 10]) (by kernel_rfl) (by simp) ?_
          refine AllReadyH.cons (by simp only [List.getElem?_toArray, List.getElem?_cons_zero, List.getElem?_cons_succ]; rfl) (fun K hK => ?_) ?_
          · refine step_view rowCv cellsC rfl _ _ rfl w21a.heap.size _ _ [] ((cvsK b.L).take i) 0 i rfl hti8.out rfl E1 rfl (view_pre cellsC (by decide) (own_below h8 hB) hiN) (by omega) hB.size ?_
            intro v8b w8b O8 G8
            rw [List.nil_append, Nat.zero_add] at O8
            replace hB := hB.grown G8 hB.size (fun g e => (E1.lt g e).1)
            refine hK.out _ _ (Off.of hB) (fun hHeld => ?_)
            clear hK K
            try simp only [Act.put, List.setIfInBounds_toArray, List.set_cons_zero, List.set_cons_succ]
            refine wpAnyH_ready (rs := [10]) (by kernel_rfl) (by simp) ?_
            refine AllReadyH.cons (by simp only [List.getElem?_toArray, List.getElem?_cons_zero, List.getElem?_cons_succ]; rfl) (fun K hK => ?_) AllReadyH.nil
            refine st_sl 23 25 rfl rfl rfl Try.underlying23 (bslC _) ?_
            intro wbb X10 Tb
            replace O8 := own_below O8 Tb
            replace hB := ups hB Tb hB.size
            refine hK.out _ _ (Off.of hB) (fun hHeld => ?_)
            clear hK K
            try simp only [Act.put, List.setIfInBounds_toArray, List.set_cons_zero, List.set_cons_succ]
            have F10 := flat_new (f := fC) (x := x) X10 rfl
            refine wpAnyH_ready (rs := [11]) (by kernel_rfl) (by simp) ?_
            refine AllReadyH.cons (by simp only [List.getElem?_toArray, List.getElem?_cons_zero, List.getElem?_cons_succ]; rfl) (fun K hK => ?_) AllReadyH.nil
            refine step_more rowCv cellsC rfl _ _ rfl w21a.heap.size _ ((cvsK b.L).take i) [x] i 1 hti8.out rfl rfl O8 _ 1 rfl F10 (by omega) hB.size ?_
            intro v11b w11b O11 G11 N11 _
            replace hB := hB.grown G11 hB.size (fun g e => (O8.lt g e).1)
            refine hK.out _ _ (Off.of hB) (fun hHeld => ?_)
            clear hK K
            try simp only [Act.put, List.setIfInBounds_toArray, List.set_cons_zero, List.set_cons_succ]
            refine wpAnyH_ready (rs := [18]) (by kernel_rfl) (by simp) ?_
            refine AllReadyH.cons (by simp only [List.getElem?_toArray, List.getElem?_cons_zero, List.getElem?_cons_succ]; rfl) (fun K hK => ?_) AllReadyH.nil
            refine step_view rowCv cellsC rfl _ _ rfl w21a.heap.size _ _ ((cvsK b.L).take i ++ [x]) ((cvsK b.L).drop i) (i + 1) (N - i) (by rw [List.length_append, hti8.out]; rfl) hdi8.out rfl O11 rfl (view_suf cellsC (by decide) (own_below h8 hB) hiN) (by omega) hB.size ?_
            intro v18b w18b O18b G18
            replace hB := hB.grown G18 hB.size (fun g e => (O11.lt g e).1)
            obtain ⟨a18b, c18b, rfl, _⟩ := own_len O18b
            refine hK.out _ _ (Off.of hB) (fun hHeld => ?_)
            clear hK K
            try simp only [Act.put, List.setIfInBounds_toArray, List.set_cons_zero, List.set_cons_succ]
            refine wpAnyH_take (i := 19) (v := ?_) (by simp only [List.getElem?_toArray, List.getElem?_cons_zero, List.getElem?_cons_succ]; rfl) (by kernel_rfl) (by kernel_rfl) (by kernel_rfl) (by exact fun _ _ _ h => h) (Or.inl ⟨by rfl, ?_⟩) (by assumption) ?_
            rotate_left
            · (intro w hSw; (try dsimp only at hSw); go_simp; (try with_reducible rfl))
            try simp only [Act.put, List.setIfInBounds_toArray, List.set_cons_zero, List.set_cons_succ]
            refine wpAnyH_take (i := 20) (v := ?_) (by simp only [List.getElem?_toArray, List.getElem?_cons_zero, List.getElem?_cons_succ]; rfl) (by kernel_rfl) (by kernel_rfl) (by kernel_rfl) (by exact fun _ _ _ h => h) (Or.inl ⟨by rfl, ?_⟩) (by assumption) ?_
            rotate_left
            · (intro w hSw; (try dsimp only at hSw); go_simp; (try with_reducible rfl))
            try simp only [Act.put, List.setIfInBounds_toArray, List.set_cons_zero, List.set_cons_succ]
            refine wpAnyH_ready (rs := [21]) (by kernel_rfl) (by simp) ?_
            refine AllReadyH.cons (by simp only [List.getElem?_toArray, List.getElem?_cons_zero, List.getElem?_cons_succ]; rfl) (fun K hK => ?_) AllReadyH.nil
            refine st_put 23 (v := .slice a18b (i + 1 + (N - i)) c18b) (Y21a.below hB) rfl rfl rfl rfl rfl rfl size45 (by decide : 2 < 4) (rfl : _ = rA b.R (.slice a18a (i + 1 + (N - i)) c18a) (.slice a18b (i + 1 + (N - i)) c18b) u3) ?_
            intro w21b Y21b K21b
            refine hK.out _ _ ((Off.of hB).but K21b (.inr rfl)) (fun hHeld => ?_)
            clear hK K
            try simp only [Act.put, List.setIfInBounds_toArray, List.set_cons_zero, List.set_cons_succ]
            refine wpAnyH_done (by kernel_rfl) ?_ _
            clear hHeld
            go_wp2_with fail
            all_goals go_ret
            all_goals exact hfin.out _ _ _ _ _ _ _ _ hBa K21a hB K21b Y21b O18a O18b
          refine AllReadyH.cons (by simp only [List.getElem?_toArray, List.getElem?_cons_zero, List.getElem?_cons_succ]; rfl) (fun K hK => ?_) AllReadyH.nil
          refine st_sl 23 25 rfl rfl rfl Try.underlying23 (bslC _) ?_
          intro wbb X10 Tb
          have ne10 := own_lt_ne E1 (Nat.le_refl _)
          replace E1 := own_below E1 Tb
          replace hB := ups hB Tb hB.size
          refine hK.out _ _ (Off.of hB) (fun hHeld => ?_)
          clear hK K
          try simp only [Act.put, List.setIfInBounds_toArray, List.set_cons_zero, List.set_cons_succ]
          refine wpAnyH_ready (rs := [8]) (by kernel_rfl) (by simp) ?_
          refine AllReadyH.cons (by simp only [List.getElem?_toArray, List.getElem?_cons_zero, List.getElem?_cons_succ]; rfl) (fun K hK => ?_) AllReadyH.nil
          refine step_view rowCv cellsC rfl _ _ rfl w21a.heap.size _ _ [] ((cvsK b.L).take i) 0 i rfl hti8.out rfl E1 rfl (view_pre cellsC (by decide) (own_below h8 hB) hiN) (by omega) hB.size ?_
          intro v8b w8b O8 G8
          rw [List.nil_append, Nat.zero_add] at O8
          replace X10 := X10.grown G8 (fun e => ne10 e.symm)
          replace hB := hB.grown G8 hB.size (fun g e => (E1.lt g e).1)
          refine hK.out _ _ (Off.of hB) (fun hHeld => ?_)
          clear hK K
          try simp only [Act.put, List.setIfInBounds_toArray, List.set_cons_zero, List.set_cons_succ]
          have F10 := flat_new (f := fC) (x := x) X10 rfl
          refine wpAnyH_ready (rs := [11]) (by kernel_rfl) (by simp) ?_
          refine AllReadyH.cons (by simp only [List.getElem?_toArray, List.getElem?_cons_zero, List.getElem?_cons_succ]; rfl) (fun K hK => ?_) AllReadyH.nil
          refine step_more rowCv cellsC rfl _ _ rfl w21a.heap.size _ ((cvsK b.L).take i) [x] i 1 hti8.out rfl rfl O8 _ 1 rfl F10 (by omega) hB.size ?_
          intro v11b w11b O11 G11 N11 _
          replace hB := hB.grown G11 hB.size (fun g e => (O8.lt g e).1)
          refine hK.out _ _ (Off.of hB) (fun hHeld => ?_)
          clear hK K
          try simp only [Act.put, List.setIfInBounds_toArray, List.set_cons_zero, List.set_cons_succ]
          refine wpAnyH_ready (rs := [18]) (by kernel_rfl) (by simp) ?_
          refine AllReadyH.cons (by simp only [List.getElem?_toArray, List.getElem?_cons_zero, List.getElem?_cons_succ]; rfl) (fun K hK => ?_) AllReadyH.nil
          refine step_view rowCv cellsC rfl _ _ rfl w21a.heap.size _ _ ((cvsK b.L).take i ++ [x]) ((cvsK b.L).drop i) (i + 1) (N - i) (by rw [List.length_append, hti8.out]; rfl) hdi8.out rfl O11 rfl (view_suf cellsC (by decide) (own_below h8 hB) hiN) (by omega) hB.size ?_
          intro v18b w18b O18b G18
          replace hB := hB.grown G18 hB.size (fun g e => (O11.lt g e).1)
          obtain ⟨a18b, c18b, rfl, _⟩ := own_len O18b
          refine hK.out _ _ (Off.of hB) (fun hHeld => ?_)
          clear hK K
          try simp only [Act.put, List.setIfInBounds_toArray, List.set_cons_zero, List.set_cons_succ]
          refine wpAnyH_take (i := 19) (v := ?_) (by simp only [List.getElem?_toArray, List.getElem?_cons_zero, List.getElem?_cons_succ]; rfl) (by kernel_rfl) (by kernel_rfl) (by kernel_rfl) (by exact fun _ _ _ h => h) (Or.inl ⟨by rfl, ?_⟩) (by assumption) ?_
          rotate_left
          · (intro w hSw; (try dsimp only at hSw); go_simp; (try with_reducible rfl))
          try simp only [Act.put, List.setIfInBounds_toArray, List.set_cons_zero, List.set_cons_succ]
          refine wpAnyH_take (i := 20) (v := ?_) (by simp only [List.getElem?_toArray, List.getElem?_cons_zero, List.getElem?_cons_succ]; rfl) (by kernel_rfl) (by kernel_rfl) (by kernel_rfl) (by exact fun _ _ _ h => h) (Or.inl ⟨by rfl, ?_⟩) (by assumption) ?_
          rotate_left
          · (intro w hSw; (try dsimp only at hSw); go_simp; (try with_reducible rfl))
          try simp only [Act.put, List.setIfInBounds_toArray, List.set_cons_zero, List.set_cons_succ]
          refine wpAnyH_ready (rs := [21]) (by kernel_rfl) (by simp) ?_
          refine AllReadyH.cons (by simp only [List.getElem?_toArray, List.getElem?_cons_zero, List.getElem?_cons_succ]; rfl) (fun K hK => ?_) AllReadyH.nil
          refine st_put 23 (v := .slice a18b (i + 1 + (N - i)) c18b) (Y21a.below hB) rfl rfl rfl rfl rfl rfl size45 (by decide : 2 < 4) (rfl : _ = rA b.R (.slice a18a (i + 1 + (N - i)) c18a) (.slice a18b (i + 1 + (N - i)) c18b) u3) ?_
          intro w21b Y21b K21b
          refine hK.out _ _ ((Off.of hB).but K21b (.inr rfl)) (fun hHeld => ?_)
          clear hK K
          try simp only [Act.put, List.setIfInBounds_toArray, List.set_cons_zero, List.set_cons_succ]
          refine wpAnyH_done (by kernel_rfl) ?_ _
          clear hHeld
          go_wp2_with fail
          all_goals go_ret
          all_goals exact hfin.out _ _ _ _ _ _ _ _ hBa K21a hB K21b Y21b O18a O18b
        refine AllReadyH.cons (by simp only [List.getElem?_toArray, List.getElem?_cons_zero, List.getElem?_cons_succ]; rfl) (fun K hK => ?_) AllReadyH.nil
        refine st_sl 23 25 rfl rfl rfl Try.underlying23 (bslC _) ?_
        intro wbb X10 Tb
        replace hB := ups hB Tb hB.size
        refine hK.out _ _ (Off.of hB) (fun hHeld => ?_)
        clear hK K
        try simp only [Act.put, List.setIfInBounds_toArray, List.set_cons_zero, List.set_cons_succ]
        refine wpAnyH_ready (rs := [1]) (by kernel_rfl) (by simp) ?_
        refine AllReadyH.cons (by simp only [List.getElem?_toArray, List.getElem?_cons_zero, List.getElem?_cons_succ]; rfl) (fun K hK => ?_) AllReadyH.nil
        refine st_sl0 23 25 rfl rfl Try.underlying23 size25 ?_
        intro wab Xa Ta
        have ne10 := own_new_ne X10 (n := 0) (c := 0) (Nat.le_refl _)
        replace X10 := X10.below Ta
        have E1 := own_empty (α := Cv) (s := 3) (f := fC) Xa hB.size
        replace hB := ups hB Ta hB.size
        refine hK.out _ _ (Off.of hB) (fun hHeld => ?_)
        clear hK K
        try simp only [Act.put, List.setIfInBounds_toArray, List.set_cons_zero, List.set_cons_succ]
        refine wpAnyH_ready (rs := [8]) (by kernel_rfl) (by simp) ?_
        refine AllReadyH.cons (by simp only [List.getElem?_toArray, List.getElem?_cons_zero, List.getElem?_cons_succ]; rfl) (fun K hK => ?_) AllReadyH.nil
        refine step_view rowCv cellsC rfl _ _ rfl w21a.heap.size _ _ [] ((cvsK b.L).take i) 0 i rfl hti8.out rfl E1 rfl (view_pre cellsC (by decide) (own_below h8 hB) hiN) (by omega) hB.size ?_
        intro v8b w8b O8 G8
        rw [List.nil_append, Nat.zero_add] at O8
        replace X10 := X10.grown G8 (fun e => ne10 e.symm)
        replace hB := hB.grown G8 hB.size (fun g e => (E1.lt g e).1)
        refine hK.out _ _ (Off.of hB) (fun hHeld => ?_)
        clear hK K
        try simp only [Act.put, List.setIfInBounds_toArray, List.set_cons_zero, List.set_cons_succ]
        have F10 := flat_new (f := fC) (x := x) X10 rfl
        refine wpAnyH_ready (rs := [11]) (by kernel_rfl) (by simp) ?_
        refine AllReadyH.cons (by simp only [List.getElem?_toArray, List.getElem?_cons_zero, List.getElem?_cons_succ]; rfl) (fun K hK => ?_) AllReadyH.nil
        refine step_more rowCv cellsC rfl _ _ rfl w21a.heap.size _ ((cvsK b.L).take i) [x] i 1 hti8.out rfl rfl O8 _ 1 rfl F10 (by omega) hB.size ?_
        intro v11b w11b O11 G11 N11 _
        replace hB := hB.grown G11 hB.size (fun g e => (O8.lt g e).1)
        refine hK.out _ _ (Off.of hB) (fun hHeld => ?_)
        clear hK K
        try simp only [Act.put, List.setIfInBounds_toArray, List.set_cons_zero, List.set_cons_succ]
        refine wpAnyH_ready (rs := [18]) (by kernel_rfl) (by simp) ?_
        refine AllReadyH.cons (by simp only [List.getElem?_toArray, List.getElem?_cons_zero, List.getElem?_cons_succ]; rfl) (fun K hK => ?_) AllReadyH.nil
        refine step_view rowCv cellsC rfl _ _ rfl w21a.heap.size _ _ ((cvsK b.L).take i ++ [x]) ((cvsK b.L).drop i) (i + 1) (N - i) (by rw [List.length_append, hti8.out]; rfl) hdi8.out rfl O11 rfl (view_suf cellsC (by decide) (own_below h8 hB) hiN) (by omega) hB.size ?_
        intro v18b w18b O18b G18
        replace hB := hB.grown G18 hB.size (fun g e => (O11.lt g e).1)
        obtain ⟨a18b, c18b, rfl, _⟩ := own_len O18b
        refine hK.out _ _ (Off.of hB) (fun hHeld => ?_)
        clear hK K
        try simp only [Act.put, List.setIfInBounds_toArray, List.set_cons_zero, List.set_cons_succ]
        refine wpAnyH_take (i := 19) (v := ?_) (by simp only [List.getElem?_toArray, List.getElem?_cons_zero, List.getElem?_cons_succ]; rfl) (by kernel_rfl) (by kernel_rfl) (by kernel_rfl) (by exact fun _ _ _ h => h) (Or.inl ⟨by rfl, ?_⟩) (by assumption) ?_
        rotate_left
        · (intro w hSw; (try dsimp only at hSw); go_simp; (try with_reducible rfl))
        try simp only [Act.put, List.setIfInBounds_toArray, List.set_cons_zero, List.set_cons_succ]
        refine wpAnyH_take (i := 20) (v := ?_) (by simp only [List.getElem?_toArray, List.getElem?_cons_zero, List.getElem?_cons_succ]; rfl) (by kernel_rfl) (by kernel_rfl) (by kernel_rfl) (by exact fun _ _ _ h => h) (Or.inl ⟨by rfl, ?_⟩) (by assumption) ?_
        rotate_left
        · (intro w hSw; (try dsimp only at hSw); go_simp; (try with_reducible rfl))
        try simp only [Act.put, List.setIfInBounds_toArray, List.set_cons_zero, List.set_cons_succ]
        refine wpAnyH_ready (rs := [21]) (by kernel_rfl) (by simp) ?_
        refine AllReadyH.cons (by simp only [List.getElem?_toArray, List.getElem?_cons_zero, List.getElem?_cons_succ]; rfl) (fun K hK => ?_) AllReadyH.nil
        refine st_put 23 (v := .slice a18b (i + 1 + (N - i)) c18b) (Y21a.below hB) rfl rfl rfl rfl rfl rfl size45 (by decide : 2 < 4) (rfl : _ = rA b.R (.slice a18a (i + 1 + (N - i)) c18a) (.slice a18b (i + 1 + (N - i)) c18b) u3) ?_
        intro w21b Y21b K21b
        refine hK.out _ _ ((Off.of hB).but K21b (.inr rfl)) (fun hHeld => ?_)
        clear hK K
        try simp only [Act.put, List.setIfInBounds_toArray, List.set_cons_zero, List.set_cons_succ]
        refine wpAnyH_done (by kernel_rfl) ?_ _
        clear hHeld
        go_wp2_with fail
        all_goals go_ret
        all_goals exact hfin.out _ _ _ _ _ _ _ _ hBa K21a hB K21b Y21b O18a O18b
      refine AllReadyH.cons (by simp only [List.getElem?_toArray, List.getElem?_cons_zero, List.getElem?_cons_succ]; rfl) (fun K hK => ?_) AllReadyH.nil
      refine st_sl 48 3 rfl rfl rfl Try.underlying48 (bslI _) ?_
      intro wba X10 Tb
      replace hB := ups hB Tb hB.size
      refine hK.out _ _ (Off.of hB) (fun hHeld => ?_)
      clear hK K
      try simp only [Act.put, List.setIfInBounds_toArray, List.set_cons_zero, List.set_cons_succ]
      refine wpAnyH_ready (rs := [1]) (by kernel_rfl) (by simp) ?_
      refine AllReadyH.cons (by simp only [List.getElem?_toArray, List.getElem?_cons_zero, List.getElem?_cons_succ]; rfl) (fun K hK => ?_) AllReadyH.nil
      refine st_sl0 48 3 rfl rfl Try.underlying48 size3 ?_
      intro waa Xa Ta
      have ne10 := own_new_ne X10 (n := 0) (c := 0) (Nat.le_refl _)
      replace X10 := X10.below Ta
      have E1 := own_empty (α := Int) (s := 1) (f := fI) Xa hB.size
      replace hB := ups hB Ta hB.size
      refine hK.out _ _ (Off.of hB) (fun hHeld => ?_)
      clear hK K
      try simp only [Act.put, List.setIfInBounds_toArray, List.set_cons_zero, List.set_cons_succ]
      refine wpAnyH_ready (rs := [8]) (by kernel_rfl) (by simp) ?_
      refine AllReadyH.cons (by simp only [List.getElem?_toArray, List.getElem?_cons_zero, List.getElem?_cons_succ]; rfl) (fun K hK => ?_) AllReadyH.nil
      refine step_view rowI cellsI rfl _ _ rfl wr.heap.size _ _ [] ((idsK b.L).take i) 0 i rfl hti7.out rfl E1 rfl (view_pre cellsI (by decide) (own_below h7 hB) hiN) (by omega) hB.size ?_
      intro v8a w8a O8 G8
      rw [List.nil_append, Nat.zero_add] at O8
      replace X10 := X10.grown G8 (fun e => ne10 e.symm)
      replace hB := hB.grown G8 hB.size (fun g e => (E1.lt g e).1)
      refine hK.out _ _ (Off.of hB) (fun hHeld => ?_)
      clear hK K
      try simp only [Act.put, List.setIfInBounds_toArray, List.set_cons_zero, List.set_cons_succ]
      have F10 := flat_new (f := fI) (x := k) X10 rfl
      refine wpAnyH_ready (rs := [11]) (by kernel_rfl) (by simp) ?_
      refine AllReadyH.cons (by simp only [List.getElem?_toArray, List.getElem?_cons_zero, List.getElem?_cons_succ]; rfl) (fun K hK => ?_) AllReadyH.nil
      refine step_more rowI cellsI rfl _ _ rfl wr.heap.size _ ((idsK b.L).take i) [k] i 1 hti7.out rfl rfl O8 _ 1 rfl F10 (by omega) hB.size ?_
      intro v11a w11a O11 G11 N11 _
      replace hB := hB.grown G11 hB.size (fun g e => (O8.lt g e).1)
      refine hK.out _ _ (Off.of hB) (fun hHeld => ?_)
      clear hK K
      try simp only [Act.put, List.setIfInBounds_toArray, List.set_cons_zero, List.set_cons_succ]
      refine wpAnyH_ready (rs := [18]) (by kernel_rfl) (by simp) ?_
      refine AllReadyH.cons (by simp only [List.getElem?_toArray, List.getElem?_cons_zero, List.getElem?_cons_succ]; rfl) (fun K hK => ?_) AllReadyH.nil
      refine step_view rowI cellsI rfl _ _ rfl wr.heap.size _ _ ((idsK b.L).take i ++ [k]) ((idsK b.L).drop i) (i + 1) (N - i) (by rw [List.length_append, hti7.out]; rfl) hdi7.out rfl O11 rfl (view_suf cellsI (by decide) (own_below h7 hB) hiN) (by omega) hB.size ?_
      intro v18a w18a O18a G18
      replace hB := hB.grown G18 hB.size (fun g e => (O11.lt g e).1)
      obtain ⟨a18a, c18a, rfl, _⟩ := own_len O18a
      refine hK.out _ _ (Off.of hB) (fun hHeld => ?_)
      clear hK K
      try simp only [Act.put, List.setIfInBounds_toArray, List.set_cons_zero, List.set_cons_succ]
      refine wpAnyH_take (i := 19) (v := ?_) (by simp only [List.getElem?_toArray, List.getElem?_cons_zero, List.getElem?_cons_succ]; rfl) (by kernel_rfl) (by kernel_rfl) (by kernel_rfl) (by exact fun _ _ _ h => h) (Or.inl ⟨by rfl, ?_⟩) (by assumption) ?_
      rotate_left
      · (intro w hSw; (try dsimp only at hSw); go_simp; (try with_reducible rfl))
      try simp only [Act.put, List.setIfInBounds_toArray, List.set_cons_zero, List.set_cons_succ]
      refine wpAnyH_take (i := 20) (v := ?_) (by simp only [List.getElem?_toArray, List.getElem?_cons_zero, List.getElem?_cons_succ]; rfl) (by kernel_rfl) (by kernel_rfl) (by kernel_rfl) (by exact fun _ _ _ h => h) (Or.inl ⟨by rfl, ?_⟩) (by assumption) ?_
      rotate_left
      · (intro w hSw; (try dsimp only at hSw); go_simp; (try with_reducible rfl))
      try simp only [Act.put, List.setIfInBounds_toArray, List.set_cons_zero, List.set_cons_succ]
      refine wpAnyH_ready (rs := [21]) (by kernel_rfl) (by simp) ?_
      refine AllReadyH.cons (by simp only [List.getElem?_toArray, List.getElem?_cons_zero, List.getElem?_cons_succ]; rfl) (fun K hK => ?_) AllReadyH.nil
      refine st_put 48 (v := .slice a18a (i + 1 + (N - i)) c18a) (hCx.below hB) rfl rfl rfl rfl rfl rfl size44 (by decide : 1 < 4) (rfl : _ = rA b.R (.slice a18a (i + 1 + (N - i)) c18a) u2 u3) ?_
      intro w21a Y21a K21a
      refine hK.out _ _ ((Off.of hB).but K21a (.inr rfl)) (fun hHeld => ?_)
      clear hK K
      try simp only [Act.put, List.setIfInBounds_toArray, List.set_cons_zero, List.set_cons_succ]
      refine wpAnyH_done (by kernel_rfl) ?_ _
      clear hHeld
      have hBa := hB
      clear hB
      have hBx8 : Box w21a B (rA b.R (.slice a7 N cap7) (.slice a8 N cap8) v3) 60 := K21a.box (hBx7.below hBa) hneB
      have XC8 : Box w21a w.heap.size (cA x) 25 := K21a.box (X1r.below hBa) hneX
      have h8 : w21a.ownsRow base 25 3 (.slice a8 N cap8) N (rowC fC (cvsK b.L)) := own_but (own_below h8r hBa) K21a hn8
      go_upto_region 8 with fail
      have hB := drew_below w21a
      refine wp_region_held_drew (S := fun W => Off (fun j => j = C0) w21a W) (by kernel_rfl) (Off.of hB) (fun hHeld => ?_)
      refine wpAnyH_take (i := 0) (v := ?_) (by simp only [List.getElem?_toArray, List.getElem?_cons_zero]; rfl) (by kernel_rfl) (by kernel_rfl) (by kernel_rfl) (by exact fun _ _ _ h => h) (Or.inl ⟨by rfl, ?_⟩) (by assumption) ?_
      rotate_left
      · (intro w hSw; (try dsimp only at hSw); go_simp; (try with_reducible rfl))
      try simp only [Act.put, List.setIfInBounds_toArray, List.set_cons_zero, List.set_cons_succ]
      refine wpAnyH_take (i := 2) (v := ?_) (by simp only [List.getElem?_toArray, List.getElem?_cons_zero, List.getElem?_cons_succ]; rfl) (by kernel_rfl) (by kernel_rfl) (by kernel_rfl) (by exact fun _ _ _ h => h) (Or.inl ⟨by rfl, ?_⟩) (by assumption) ?_
      rotate_left
      · (intro w hSw; (try dsimp only at hSw); go_simp; (try with_reducible rfl))
      try simp only [Act.put, List.setIfInBounds_toArray, List.set_cons_zero, List.set_cons_succ]
      refine wpAnyH_take (i := 3) (v := ?_) (by simp only [List.getElem?_toArray, List.getElem?_cons_zero, List.getElem?_cons_succ]; rfl) (by kernel_rfl) (by kernel_rfl) (by kernel_rfl) (by exact fun _ _ _ h => h) (Or.inl ⟨by rfl, ?_⟩) (by assumption) ?_
      rotate_left
      · (intro w hSw; (try dsimp only at hSw); go_simp; (try with_reducible rfl))
      try simp only [Act.put, List.setIfInBounds_toArray, List.set_cons_zero, List.set_cons_succ]
      refine wpAnyH_take (i := 4) (v := ?_) (by simp only [List.getElem?_toArray, List.getElem?_cons_zero, List.getElem?_cons_succ]; rfl) (by kernel_rfl) (by kernel_rfl) (by kernel_rfl) (by exact fun _ _ _ h => h) (Or.inl ⟨by rfl, ?_⟩) (by assumption) ?_
      rotate_left
      · (intro w hSw; (try dsimp only at hSw); go_simp; (try with_reducible rfl))
      try simp only [Act.put, List.setIfInBounds_toArray, List.set_cons_zero, List.set_cons_succ]
      refine wpAnyH_take (i := 5) (v := .slice a8 N cap8) (by simp only [List.getElem?_toArray, List.getElem?_cons_zero, List.getElem?_cons_succ]; rfl) (by kernel_rfl) (by kernel_rfl) (by kernel_rfl) (by exact fun _ _ _ h => h) (Or.inl ⟨by rfl, fun w hSw => xl_cell 23 (hSw.box hBx8 hneB) rfl rfl Try.underlying23 rfl rfl⟩) (by assumption) ?_
      try simp only [Act.put, List.setIfInBounds_toArray, List.set_cons_zero, List.set_cons_succ]
      refine wpAnyH_take (i := 6) (v := ?_) (by simp only [List.getElem?_toArray, List.getElem?_cons_zero, List.getElem?_cons_succ]; rfl) (by kernel_rfl) (by kernel_rfl) (by kernel_rfl) (by exact fun _ _ _ h => h) (Or.inl ⟨by rfl, ?_⟩) (by assumption) ?_
      rotate_left
      · (intro w hSw; (try dsimp only at hSw); go_simp; (try with_reducible rfl))
      try simp only [Act.put, List.setIfInBounds_toArray, List.set_cons_zero, List.set_cons_succ]
      refine wpAnyH_take (i := 7) (v := sliced a8 0 i cap8 3) (by simp only [List.getElem?_toArray, List.getElem?_cons_zero, List.getElem?_cons_succ]; rfl) (by kernel_rfl) (by kernel_rfl) (by kernel_rfl) (by exact fun _ _ _ h => h) (Or.inl ⟨by rfl, fun w hSw => xl_pre ht45 hs45 rfl rfl rfl hic8⟩) (by assumption) ?_
      try simp only [Act.put, List.setIfInBounds_toArray, List.set_cons_zero, List.set_cons_succ]
      refine wpAnyH_take (i := 9) (v := .agg (cA x)) (by simp only [List.getElem?_toArray, List.getElem?_cons_zero, List.getElem?_cons_succ]; rfl) (by kernel_rfl) (by kernel_rfl) (by kernel_rfl) (by exact fun _ _ _ h => h) (Or.inl ⟨by rfl, fun w hSw => xl_load 25 (hSw.box XC8 hneX) rfl rfl Try.underlying25 rfl size25 (by omega : 0 + 3 ≤ 3) (cA_all _)⟩) (by assumption) ?_
      try simp only [Act.put, List.setIfInBounds_toArray, List.set_cons_zero, List.set_cons_succ]
      refine wpAnyH_take (i := 12) (v := ?_) (by simp only [List.getElem?_toArray, List.getElem?_cons_zero, List.getElem?_cons_succ]; rfl) (by kernel_rfl) (by kernel_rfl) (by kernel_rfl) (by exact fun _ _ _ h => h) (Or.inl ⟨by rfl, ?_⟩) (by assumption) ?_
      rotate_left
      · (intro w hSw; (try dsimp only at hSw); go_simp; (try with_reducible rfl))
      try simp only [Act.put, List.setIfInBounds_toArray, List.set_cons_zero, List.set_cons_succ]
      refine wpAnyH_take (i := 13) (v := ?_) (by simp only [List.getElem?_toArray, List.getElem?_cons_zero, List.getElem?_cons_succ]; rfl) (by kernel_rfl) (by kernel_rfl) (by kernel_rfl) (by exact fun _ _ _ h => h) (Or.inl ⟨by rfl, ?_⟩) (by assumption) ?_
      rotate_left
      · (intro w hSw; (try dsimp only at hSw); go_simp; (try with_reducible rfl))
      try simp only [Act.put, List.setIfInBounds_toArray, List.set_cons_zero, List.set_cons_succ]
      refine wpAnyH_take (i := 14) (v := ?_) (by simp only [List.getElem?_toArray, List.getElem?_cons_zero, List.getElem?_cons_succ]; rfl) (by kernel_rfl) (by kernel_rfl) (by kernel_rfl) (by exact fun _ _ _ h => h) (Or.inl ⟨by rfl, ?_⟩) (by assumption) ?_
      rotate_left
      · (intro w hSw; (try dsimp only at hSw); go_simp; (try with_reducible rfl))
      try simp only [Act.put, List.setIfInBounds_toArray, List.set_cons_zero, List.set_cons_succ]
      refine wpAnyH_take (i := 15) (v := .slice a8 N cap8) (by simp only [List.getElem?_toArray, List.getElem?_cons_zero, List.getElem?_cons_succ]; rfl) (by kernel_rfl) (by kernel_rfl) (by kernel_rfl) (by exact fun _ _ _ h => h) (Or.inl ⟨by rfl, fun w hSw => xl_cell 23 (hSw.box hBx8 hneB) rfl rfl Try.underlying23 rfl rfl⟩) (by assumption) ?_
      try simp only [Act.put, List.setIfInBounds_toArray, List.set_cons_zero, List.set_cons_succ]
      refine wpAnyH_take (i := 16) (v := ?_) (by simp only [List.getElem?_toArray, List.getElem?_cons_zero, List.getElem?_cons_succ]; rfl) (by kernel_rfl) (by kernel_rfl) (by kernel_rfl) (by exact fun _ _ _ h => h) (Or.inl ⟨by rfl, ?_⟩) (by assumption) ?_
      rotate_left
      · (intro w hSw; (try dsimp only at hSw); go_simp; (try with_reducible rfl))
      try simp only [Act.put, List.setIfInBounds_toArray, List.set_cons_zero, List.set_cons_succ]
      refine wpAnyH_take (i := 17) (v := sliced a8 i N cap8 3) (by simp only [List.getElem?_toArray, List.getElem?_cons_zero, List.getElem?_cons_succ]; rfl) (by kernel_rfl) (by kernel_rfl) (by kernel_rfl) (by exact fun _ _ _ h => h) (Or.inl ⟨by rfl, fun w hSw => xl_suf ht45 hs45 rfl rfl rfl hiN⟩) (by assumption) ?_
      try simp only [Act.put, List.setIfInBounds_toArray, List.set_cons_zero, List.set_cons_succ]
      refine wpAnyH_ready (rs := [1, 10]) (by kernel_rfl) (by simp) ?_
      refine AllReadyH.cons (by simp only [List.getElem?_toArray, List.getElem?_cons_zero, List.getElem?_cons_succ]; rfl) (fun K hK => ?_) ?_
      · refine st_sl0 23 25 rfl rfl Try.underlying23 size25 ?_
        intro wab Xa Ta
        have E1 := own_empty (α := Cv) (s := 3) (f := fC) Xa hB.size
        replace hB := ups hB Ta hB.size
        refine hK.out _ _ (Off.of hB) (fun hHeld => ?_)
        clear hK K
        try simp only [Act.put, List.setIfInBounds_toArray, List.set_cons_zero, List.set_cons_succ]
        refine wpAnyH_ready (rs := [8, 10]) (by kernel_rfl) (by simp) ?_
        refine AllReadyH.cons (by simp only [List.getElem?_toArray, List.getElem?_cons_zero, List.getElem?_cons_succ]; rfl) (fun K hK => ?_) ?_
        · refine step_view rowCv cellsC rfl _ _ rfl w21a.heap.size _ _ [] ((cvsK b.L).take i) 0 i rfl hti8.out rfl E1 rfl (view_pre cellsC (by decide) (own_below h8 hB) hiN) (by omega) hB.size ?_
          intro v8b w8b O8 G8
          rw [List.nil_append, Nat.zero_add] at O8
          replace hB := hB.grown G8 hB.size (fun g e => (E1.lt g e).1)
          refine hK.out _ _ (Off.of hB) (fun hHeld => ?_)
          clear hK K
          try simp only [Act.put, List.setIfInBounds_toArray, List.set_cons_zero, List.set_cons_succ]
          refine wpAnyH_ready (rs := [10]) (by kernel_rfl) (by simp) ?_
          refine AllReadyH.cons (by simp only [List.getElem?_toArray, List.getElem?_cons_zero, List.getElem?_cons_succ]; rfl) (fun K hK => ?_) AllReadyH.nil
          refine st_sl 23 25 rfl rfl rfl Try.underlying23 (bslC _) ?_
          intro wbb X10 Tb
          replace O8 := own_below O8 Tb
          replace hB := ups hB Tb hB.size
          refine hK.out _ _ (Off.of hB) (fun hHeld => ?_)
          clear hK K
          try simp only [Act.put, List.setIfInBounds_toArray, List.set_cons_zero, List.set_cons_succ]
          have F10 := flat_new (f := fC) (x := x) X10 rfl
          refine wpAnyH_ready (rs := [11]) (by kernel_rfl) (by simp) ?_
          refine AllReadyH.cons (by simp only [List.getElem?_toArray, List.getElem?_cons_zero, List.getElem?_cons_succ]; rfl) (fun K hK => ?_) AllReadyH.nil
          refine step_more rowCv cellsC rfl _ _ rfl w21a.heap.size _ ((cvsK b.L).take i) [x] i 1 hti8.out rfl rfl O8 _ 1 rfl F10 (by omega) hB.size ?_
          intro v11b w11b O11 G11 N11 _
          replace hB := hB.grown G11 hB.size (fun g e => (O8.lt g e).1)
          refine hK.out _ _ (Off.of hB) (fun hHeld => ?_)
          clear hK K
          try simp only [Act.put, List.setIfInBounds_toArray, List.set_cons_zero, List.set_cons_succ]
          refine wpAnyH_ready (rs := [18]) (by kernel_rfl) (by simp) ?_
          refine AllReadyH.cons (by simp only [List.getElem?_toArray, List.getElem?_cons_zero, List.getElem?_cons_succ]; rfl) (fun K hK => ?_) AllReadyH.nil
          refine step_view rowCv cellsC rfl _ _ rfl w21a.heap.size _ _ ((cvsK b.L).take i ++ [x]) ((cvsK b.L).drop i) (i + 1) (N - i) (by rw [List.length_append, hti8.out]; rfl) hdi8.out rfl O11 rfl (view_suf cellsC (by decide) (own_below h8 hB) hiN) (by omega) hB.size ?_
          intro v18b w18b O18b G18
          replace hB := hB.grown G18 hB.size (fun g e => (O11.lt g e).1)
          obtain ⟨a18b, c18b, rfl, _⟩ := own_len O18b
          refine hK.out _ _ (Off.of hB) (fun hHeld => ?_)
          clear hK K
          try simp only [Act.put, List.setIfInBounds_toArray, List.set_cons_zero, List.set_cons_succ]
          refine wpAnyH_take (i := 19) (v := ?_) (by simp only [List.getElem?_toArray, List.getElem?_cons_zero, List.getElem?_cons_succ]; rfl) (by kernel_rfl) (by kernel_rfl) (by kernel_rfl) (by exact fun _ _ _ h => h) (Or.inl ⟨by rfl, ?_⟩) (by assumption) ?_
          rotate_left
          · (intro w hSw; (try dsimp only at hSw); go_simp; (try with_reducible rfl))
          try simp only [Act.put, List.setIfInBounds_toArray, List.set_cons_zero, List.set_cons_succ]
          refine wpAnyH_take (i := 20) (v := ?_) (by simp only [List.getElem?_toArray, List.getElem?_cons_zero, List.getElem?_cons_succ]; rfl) (by kernel_rfl) (by kernel_rfl) (by kernel_rfl) (by exact fun _ _ _ h => h) (Or.inl ⟨by rfl, ?_⟩) (by assumption) ?_
          rotate_left
          · (intro w hSw; (try dsimp only at hSw); go_simp; (try with_reducible rfl))
          try simp only [Act.put, List.setIfInBounds_toArray, List.set_cons_zero, List.set_cons_succ]
          refine wpAnyH_ready (rs := [21]) (by kernel_rfl) (by simp) ?_
          refine AllReadyH.cons (by simp only [List.getElem?_toArray, List.getElem?_cons_zero, List.getElem?_cons_succ]; rfl) (fun K hK => ?_) AllReadyH.nil
          refine st_put 23 (v := .slice a18b (i + 1 + (N - i)) c18b) (Y21a.below hB) rfl rfl rfl rfl rfl rfl size45 (by decide : 2 < 4) (rfl : _ = rA b.R (.slice a18a (i + 1 + (N - i)) c18a) (.slice a18b (i + 1 + (N - i)) c18b) u3) ?_
          intro w21b Y21b K21b
          refine hK.out _ _ ((Off.of hB).but K21b (.inr rfl)) (fun hHeld => ?_)
          clear hK K
          try simp only [Act.put, List.setIfInBounds_toArray, List.set_cons_zero, List.set_cons_succ]
          refine wpAnyH_done (by kernel_rfl) ?_ _
          clear hHeld
          go_wp2_with fail
          all_goals go_ret
          all_goals exact hfin.out _ _ _ _ _ _ _ _ hBa K21a hB K21b Y21b O18a O18b
        refine AllReadyH.cons (by simp only [List.getElem?_toArray, List.getElem?_cons_zero, List.getElem?_cons_succ]; rfl) (fun K hK => ?_) AllReadyH.nil
        refine st_sl 23 25 rfl rfl rfl Try.underlying23 (bslC _) ?_
        intro wbb X10 Tb
        have ne10 := own_lt_ne E1 (Nat.le_refl _)
        replace E1 := own_below E1 Tb
        replace hB := ups hB Tb hB.size
        refine hK.out _ _ (Off.of hB) (fun hHeld => ?_)
        clear hK K
        try simp only [Act.put, List.setIfInBounds_toArray, List.set_cons_zero, List.set_cons_succ]
        refine wpAnyH_ready (rs := [8]) (by kernel_rfl) (by simp) ?_
        refine AllReadyH.cons (by simp only [List.getElem?_toArray, List.getElem?_cons_zero, List.getElem?_cons_succ]; rfl) (fun K hK => ?_) AllReadyH.nil
        refine step_view rowCv cellsC rfl _ _ rfl w21a.heap.size _ _ [] ((cvsK b.L).take i) 0 i rfl hti8.out rfl E1 rfl (view_pre cellsC (by decide) (own_below h8 hB) hiN) (by omega) hB.size ?_
        intro v8b w8b O8 G8
        rw [List.nil_append, Nat.zero_add] at O8
        replace X10 := X10.grown G8 (fun e => ne10 e.symm)
        replace hB := hB.grown G8 hB.size (fun g e => (E1.lt g e).1)
        refine hK.out _ _ (Off.of hB) (fun hHeld => ?_)
        clear hK K
        try simp only [Act.put, List.setIfInBounds_toArray, List.set_cons_zero, List.set_cons_succ]
        have F10 := flat_new (f := fC) (x := x) X10 rfl
        refine wpAnyH_ready (rs := [11]) (by kernel_rfl) (by simp) ?_
        refine AllReadyH.cons (by simp only [List.getElem?_toArray, List.getElem?_cons_zero, List.getElem?_cons_succ]; rfl) (fun K hK => ?_) AllReadyH.nil
        refine step_more rowCv cellsC rfl _ _ rfl w21a.heap.size _ ((cvsK b.L).take i) [x] i 1 hti8.out rfl rfl O8 _ 1 rfl F10 (by omega) hB.size ?_
        intro v11b w11b O11 G11 N11 _
        replace hB := hB.grown G11 hB.size (fun g e => (O8.lt g e).1)
        refine hK.out _ _ (Off.of hB) (fun hHeld => ?_)
        clear hK K
        try simp only [Act.put, List.setIfInBounds_toArray, List.set_cons_zero, List.set_cons_succ]
        refine wpAnyH_ready (rs := [18]) (by kernel_rfl) (by simp) ?_
        refine AllReadyH.cons (by simp only [List.getElem?_toArray, List.getElem?_cons_zero, List.getElem?_cons_succ]; rfl) (fun K hK => ?_) AllReadyH.nil
        refine step_view rowCv cellsC rfl _ _ rfl w21a.heap.size _ _ ((cvsK b.L).take i ++ [x]) ((cvsK b.L).drop i) (i + 1) (N - i) (by rw [List.length_append, hti8.out]; rfl) hdi8.out rfl O11 rfl (view_suf cellsC (by decide) (own_below h8 hB) hiN) (by omega) hB.size ?_
        intro v18b w18b O18b G18
        replace hB := hB.grown G18 hB.size (fun g e => (O11.lt g e).1)
        obtain ⟨a18b, c18b, rfl, _⟩ := own_len O18b
        refine hK.out _ _ (Off.of hB) (fun hHeld => ?_)
        clear hK K
        try simp only [Act.put, List.setIfInBounds_toArray, List.set_cons_zero, List.set_cons_succ]
        refine wpAnyH_take (i := 19) (v := ?_) (by simp only [List.getElem?_toArray, List.getElem?_cons_zero, List.getElem?_cons_succ]; rfl) (by kernel_rfl) (by kernel_rfl) (by kernel_rfl) (by exact fun _ _ _ h => h) (Or.inl ⟨by rfl, ?_⟩) (by assumption) ?_
        rotate_left
        · (intro w hSw; (try dsimp only at hSw); go_simp; (try with_reducible rfl))
        try simp only [Act.put, List.setIfInBounds_toArray, List.set_cons_zero, List.set_cons_succ]
        refine wpAnyH_take (i := 20) (v := ?_) (by simp only [List.getElem?_toArray, List.getElem?_cons_zero, List.getElem?_cons_succ]; rfl) (by kernel_rfl) (by kernel_rfl) (by kernel_rfl) (by exact fun _ _ _ h => h) (Or.inl ⟨by rfl, ?_⟩) (by assumption) ?_
        rotate_left
        · (intro w hSw; (try dsimp only at hSw); go_simp; (try with_reducible rfl))
        try simp only [Act.put, List.setIfInBounds_toArray, List.set_cons_zero, List.set_cons_succ]
        refine wpAnyH_ready (rs := [21]) (by kernel_rfl) (by simp) ?_
        refine AllReadyH.cons (by simp only [List.getElem?_toArray, List.getElem?_cons_zero, List.getElem?_cons_succ]; rfl) (fun K hK => ?_) AllReadyH.nil
        refine st_put 23 (v := .slice a18b (i + 1 + (N - i)) c18b) (Y21a.below hB) rfl rfl rfl rfl rfl rfl size45 (by decide : 2 < 4) (rfl : _ = rA b.R (.slice a18a (i + 1 + (N - i)) c18a) (.slice a18b (i + 1 + (N - i)) c18b) u3) ?_
        intro w21b Y21b K21b
        refine hK.out _ _ ((Off.of hB).but K21b (.inr rfl)) (fun hHeld => ?_)
        clear hK K
        try simp only [Act.put, List.setIfInBounds_toArray, List.set_cons_zero, List.set_cons_succ]
        refine wpAnyH_done (by kernel_rfl) ?_ _
        clear hHeld
        go_wp2_with fail
        all_goals go_ret
        all_goals exact hfin.out _ _ _ _ _ _ _ _ hBa K21a hB K21b Y21b O18a O18b
      refine AllReadyH.cons (by simp only [List.getElem?_toArray, List.getElem?_cons_zero, List.getElem?_cons_succ]; rfl) (fun K hK => ?_) AllReadyH.nil
      refine st_sl 23 25 rfl rfl rfl Try.underlying23 (bslC _) ?_
      intro wbb X10 Tb
      replace hB := ups hB Tb hB.size
      refine hK.out _ _ (Off.of hB) (fun hHeld => ?_)
      clear hK K
      try simp only [Act.put, List.setIfInBounds_toArray, List.set_cons_zero, List.set_cons_succ]
      refine wpAnyH_ready (rs := [1]) (by kernel_rfl) (by simp) ?_
      refine AllReadyH.cons (by simp only [List.getElem?_toArray, List.getElem?_cons_zero, List.getElem?_cons_succ]; rfl) (fun K hK => ?_) AllReadyH.nil
      refine st_sl0 23 25 rfl rfl Try.underlying23 size25 ?_
      intro wab Xa Ta
      have ne10 := own_new_ne X10 (n := 0) (c := 0) (Nat.le_refl _)
      replace X10 := X10.below Ta
      have E1 := own_empty (α := Cv) (s := 3) (f := fC) Xa hB.size
      replace hB := ups hB Ta hB.size
      refine hK.out _ _ (Off.of hB) (fun hHeld => ?_)
      clear hK K
      try simp only [Act.put, List.setIfInBounds_toArray, List.set_cons_zero, List.set_cons_succ]
      refine wpAnyH_ready (rs := [8]) (by kernel_rfl) (by simp) ?_
      refine AllReadyH.cons (by simp only [List.getElem?_toArray, List.getElem?_cons_zero, List.getElem?_cons_succ]; rfl) (fun K hK => ?_) AllReadyH.nil
      refine step_view rowCv cellsC rfl _ _ rfl w21a.heap.size _ _ [] ((cvsK b.L).take i) 0 i rfl hti8.out rfl E1 rfl (view_pre cellsC (by decide) (own_below h8 hB) hiN) (by omega) hB.size ?_
      intro v8b w8b O8 G8
      rw [List.nil_append, Nat.zero_add] at O8
      replace X10 := X10.grown G8 (fun e => ne10 e.symm)
      replace hB := hB.grown G8 hB.size (fun g e => (E1.lt g e).1)
      refine hK.out _ _ (Off.of hB) (fun hHeld => ?_)
      clear hK K
      try simp only [Act.put, List.setIfInBounds_toArray, List.set_cons_zero, List.set_cons_succ]
      have F10 := flat_new (f := fC) (x := x) X10 rfl
      refine wpAnyH_ready (rs := [11]) (by kernel_rfl) (by simp) ?_
      refine AllReadyH.cons (by simp only [List.getElem?_toArray, List.getElem?_cons_zero, List.getElem?_cons_succ]; rfl) (fun K hK => ?_) AllReadyH.nil
      refine step_more rowCv cellsC rfl _ _ rfl w21a.heap.size _ ((cvsK b.L).take i) [x] i 1 hti8.out rfl rfl O8 _ 1 rfl F10 (by omega) hB.size ?_
      intro v11b w11b O11 G11 N11 _
      replace hB := hB.grown G11 hB.size (fun g e => (O8.lt g e).1)
      refine hK.out _ _ (Off.of hB) (fun hHeld => ?_)
      clear hK K
      try simp only [Act.put, List.setIfInBounds_toArray, List.set_cons_zero, List.set_cons_succ]
      refine wpAnyH_ready (rs := [18]) (by kernel_rfl) (by simp) ?_
      refine AllReadyH.cons (by simp only [List.getElem?_toArray, List.getElem?_cons_zero, List.getElem?_cons_succ]; rfl) (fun K hK => ?_) AllReadyH.nil
      refine step_view rowCv cellsC rfl _ _ rfl w21a.heap.size _ _ ((cvsK b.L).take i ++ [x]) ((cvsK b.L).drop i) (i + 1) (N - i) (by rw [List.length_append, hti8.out]; rfl) hdi8.out rfl O11 rfl (view_suf cellsC (by decide) (own_below h8 hB) hiN) (by omega) hB.size ?_
      intro v18b w18b O18b G18
      replace hB := hB.grown G18 hB.size (fun g e => (O11.lt g e).1)
      obtain ⟨a18b, c18b, rfl, _⟩ := own_len O18b
      refine hK.out _ _ (Off.of hB) (fun hHeld => ?_)
      clear hK K
      try simp only [Act.put, List.setIfInBounds_toArray, List.set_cons_zero, List.set_cons_succ]
      refine wpAnyH_take (i := 19) (v := ?_) (by simp only [List.getElem?_toArray, List.getElem?_cons_zero, List.getElem?_cons_succ]; rfl) (by kernel_rfl) (by kernel_rfl) (by kernel_rfl) (by exact fun _ _ _ h => h) (Or.inl ⟨by rfl, ?_⟩) (by assumption) ?_
      rotate_left
      · (intro w hSw; (try dsimp only at hSw); go_simp; (try with_reducible rfl))
      try simp only [Act.put, List.setIfInBounds_toArray, List.set_cons_zero, List.set_cons_succ]
      refine wpAnyH_take (i := 20) (v := ?_) (by simp only [List.getElem?_toArray, List.getElem?_cons_zero, List.getElem?_cons_succ]; rfl) (by kernel_rfl) (by kernel_rfl) (by kernel_rfl) (by exact fun _ _ _ h => h) (Or.inl ⟨by rfl, ?_⟩) (by assumption) ?_
      rotate_left
      · (intro w hSw; (try dsimp only at hSw); go_simp; (try with_reducible rfl))
      try simp only [Act.put, List.setIfInBounds_toArray, List.set_cons_zero, List.set_cons_succ]
      refine wpAnyH_ready (rs := [21]) (by kernel_rfl) (by simp) ?_
      refine AllReadyH.cons (by simp only [List.getElem?_toArray, List.getElem?_cons_zero, List.getElem?_cons_succ]; rfl) (fun K hK => ?_) AllReadyH.nil
      refine st_put 23 (v := .slice a18b (i + 1 + (N - i)) c18b) (Y21a.below hB) rfl rfl rfl rfl rfl rfl size45 (by decide : 2 < 4) (rfl : _ = rA b.R (.slice a18a (i + 1 + (N - i)) c18a) (.slice a18b (i + 1 + (N - i)) c18b) u3) ?_
      intro w21b Y21b K21b
      refine hK.out _ _ ((Off.of hB).but K21b (.inr rfl)) (fun hHeld => ?_)
      clear hK K
      try simp only [Act.put, List.setIfInBounds_toArray, List.set_cons_zero, List.set_cons_succ]
      refine wpAnyH_done (by kernel_rfl) ?_ _
      clear hHeld
      go_wp2_with fail
      all_goals go_ret
      all_goals exact hfin.out _ _ _ _ _ _ _ _ hBa K21a hB K21b Y21b O18a O18b
end
end Go.Proofs.Ytjbpaapglamilaa.H
