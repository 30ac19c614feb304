/- Whatever comes, is changed, goes, is copied: both trees tell the same. Condition: numbers are what the fields can hold. -/
import Derived.Test.YtpopcnebndgblaaGreatHmD
namespace Go.Proofs.YtpopcnebndgblaaGreat.H
open Go.ChangeShapes Go.WideShapes Go.Deep Go.RowKit
set_option linter.unusedVariables false
set_option linter.unusedSimpArgs false
set_option maxHeartbeats 4000000 in
set_option maxRecDepth 100000 in
theorem HierPlays_walk (a : Option Addr) (n c : Nat) (xs : Nat → Ac) (id : Int) (w0 : World) (hI : IsRow aV 15 w0 a n c xs) (hok : ∀ i, (xs i).ok) (hcm : c ≤ maxLen) (hid : I64 id) :
    Calls Tryz.prog 3 #[.slice a n c, eI id] w0 fun e w' => e = .returned (.bool true) ∧ Below w0.heap.size w0 w' := by
  have hL := long_any (a := a) hI.1 w0
  by_cases hn : 150 < n
  · rw [decide_eq_true hn] at hL
    go_enter Tryz.func3, Tryz.ntmps3
    go_wp2_with (go_at_call 9; (with_reducible refine hL.mono ?_); rintro e w1 ⟨rfl, rfl⟩)
    go_ret
    exact ⟨rfl, Below.refl _ _⟩
  · rw [decide_eq_false hn] at hL
    have hN := fun χ => tnew (χ := χ) w0 1
    have hN1 := tnew_all w0 1
    have j1 : (n : Int) ≤ (c : Int) := by have := hI.1; omega
    have hIh := Lib.hid hI
    have hoh := Lib.hid hok
    clear hI hok hN
    go_enter Tryz.func3, Tryz.ntmps3
    go_wp2_with (first
      | (go_at_call 9; (with_reducible refine hL.mono ?_); rintro e w1 ⟨rfl, rfl⟩)
      | (go_at_call 10; (with_reducible refine hN1.mono ?_); rintro e w1 ⟨C, hC, rfl, hT, T1⟩; have hp := ptr_eq C)
      | (refine wl_box 29 rfl rfl rfl ?_; intro w2 X2 T2; have hP := pl_new hT T1 X2 T2))
    clear hL hN1 hT T1 X2 T2
    go_loopw [5, 7] (fun s5 s7 wr => ∃ (i : Nat) (t : Nat), s7 = .int .i64 i ∧ s5 = ptr t ∧ i ≤ n ∧ ∃ L, Pl w0 wr t w1.heap.size L L) (fun _ s7 _ => n - (intOf s7).toNat)
    case atStart => exact ⟨0, C, rfl, rfl, by omega, _, hP⟩
    case round =>
      clear hP
      obtain ⟨i, t, rfl, rfl, hi, L, hP⟩ := hrel
      by_cases hlt : i < n
      · have i1 : (i : Int) < (n : Int) := by omega
        have i2 : (0 : Int) ≤ (i : Int) := by omega
        have hw1 : IntKind.i64.wrap ((i : Int) + 1) = (i : Int) + 1 := i64_id (by omega)
        obtain ⟨b, q, rfl, hb, hcell⟩ := act_at hIh.out i hlt
        obtain ⟨hk0, hs⟩ := hoh.out i
        generalize xs i = y at *
        obtain ⟨x0, x1, x2⟩ := hcell wr hP.world
        have hm4 : y.k % 4 = 0 ∨ y.k % 4 = 1 ∨ y.k % 4 = 2 ∨ y.k % 4 = 3 := by omega
        rcases hm4 with hm | hm | hm | hm
        · -- comes
          have hr : y.k.tmod 4 = 0 := by rw [Int.tmod_eq_emod_of_nonneg hk0.1]; exact hm
          go_upto_region 17 with (first
            | (refine wl_run (xl_loadr x2 rfl rfl) rfl ?_)
            | (refine wl_alloc 34 rfl rfl zero34 ?_; intro wa Xa Ta)
            | (refine wl_store 34 Xa rfl rfl rfl rfl size34 rfl (by omega : 0 + 14 ≤ 14) (sV_one _) (spl_ss _ _) ?_; intro wb Xb Kb; have Q := hP.var (Kb.up Ta (Nat.le_refl _)) Xb; have x0b := (hcell _ Q.world).1))
          have hQ1 := pq_add Q.drew hs
          refine wp_region_held_drew (S := fun W => Box W wr.heap.size (sV y.s) 34) (by kernel_rfl) Q.drew.box (fun hHeld => ?_)
          refine wpAnyH_take (i := 0) (v := ?_) (by simp only [List.getElem?_toArray, List.getElem?_cons_zero]; rfl) (by kernel_rfl) (by kernel_rfl) (by kernel_rfl) (by exact fun _ _ _ h => h) (Or.inl ⟨by rfl, ?_⟩) (by assumption) ?_
          rotate_left
          · (intro w hSw; (try dsimp only at hSw); go_simp; (try with_reducible rfl))
          try simp only [Act.put, List.setIfInBounds_toArray, List.set_cons_zero, List.set_cons_succ]
          refine wpAnyH_take (i := 1) (v := .agg (sV y.s)) (by simp only [List.getElem?_toArray, List.getElem?_cons_zero, List.getElem?_cons_succ]; rfl) (by kernel_rfl) (by kernel_rfl) (by kernel_rfl) (by exact fun _ _ _ h => h) (Or.inl ⟨by rfl, fun w hSw => xl_load 34 hSw rfl rfl Tryz.underlying34 rfl size34 (by omega : 0 + 14 ≤ 14) (sV_all _)⟩) (by assumption) ?_
          try simp only [Act.put, List.setIfInBounds_toArray, List.set_cons_zero, List.set_cons_succ]
          refine wpAnyH_take (i := 3) (v := ?_) (by simp only [List.getElem?_toArray, List.getElem?_cons_zero, List.getElem?_cons_succ]; rfl) (by kernel_rfl) (by kernel_rfl) (by kernel_rfl) (by exact fun _ _ _ h => h) (Or.inl ⟨by rfl, ?_⟩) (by assumption) ?_
          rotate_left
          · (intro w hSw; (try dsimp only at hSw); go_simp; (try with_reducible rfl))
          try simp only [Act.put, List.setIfInBounds_toArray, List.set_cons_zero, List.set_cons_succ]
          refine wpAnyH_take (i := 4) (v := .agg (sV y.s)) (by simp only [List.getElem?_toArray, List.getElem?_cons_zero, List.getElem?_cons_succ]; rfl) (by kernel_rfl) (by kernel_rfl) (by kernel_rfl) (by exact fun _ _ _ h => h) (Or.inl ⟨by rfl, fun w hSw => xl_load 34 hSw rfl rfl Tryz.underlying34 rfl size34 (by omega : 0 + 14 ≤ 14) (sV_all _)⟩) (by assumption) ?_
          try simp only [Act.put, List.setIfInBounds_toArray, List.set_cons_zero, List.set_cons_succ]
          refine wpAnyH_ready (rs := [2]) (by kernel_rfl) (by simp) ?_
          refine AllReadyH.cons (by simp only [List.getElem?_toArray, List.getElem?_cons_zero, List.getElem?_cons_succ]; rfl) (fun K hK => ?_) AllReadyH.nil
          go_simp
          go_at_call 11
          (with_reducible refine hQ1.mono ?_)
          rintro e wc ⟨rfl, Qc⟩
          have hQ2 := pq_radd Qc hs
          refine hK.out _ _ Qc.box (fun hHeld => ?_)
          clear hK K
          try simp only [Act.put, List.setIfInBounds_toArray, List.set_cons_zero, List.set_cons_succ]
          refine wpAnyH_ready (rs := [5]) (by kernel_rfl) (by simp) ?_
          refine AllReadyH.cons (by simp only [List.getElem?_toArray, List.getElem?_cons_zero, List.getElem?_cons_succ]; rfl) (fun K hK => ?_) AllReadyH.nil
          go_simp
          go_at_call 12
          (with_reducible refine hQ2.mono ?_)
          rintro e wd ⟨rfl, Qd⟩
          refine hK.out _ _ Qd.box (fun hHeld => ?_)
          clear hK K
          try simp only [Act.put, List.setIfInBounds_toArray, List.set_cons_zero, List.set_cons_succ]
          refine wpAnyH_take (i := 6) (v := .bool false) (by simp only [List.getElem?_toArray, List.getElem?_cons_zero, List.getElem?_cons_succ]; rfl) (by kernel_rfl) (by kernel_rfl) (by kernel_rfl) (by exact fun _ _ _ h => h) (Or.inl ⟨by rfl, ?_⟩) (by assumption) ?_
          · (intro w hSw; (try dsimp only at hSw); go_simp; (try with_reducible rfl))
          try simp only [Act.put, List.setIfInBounds_toArray, List.set_cons_zero, List.set_cons_succ]
          refine wpAnyH_done (by kernel_rfl) ?_ _
          clear hHeld
          have hSm := pl_same Qd.pl hid
          have hP9 := Qd.pl
          by_cases h8 : (i : Int).tmod 8 = 0
          · have h8b : ((i : Int).tmod 8 == 0) = true := by simpa using h8
            go_wp2_with (first
              | (go_at_call 18; (with_reducible refine hSm.mono ?_); rintro e we ⟨rfl, Pe⟩))
            exact ⟨⟨i + 1, _, rfl, rfl, by omega, _, Pe⟩, by simp [intOf]; omega⟩
          · have h8b : ((i : Int).tmod 8 == 0) = false := by simpa using h8
            go_wp2_with fail
            exact ⟨⟨i + 1, _, rfl, rfl, by omega, _, hP9⟩, by simp [intOf]; omega⟩
        · -- is changed
          have hr : y.k.tmod 4 = 1 := by rw [Int.tmod_eq_emod_of_nonneg hk0.1]; exact hm
          go_upto_region 20 with (first
            | (refine wl_run (xl_loadr x2 rfl rfl) rfl ?_)
            | (refine wl_alloc 34 rfl rfl zero34 ?_; intro wa Xa Ta)
            | (refine wl_store 34 Xa rfl rfl rfl rfl size34 rfl (by omega : 0 + 14 ≤ 14) (sV_one _) (spl_ss _ _) ?_; intro wb Xb Kb; have Q := hP.var (Kb.up Ta (Nat.le_refl _)) Xb; have x0b := (hcell _ Q.world).1))
          have hQ1 := pq_chg Q.drew hs
          refine wp_region_held_drew (S := fun W => Box W wr.heap.size (sV y.s) 34) (by kernel_rfl) Q.drew.box (fun hHeld => ?_)
          refine wpAnyH_take (i := 0) (v := ?_) (by simp only [List.getElem?_toArray, List.getElem?_cons_zero]; rfl) (by kernel_rfl) (by kernel_rfl) (by kernel_rfl) (by exact fun _ _ _ h => h) (Or.inl ⟨by rfl, ?_⟩) (by assumption) ?_
          rotate_left
          · (intro w hSw; (try dsimp only at hSw); go_simp; (try with_reducible rfl))
          try simp only [Act.put, List.setIfInBounds_toArray, List.set_cons_zero, List.set_cons_succ]
          refine wpAnyH_take (i := 1) (v := .agg (sV y.s)) (by simp only [List.getElem?_toArray, List.getElem?_cons_zero, List.getElem?_cons_succ]; rfl) (by kernel_rfl) (by kernel_rfl) (by kernel_rfl) (by exact fun _ _ _ h => h) (Or.inl ⟨by rfl, fun w hSw => xl_load 34 hSw rfl rfl Tryz.underlying34 rfl size34 (by omega : 0 + 14 ≤ 14) (sV_all _)⟩) (by assumption) ?_
          try simp only [Act.put, List.setIfInBounds_toArray, List.set_cons_zero, List.set_cons_succ]
          refine wpAnyH_take (i := 3) (v := ?_) (by simp only [List.getElem?_toArray, List.getElem?_cons_zero, List.getElem?_cons_succ]; rfl) (by kernel_rfl) (by kernel_rfl) (by kernel_rfl) (by exact fun _ _ _ h => h) (Or.inl ⟨by rfl, ?_⟩) (by assumption) ?_
          rotate_left
          · (intro w hSw; (try dsimp only at hSw); go_simp; (try with_reducible rfl))
          try simp only [Act.put, List.setIfInBounds_toArray, List.set_cons_zero, List.set_cons_succ]
          refine wpAnyH_take (i := 4) (v := .agg (sV y.s)) (by simp only [List.getElem?_toArray, List.getElem?_cons_zero, List.getElem?_cons_succ]; rfl) (by kernel_rfl) (by kernel_rfl) (by kernel_rfl) (by exact fun _ _ _ h => h) (Or.inl ⟨by rfl, fun w hSw => xl_load 34 hSw rfl rfl Tryz.underlying34 rfl size34 (by omega : 0 + 14 ≤ 14) (sV_all _)⟩) (by assumption) ?_
          try simp only [Act.put, List.setIfInBounds_toArray, List.set_cons_zero, List.set_cons_succ]
          refine wpAnyH_ready (rs := [2]) (by kernel_rfl) (by simp) ?_
          refine AllReadyH.cons (by simp only [List.getElem?_toArray, List.getElem?_cons_zero, List.getElem?_cons_succ]; rfl) (fun K hK => ?_) AllReadyH.nil
          go_simp
          go_at_call 13
          (with_reducible refine hQ1.mono ?_)
          rintro e wc ⟨rfl, Qc⟩
          have hQ2 := pq_rchg Qc hs
          refine hK.out _ _ Qc.box (fun hHeld => ?_)
          clear hK K
          try simp only [Act.put, List.setIfInBounds_toArray, List.set_cons_zero, List.set_cons_succ]
          refine wpAnyH_ready (rs := [5]) (by kernel_rfl) (by simp) ?_
          refine AllReadyH.cons (by simp only [List.getElem?_toArray, List.getElem?_cons_zero, List.getElem?_cons_succ]; rfl) (fun K hK => ?_) AllReadyH.nil
          go_simp
          go_at_call 14
          (with_reducible refine hQ2.mono ?_)
          rintro e wd ⟨rfl, Qd⟩
          refine hK.out _ _ Qd.box (fun hHeld => ?_)
          clear hK K
          try simp only [Act.put, List.setIfInBounds_toArray, List.set_cons_zero, List.set_cons_succ]
          refine wpAnyH_take (i := 6) (v := .bool false) (by simp only [List.getElem?_toArray, List.getElem?_cons_zero, List.getElem?_cons_succ]; rfl) (by kernel_rfl) (by kernel_rfl) (by kernel_rfl) (by exact fun _ _ _ h => h) (Or.inl ⟨by rfl, ?_⟩) (by assumption) ?_
          · (intro w hSw; (try dsimp only at hSw); go_simp; (try with_reducible rfl))
          try simp only [Act.put, List.setIfInBounds_toArray, List.set_cons_zero, List.set_cons_succ]
          refine wpAnyH_done (by kernel_rfl) ?_ _
          clear hHeld
          have hSm := pl_same Qd.pl hid
          have hP9 := Qd.pl
          by_cases h8 : (i : Int).tmod 8 = 0
          · have h8b : ((i : Int).tmod 8 == 0) = true := by simpa using h8
            go_wp2_with (first
              | (go_at_call 18; (with_reducible refine hSm.mono ?_); rintro e we ⟨rfl, Pe⟩))
            exact ⟨⟨i + 1, _, rfl, rfl, by omega, _, Pe⟩, by simp [intOf]; omega⟩
          · have h8b : ((i : Int).tmod 8 == 0) = false := by simpa using h8
            go_wp2_with fail
            exact ⟨⟨i + 1, _, rfl, rfl, by omega, _, hP9⟩, by simp [intOf]; omega⟩
        · -- goes
          have hr : y.k.tmod 4 = 2 := by rw [Int.tmod_eq_emod_of_nonneg hk0.1]; exact hm
          go_upto_region 23 with (first
            | (refine wl_run (xl_loadr x2 rfl rfl) rfl ?_)
            | (refine wl_alloc 34 rfl rfl zero34 ?_; intro wa Xa Ta)
            | (refine wl_store 34 Xa rfl rfl rfl rfl size34 rfl (by omega : 0 + 14 ≤ 14) (sV_one _) (spl_ss _ _) ?_; intro wb Xb Kb; have Q := hP.var (Kb.up Ta (Nat.le_refl _)) Xb; have x0b := (hcell _ Q.world).1))
          have hQ1 := pq_drop Q.drew hs.1
          refine wp_region_held_drew (S := fun W => Box W wr.heap.size (sV y.s) 34) (by kernel_rfl) Q.drew.box (fun hHeld => ?_)
          refine wpAnyH_take (i := 0) (v := ?_) (by simp only [List.getElem?_toArray, List.getElem?_cons_zero]; rfl) (by kernel_rfl) (by kernel_rfl) (by kernel_rfl) (by exact fun _ _ _ h => h) (Or.inl ⟨by rfl, ?_⟩) (by assumption) ?_
          rotate_left
          · (intro w hSw; (try dsimp only at hSw); go_simp; (try with_reducible rfl))
          try simp only [Act.put, List.setIfInBounds_toArray, List.set_cons_zero, List.set_cons_succ]
          refine wpAnyH_take (i := 1) (v := ?_) (by simp only [List.getElem?_toArray, List.getElem?_cons_zero, List.getElem?_cons_succ]; rfl) (by kernel_rfl) (by kernel_rfl) (by kernel_rfl) (by exact fun _ _ _ h => h) (Or.inl ⟨by rfl, ?_⟩) (by assumption) ?_
          rotate_left
          · (intro w hSw; (try dsimp only at hSw); go_simp; (try with_reducible rfl))
          try simp only [Act.put, List.setIfInBounds_toArray, List.set_cons_zero, List.set_cons_succ]
          refine wpAnyH_take (i := 2) (v := .int .i64 y.s.id) (by simp only [List.getElem?_toArray, List.getElem?_cons_zero, List.getElem?_cons_succ]; rfl) (by kernel_rfl) (by kernel_rfl) (by kernel_rfl) (by exact fun _ _ _ h => h) (Or.inl ⟨by rfl, fun w hSw => xl_cell 3 hSw rfl rfl Tryz.underlying3 rfl (sV_0 _)⟩) (by assumption) ?_
          try simp only [Act.put, List.setIfInBounds_toArray, List.set_cons_zero, List.set_cons_succ]
          refine wpAnyH_take (i := 4) (v := ?_) (by simp only [List.getElem?_toArray, List.getElem?_cons_zero, List.getElem?_cons_succ]; rfl) (by kernel_rfl) (by kernel_rfl) (by kernel_rfl) (by exact fun _ _ _ h => h) (Or.inl ⟨by rfl, ?_⟩) (by assumption) ?_
          rotate_left
          · (intro w hSw; (try dsimp only at hSw); go_simp; (try with_reducible rfl))
          try simp only [Act.put, List.setIfInBounds_toArray, List.set_cons_zero, List.set_cons_succ]
          refine wpAnyH_take (i := 5) (v := ?_) (by simp only [List.getElem?_toArray, List.getElem?_cons_zero, List.getElem?_cons_succ]; rfl) (by kernel_rfl) (by kernel_rfl) (by kernel_rfl) (by exact fun _ _ _ h => h) (Or.inl ⟨by rfl, ?_⟩) (by assumption) ?_
          rotate_left
          · (intro w hSw; (try dsimp only at hSw); go_simp; (try with_reducible rfl))
          try simp only [Act.put, List.setIfInBounds_toArray, List.set_cons_zero, List.set_cons_succ]
          refine wpAnyH_take (i := 6) (v := .int .i64 y.s.id) (by simp only [List.getElem?_toArray, List.getElem?_cons_zero, List.getElem?_cons_succ]; rfl) (by kernel_rfl) (by kernel_rfl) (by kernel_rfl) (by exact fun _ _ _ h => h) (Or.inl ⟨by rfl, fun w hSw => xl_cell 3 hSw rfl rfl Tryz.underlying3 rfl (sV_0 _)⟩) (by assumption) ?_
          try simp only [Act.put, List.setIfInBounds_toArray, List.set_cons_zero, List.set_cons_succ]
          refine wpAnyH_ready (rs := [3]) (by kernel_rfl) (by simp) ?_
          refine AllReadyH.cons (by simp only [List.getElem?_toArray, List.getElem?_cons_zero, List.getElem?_cons_succ]; rfl) (fun K hK => ?_) AllReadyH.nil
          go_simp
          go_at_call 15
          (with_reducible refine hQ1.mono ?_)
          rintro e wc ⟨rfl, Qc⟩
          have hQ2 := pq_rdrop Qc y.s.id
          refine hK.out _ _ Qc.box (fun hHeld => ?_)
          clear hK K
          try simp only [Act.put, List.setIfInBounds_toArray, List.set_cons_zero, List.set_cons_succ]
          refine wpAnyH_ready (rs := [7]) (by kernel_rfl) (by simp) ?_
          refine AllReadyH.cons (by simp only [List.getElem?_toArray, List.getElem?_cons_zero, List.getElem?_cons_succ]; rfl) (fun K hK => ?_) AllReadyH.nil
          go_simp
          go_at_call 16
          (with_reducible refine hQ2.mono ?_)
          rintro e wd ⟨rfl, Qd⟩
          refine hK.out _ _ Qd.box (fun hHeld => ?_)
          clear hK K
          try simp only [Act.put, List.setIfInBounds_toArray, List.set_cons_zero, List.set_cons_succ]
          refine wpAnyH_take (i := 8) (v := .bool false) (by simp only [List.getElem?_toArray, List.getElem?_cons_zero, List.getElem?_cons_succ]; rfl) (by kernel_rfl) (by kernel_rfl) (by kernel_rfl) (by exact fun _ _ _ h => h) (Or.inl ⟨by rfl, ?_⟩) (by assumption) ?_
          · (intro w hSw; (try dsimp only at hSw); go_simp; (try with_reducible rfl))
          try simp only [Act.put, List.setIfInBounds_toArray, List.set_cons_zero, List.set_cons_succ]
          refine wpAnyH_done (by kernel_rfl) ?_ _
          clear hHeld
          have hSm := pl_same Qd.pl hid
          have hP9 := Qd.pl
          by_cases h8 : (i : Int).tmod 8 = 0
          · have h8b : ((i : Int).tmod 8 == 0) = true := by simpa using h8
            go_wp2_with (first
              | (go_at_call 18; (with_reducible refine hSm.mono ?_); rintro e we ⟨rfl, Pe⟩))
            exact ⟨⟨i + 1, _, rfl, rfl, by omega, _, Pe⟩, by simp [intOf]; omega⟩
          · have h8b : ((i : Int).tmod 8 == 0) = false := by simpa using h8
            go_wp2_with fail
            exact ⟨⟨i + 1, _, rfl, rfl, by omega, _, hP9⟩, by simp [intOf]; omega⟩
        · -- a copy goes on
          have hr : y.k.tmod 4 = 3 := by rw [Int.tmod_eq_emod_of_nonneg hk0.1]; exact hm
          go_upto_region 12 with (first
            | (refine wl_run (xl_loadr x2 rfl rfl) rfl ?_)
            | (refine wl_alloc 34 rfl rfl zero34 ?_; intro wa Xa Ta)
            | (refine wl_store 34 Xa rfl rfl rfl rfl size34 rfl (by omega : 0 + 14 ≤ 14) (sV_one _) (spl_ss _ _) ?_; intro wb Xb Kb; have Q := hP.var (Kb.up Ta (Nat.le_refl _)) Xb; have x0b := (hcell _ Q.world).1))
          have hQ1 := pq_copy Q
          go_upto_region 25 with (first
            | (go_at_call 17; (with_reducible refine hQ1.mono ?_); rintro e wc ⟨C2, rfl, Qc⟩; have hp2 := ptr_eq C2; have e0 := (Qc.box.cell 0).trans (sV_0 _); have hQ2 := po_drop Qc hs.1)
            | (go_at_call 15; (with_reducible refine hQ2.mono ?_); rintro e wd ⟨rfl, Qd⟩))
          have hSm := pl_same Qd.pl hid
          have hP9 := Qd.pl
          by_cases h8 : (i : Int).tmod 8 = 0
          · have h8b : ((i : Int).tmod 8 == 0) = true := by simpa using h8
            go_wp2_with (first
              | (go_at_call 18; (with_reducible refine hSm.mono ?_); rintro e we ⟨rfl, Pe⟩))
            exact ⟨⟨i + 1, _, rfl, rfl, by omega, _, Pe⟩, by simp [intOf]; omega⟩
          · have h8b : ((i : Int).tmod 8 == 0) = false := by simpa using h8
            go_wp2_with fail
            exact ⟨⟨i + 1, _, rfl, rfl, by omega, _, hP9⟩, by simp [intOf]; omega⟩
      · have i1 : ¬ (i : Int) < (n : Int) := by omega
        have hSm := pl_same hP hid
        go_wp2_with (first
          | (go_at_call 18; (with_reducible refine hSm.mono ?_); rintro e we ⟨rfl, Pe⟩))
        go_ret
        exact ⟨rfl, Pe.world⟩
end Go.Proofs.YtpopcnebndgblaaGreat.H
