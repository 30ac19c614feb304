/- What grow makes of a full ring. No condition. -/
import Derived.Test.YtlfpaebfpmjclaaQG
namespace Go.Proofs.Ytlfpaebfpmjclaa
open Go.RowKit
set_option linter.unusedVariables false
theorem over_two (Z X Y : List Pk) (h : X.length + Y.length ≤ Z.length) : over (over Z 0 X) X.length Y = X ++ Y ++ Z.drop (X.length + Y.length) := by
  simp only [over, List.take_zero, List.nil_append, Nat.zero_add]
  rw [List.take_left', List.drop_append, List.append_assoc]
  · congr 2
    rw [List.drop_eq_nil_of_le (by omega), List.nil_append, List.drop_drop]
    congr 1; omega
  · rfl
theorem cells_of {W : World} {g n : Nat} {cur : Array Value} {D : List Pk} (hb : Box W g cur 31) (ht : cur.toList.take (n * 4) = rowV D) : ∀ j u, (rowV D)[j]? = some u → W.cell? ⟨g, j, none⟩ = some u := by
  intro j u hu
  rw [hb.cell j]
  rw [← ht, List.getElem?_take] at hu
  split at hu
  · simpa using hu
  · cases hu
theorem own_box {W : World} {g N : Nat} {D : List Pk} (h : Box W g (rowV D).toArray 31) (hl : D.length = N) (hN : N ≤ 5000) : W.ownsRow 0 31 4 (.slice (some ⟨g, 0, none⟩) N N) N (rowV D) :=
  ⟨by rw [rowV_len, hl], .inr ⟨g, N, _, rfl, Nat.zero_le _, h, Nat.le_refl _, by unfold maxLen; omega, by simp [rowV_len, hl], by
    rw [List.take_of_length_le]
    simp [rowV_len, hl]⟩⟩
section
variable {w : World} {B : Nat} {P R : Int} {L : List Pk} {v : Value} {n f : Nat} {D : List Pk}
set_option maxHeartbeats 4000000 in
set_option maxRecDepth 100000 in
theorem grow_some (g cap : Nat) (h : Qr w B P R L (.slice (some ⟨g, 0, none⟩) n cap) n f D) (hfull : L.length = n) (hP : (n : Int) < P) :
    Calls Try.prog 30 #[.pointer (some ⟨B, 0, none⟩)] w fun e w' => e = .returned (.tuple #[]) ∧ (∃ N v2 D2 g2, v2 = .slice (some ⟨g2, 0, none⟩) N N ∧ w.heap.size ≤ g2 ∧ n < N ∧ Qr w' B P R L v2 N 0 D2) ∧ Off (fun k => k = B) w w' := by
  obtain ⟨i0, hi, hz0, hz1, hz2⟩ := info_parts infoP
  have H := h
  have hn4 := h.few
  have hPP := h.hP
  have hf : f ≤ n := by
    rcases h.ring.2.1 with h1 | ⟨_, h1⟩
    · rw [h.len] at h1; omega
    · omega
  obtain ⟨Pn, rfl⟩ : ∃ Pn : Nat, P = (Pn : Int) := ⟨P.toNat, by omega⟩
  obtain ⟨N, hN⟩ : ∃ N, min (2 * n + 1) Pn = N := ⟨_, rfl⟩
  have hNn : n < N := by omega
  have hNP : N ≤ 4096 := by omega
  have hNPi : (N : Int) ≤ (Pn : Int) := by omega
  have e1 : IntKind.i64.wrap (2 * (n : Int)) = 2 * (n : Int) := i64_id (by omega)
  have e2 : IntKind.i64.wrap (2 * (n : Int) + 1) = 2 * (n : Int) + 1 := i64_id (by omega)
  obtain ⟨c0, c1, c2, c3, c4, c5⟩ := h.box.qu
  clear h
  go_enter Try.func30, Try.ntmps30
  go_upto_region 0 with fail
  go_cut [2] (fun s2 wx => s2 = .slice (some ⟨w.heap.size, 0, none⟩) N N ∧ Box wx w.heap.size (rowV (List.replicate N Pk.zero)).toArray 31 ∧ Below w.heap.size w wx)
  case first =>
    have hfin : ∀ w', w'.ownsRow w.heap.size 31 4 (.slice (some ⟨w.heap.size, 0, none⟩) N N) N (madeCells (Value.agg #[.int .u64 0, .int .i64 0, .int .i64 0, .int .u64 0]).cells (N * 4)).toList → w.drew.grownBy w' none → Box w' w.heap.size (rowV (List.replicate N Pk.zero)).toArray 31 ∧ Below w.heap.size w w' := fun w' h1 h2 => by
      rw [zeros_row] at h1
      refine ⟨?_, (Below.refl w.heap.size w).drew.grown h2 (Nat.le_refl _) (by intro k hk; cases hk)⟩
      rcases h1.2 with ⟨h3, _⟩ | ⟨g', cap', cur, h3, _, h4, _, _, h5, h6⟩
      · cases h3
      · cases h3
        have e : cur.toList = rowV (List.replicate N Pk.zero) := by rw [← h6, List.take_of_length_le (by rw [Array.length_toList]; omega)]
        rw [← e]; exact h4
    by_cases hle : 2 * (n : Int) + 1 ≤ (Pn : Int)
    · have e4 : min (2 * (n : Int) + 1) (Pn : Int) = 2 * (n : Int) + 1 := by omega
      go_still_tail 13, (by kernel_rfl)
      change wpList _ _ _ _ _ w.drew
      go_wp2_with (at_make; refine wpList_make_full _ rfl _ _ 42 rfl w.heap.size 31 i0 _ 4 Try.underlying42 hi hz0 hz1 _ _ _ _ N rfl rfl (by omega) (by omega) (by rw [hz2]; omega) (by unfold maxLen; omega) (Nat.le_refl _) ?_; intro w1 hown hgrow)
      go_meet
      exact ⟨rfl, hfin _ hown hgrow⟩
    · have e4 : min (2 * (n : Int) + 1) (Pn : Int) = (Pn : Int) := by omega
      go_still_tail 13, (by kernel_rfl)
      change wpList _ _ _ _ _ w.drew
      go_wp2_with (at_make; refine wpList_make_full _ rfl _ _ 42 rfl w.heap.size 31 i0 _ 4 Try.underlying42 hi hz0 hz1 _ _ _ _ N rfl rfl (by omega) (by omega) (by rw [hz2]; omega) (by unfold maxLen; omega) (Nat.le_refl _) ?_; intro w1 hown hgrow)
      go_meet
      exact ⟨rfl, hfin _ hown hgrow⟩
  case rest =>
    obtain ⟨rfl, hZ, T⟩ := hcut
    rename World => W1
    have hDn := H.len
    have hring := H.ring
    have hfit := H.fit
    have hRR := H.hR
    obtain ⟨cur, hcap, hB0, htk⟩ : ∃ cur, n ≤ cap ∧ Box w g cur 31 ∧ cur.toList.take (n * 4) = rowV D := by
      rcases H.row.2 with ⟨h3, _⟩ | ⟨g', cap', cur, h3, _, h4, h5, _, _, h6⟩
      · cases h3
      · cases h3; exact ⟨cur, h5, h4, h6⟩
    have hgw : g < w.heap.size := hB0.lt
    have hBw : B < w.heap.size := H.box.lt
    have hgB : g ≠ B := box_ne hB0 H.box (by decide)
    have bQ := H.box.below T
    have bR := hB0.below T
    clear e1 e2 c0 c1 c2 c3 c4 c5 H hB0 hi hz0 hz1 hz2
    obtain ⟨ah, hah⟩ : ∃ a, n - f = a := ⟨_, rfl⟩
    have hX : (D.drop f).length = ah := by rw [List.length_drop, hDn]; exact hah
    have hY : (D.take f).length = f := by rw [List.length_take, hDn]; omega
    have ha : ah + f = n := by omega
    have hcell : ∀ W', Box W' g cur 31 → (∀ j u, (rowV (D.drop f))[j]? = some u → W'.cell? ((⟨g, f * 4, none⟩ : Addr).add j) = some u) ∧ (∀ j u, (rowV (D.take f))[j]? = some u → W'.cell? ((⟨g, 0, none⟩ : Addr).add j) = some u) := fun W' hb => by
      refine ⟨fun j u hu => ?_, fun j u hu => ?_⟩
      · rw [← rowV_drop, List.getElem?_drop] at hu
        rw [add_plain]
        exact cells_of hb htk _ _ hu
      · rw [← rowV_take, List.getElem?_take] at hu
        rw [add_plain, Nat.zero_add]
        split at hu
        · exact cells_of hb htk _ _ hu
        · cases hu
    have hD2 := over_two (List.replicate N Pk.zero) (D.drop f) (D.take f) (by rw [hX, hY, List.length_replicate]; omega)
    rw [hX, hY, List.drop_replicate] at hD2
    have hring2 := hring.grow (by rw [hfull, hDn]) (List.replicate (N - (ah + f)) Pk.zero) (by rw [List.length_replicate]; omega)
    rw [← hD2] at hring2
    generalize D.drop f = X at *
    generalize D.take f = Y at *
    have hZl : (List.replicate N Pk.zero).length = N := List.length_replicate
    generalize List.replicate N Pk.zero = Z at *
    obtain ⟨ad1, hd1, hd1'⟩ : ∃ x : Addr, (if cap = f then some (⟨g, 0, none⟩ : Addr) else some ⟨g, f * 4, none⟩) = some x ∧ (0 < ah → x = ⟨g, f * 4, none⟩) := by
      by_cases hc : cap = f
      · rw [if_pos hc]; exact ⟨_, rfl, fun h => by omega⟩
      · rw [if_neg hc]; exact ⟨_, rfl, fun _ => rfl⟩
    obtain ⟨c0, c1, c2, c3, c4, c5⟩ := bQ.qu
    have j1 : (0 : Int) ≤ (f : Int) := by omega
    have j2 : (f : Int) ≤ (n : Int) := by omega
    have j3 : (f : Int) ≤ (cap : Int) := by omega
    have j4 : (n : Int) ≤ (cap : Int) := by omega
    have j5 : (0 : Int) ≤ (ah : Int) := by omega
    have j6 : (ah : Int) ≤ (N : Int) := by omega
    have j7 : ¬ N = ah := by omega
    have hah' := Lib.hid hah
    replace hcell := Lib.hid hcell
    replace hring2 := Lib.hid hring2
    replace hD2 := Lib.hid hD2
    replace hX := Lib.hid hX
    replace hY := Lib.hid hY
    replace htk := Lib.hid htk
    replace hDn := Lib.hid hDn
    replace hN := Lib.hid hN
    replace hfull := Lib.hid hfull
    replace hZl := Lib.hid hZl
    go_upto_region 1 with fail
    go_region_law (refine step_copy4 (by rfl) (.tmp 18) (.tmp 27) (by rfl) w.heap.size 0 _ _ _ _ _ _ (by rfl) (by rfl) Z X ah hX.out (by show ah = min ah N; omega) hZ.drew (fun h0 => ⟨by rfl, ad1, by rfl, by rw [hd1' h0]; exact (hcell.out _ bR.drew).1⟩) (by rw [hZl.out]; omega) ?_; intro w2 hZ2 hG2)
    all_goals
      have T2 : Below w.heap.size w w2 := T.drew.grown hG2 T.size (by intro k hk; cases hk; exact Nat.le_refl _)
      have bQ2 : Box w2 B _ 44 := (hG2.block B (Nat.lt_of_lt_of_le hBw T.size) (by intro e; cases e; omega)).trans bQ
      have bR2 : Box w2 g cur 31 := (hG2.block g (Nat.lt_of_lt_of_le hgw T.size) (by intro e; cases e; omega)).trans bR
      have hZ2' := hZ2
      clear c0 c1 c2 c3 c4 c5 hd1
    all_goals obtain ⟨c0, c1, c2, c3, c4, c5⟩ := bQ2.qu
    all_goals go_upto_region 2 with fail
    all_goals go_region_law (refine step_copy4 (by rfl) (.tmp 31) (.tmp 40) (by rfl) w.heap.size ah _ _ _ _ _ _ (by rfl) (by rfl) (over Z 0 X) Y f hY.out (by show f = min f (N - ah); omega) hZ2.drew (fun h0 => ⟨by rfl, _, by rfl, (hcell.out _ bR2.drew).2⟩) (by rw [over_length _ _ _ (by rw [hX.out, hZl.out]; omega), hZl.out]; omega) ?_; intro w3 hZ3 hG3)
    all_goals
      have T3 : Below w.heap.size w w3 := T2.drew.grown hG3 T2.size (by intro k hk; cases hk; exact Nat.le_refl _)
      have bQ3 : Box w3 B _ 44 := (hG3.block B (Nat.lt_of_lt_of_le hBw T2.size) (by intro e; cases e; omega)).trans bQ2
      have hl3 : (over (over Z 0 X) ah Y).length = N := by rw [over_length _ _ _ (by rw [hY.out, over_length _ _ _ (by rw [hX.out, hZl.out]; omega), hZl.out]; omega), over_length _ _ _ (by rw [hX.out, hZl.out]; omega), hZl.out]
      have own3 := own_box hZ3 hl3 (by omega)
      have bQ4 : Box ((w3.setCell ⟨B, 4, none⟩ (.slice (some ⟨w.heap.size, 0, none⟩) N N)).setCell ⟨B, 5, none⟩ (eI 0)) B (quA Pn R L.length (bsum L) (.slice (some ⟨w.heap.size, 0, none⟩) N N) (0 : Nat)) 44 := (bQ3.set 4 _).set 5 _
      have own4 := ownsRow_setCell_other (ownsRow_setCell_other own3 (a := ⟨B, 4, none⟩) (by simp [Value.ownBlock]; omega) (.slice (some ⟨w.heap.size, 0, none⟩) N N)) (a := ⟨B, 5, none⟩) (by simp [Value.ownBlock]; omega) (eI 0)
      have O4 : Off (fun k => k = B) w ((w3.setCell ⟨B, 4, none⟩ (.slice (some ⟨w.heap.size, 0, none⟩) N N)).setCell ⟨B, 5, none⟩ (eI 0)) := by
        have O3 : Off (fun k => k = B) w w3 := Off.of T3
        exact (O3.set (B := B) rfl _ _).set (B := B) rfl _ _
      have hfin : Qr _ B Pn R L (.slice (some ⟨w.heap.size, 0, none⟩) N N) N 0 (over (over Z 0 X) ah Y) := ⟨bQ4, own4, hl3, hring2.out, hNPi, hPP, hRR, hfit⟩
      clear c0 c1 c2 c3 c4 c5 bQ4 own4 own3
    all_goals obtain ⟨c0, c1, c2, c3, c4, c5⟩ := bQ3.qu
    all_goals have f4 := bQ3.thaw 4
    all_goals have f5 := bQ3.thaw 5
    all_goals go_upto_region 3 with fail
    all_goals go_wp2
    all_goals go_end0
    all_goals exact ⟨rfl, ⟨N, _, _, _, rfl, Nat.le_refl _, hNn, hfin⟩, O4⟩
set_option maxHeartbeats 4000000 in
set_option maxRecDepth 100000 in
theorem grow_nil (h : Qr w B P R L (.slice none 0 0) n f D) (hn : n = 0) :
    Calls Try.prog 30 #[.pointer (some ⟨B, 0, none⟩)] w fun e w' => e = .returned (.tuple #[]) ∧ (∃ N v2 D2 g2, v2 = .slice (some ⟨g2, 0, none⟩) N N ∧ w.heap.size ≤ g2 ∧ n < N ∧ Qr w' B P R L v2 N 0 D2) ∧ Off (fun k => k = B) w w' := by
  obtain ⟨i0, hi, hz0, hz1, hz2⟩ := info_parts infoP
  subst hn
  have hD : D = [] := List.eq_nil_of_length_eq_zero h.len
  have hL : L = [] := List.eq_nil_of_length_eq_zero (by have := h.many; omega)
  have hf : f = 0 := by
    rcases h.ring.2.1 with h1 | ⟨_, h1⟩
    · rw [hD] at h1; simp at h1
    · exact h1
  subst hD hL hf
  have hPP := h.hP
  have hRR := h.hR
  have hfit := h.fit
  have e6 : IntKind.i64.wrap (IntKind.i64.wrap 0 + 1) = 1 := by decide
  have e4 : ¬ P < 1 := by omega
  have e5 : (1 : Int) ≤ P := hPP.1
  have H := h.box
  have hBw := H.lt
  obtain ⟨c0, c1, c2, c3, c4, c5⟩ := h.box.qu
  clear h
  go_enter Try.func30, Try.ntmps30
  go_upto_region 0 with fail
  have hfin : ∀ w', w'.ownsRow w.heap.size 31 4 (.slice (some ⟨w.heap.size, 0, none⟩) 1 1) 1 (madeCells (Value.agg #[.int .u64 0, .int .i64 0, .int .i64 0, .int .u64 0]).cells (1 * 4)).toList → w.drew.grownBy w' none → Box w' w.heap.size (rowV [Pk.zero]).toArray 31 ∧ Below w.heap.size w w' := fun w' h1 h2 => by
    rw [zeros_row] at h1
    refine ⟨?_, (Below.refl w.heap.size w).drew.grown h2 (Nat.le_refl _) (by intro k hk; cases hk)⟩
    rcases h1.2 with ⟨h3, _⟩ | ⟨g', cap', cur, h3, _, h4, _, _, h5, h6⟩
    · cases h3
    · cases h3
      have e : cur.toList = rowV [Pk.zero] := by rw [List.take_of_length_le (by rw [Array.length_toList]; omega)] at h6; exact h6
      rw [← e]; exact h4
  go_still_tail 13, (by kernel_rfl)
  change wpList _ _ _ _ _ w.drew
  go_upto_region 1 with (at_make; refine wpList_make_full _ rfl _ _ 42 rfl w.heap.size 31 i0 _ 4 Try.underlying42 hi hz0 hz1 _ _ _ _ 1 rfl rfl (by first | rfl | (rw [e6, if_neg e4]; rfl)) (by first | rfl | (rw [e6, if_neg e4]; rfl)) (by rw [hz2]; omega) (by unfold maxLen; omega) (Nat.le_refl _) ?_; intro w1 hown hgrow)
  obtain ⟨hZ, T⟩ := hfin _ hown hgrow
  have bQ := H.below T
  clear hfin hown hgrow c0 c1 c2 c3 c4 c5 hi hz0 hz1 hz2
  obtain ⟨c0, c1, c2, c3, c4, c5⟩ := bQ.qu
  go_region_law (refine step_copy4 (by rfl) (.tmp 18) (.tmp 27) (by rfl) w.heap.size 0 _ _ _ _ _ _ (by rfl) (by rfl) [Pk.zero] [] 0 (by rfl) (by rfl) hZ.drew (fun h0 => by omega) (by simp) ?_; intro w2 hZ2 hG2)
  all_goals
    have T2 : Below w.heap.size w w2 := T.drew.grown hG2 T.size (by intro k hk; cases hk; exact Nat.le_refl _)
    have bQ2 : Box w2 B _ 44 := (hG2.block B (Nat.lt_of_lt_of_le hBw T.size) (by intro e; cases e; omega)).trans bQ
    clear c0 c1 c2 c3 c4 c5
  all_goals obtain ⟨c0, c1, c2, c3, c4, c5⟩ := bQ2.qu
  all_goals go_upto_region 2 with fail
  all_goals go_region_law (refine step_copy4 (by rfl) (.tmp 31) (.tmp 40) (by rfl) w.heap.size 0 _ _ _ _ _ _ (by rfl) (by rfl) [Pk.zero] [] 0 (by rfl) (by rfl) hZ2.drew (fun h0 => by omega) (by simp) ?_; intro w3 hZ3 hG3)
  all_goals
    have T3 : Below w.heap.size w w3 := T2.drew.grown hG3 T2.size (by intro k hk; cases hk; exact Nat.le_refl _)
    have bQ3 : Box w3 B _ 44 := (hG3.block B (Nat.lt_of_lt_of_le hBw T2.size) (by intro e; cases e; omega)).trans bQ2
    have own3 := own_box (N := 1) (D := over (over [Pk.zero] 0 []) 0 []) hZ3 rfl (by omega)
    have bQ4 : Box ((w3.setCell ⟨B, 4, none⟩ (.slice (some ⟨w.heap.size, 0, none⟩) 1 1)).setCell ⟨B, 5, none⟩ (eI 0)) B (quA P R (([] : List Pk).length : Int) (bsum []) (.slice (some ⟨w.heap.size, 0, none⟩) 1 1) (0 : Nat)) 44 := (bQ3.set 4 _).set 5 _
    have own4 := ownsRow_setCell_other (ownsRow_setCell_other own3 (a := ⟨B, 4, none⟩) (by simp [Value.ownBlock]; omega) (.slice (some ⟨w.heap.size, 0, none⟩) 1 1)) (a := ⟨B, 5, none⟩) (by simp [Value.ownBlock]; omega) (eI 0)
    have O4 : Off (fun k => k = B) w ((w3.setCell ⟨B, 4, none⟩ (.slice (some ⟨w.heap.size, 0, none⟩) 1 1)).setCell ⟨B, 5, none⟩ (eI 0)) := by
      have O3 : Off (fun k => k = B) w w3 := Off.of T3
      exact (O3.set (B := B) rfl _ _).set (B := B) rfl _ _
    have hring : RingIs (over (over [Pk.zero] 0 []) 0 []) 0 [] := ⟨by simp, .inl (by simp [over]), fun i hi => by simp at hi⟩
    have hfin : Qr _ B P R [] (.slice (some ⟨w.heap.size, 0, none⟩) 1 1) 1 0 (over (over [Pk.zero] 0 []) 0 []) := ⟨bQ4, own4, rfl, hring, hPP.1, hPP, hRR, hfit⟩
    clear c0 c1 c2 c3 c4 c5 bQ4 own4 own3
  all_goals obtain ⟨c0, c1, c2, c3, c4, c5⟩ := bQ3.qu
  all_goals have f4 := bQ3.thaw 4
  all_goals have f5 := bQ3.thaw 5
  all_goals go_upto_region 3 with fail
  all_goals go_wp2
  all_goals go_end0
  all_goals exact ⟨rfl, ⟨1, _, _, _, rfl, Nat.le_refl _, by omega, hfin⟩, O4⟩
theorem grow_any (h : Qr w B P R L v n f D) (hfull : L.length = n) (hP : (n : Int) < P) :
    Calls Try.prog 30 #[.pointer (some ⟨B, 0, none⟩)] w fun e w' => e = .returned (.tuple #[]) ∧ (∃ N v2 D2 g2, v2 = .slice (some ⟨g2, 0, none⟩) N N ∧ w.heap.size ≤ g2 ∧ n < N ∧ Qr w' B P R L v2 N 0 D2) ∧ Off (fun k => k = B) w w' := by
  rcases h.row.2 with ⟨rfl, h0⟩ | ⟨g, cap, cur, rfl, _⟩
  · subst h0
    exact grow_nil h rfl
  · exact grow_some g cap h hfull hP
end
end Go.Proofs.Ytlfpaebfpmjclaa
