/- The document's own row of ids: Put. No condition but that it isn't long. -/
import Derived.Test.YtenghpgnhmglpaaDoorRtB
namespace Go.Proofs.YtenghpgnhmglpaaDoor
open Go.RowKit
set_option linter.unusedVariables false
theorem split_ins {k x : Int} {L : List Im} {j : Nat} (h : Rise L) (hj : j ≤ L.length) (hh : hasI k L = false) (hd : ∀ a ∈ L.drop j, k < a.id) (ht : ∀ i (hi : i < L.length), i + 1 = j → ¬ k < L[i].id) : insI ⟨k, x⟩ L = L.take j ++ ⟨k, x⟩ :: L.drop j := by
  have hn : ∀ a ∈ L, a.id ≠ k := by
    intro a ha e
    unfold hasI at hh
    rw [List.any_eq_false] at hh
    exact hh a ha (by simp [e])
  have hA : ∀ a ∈ L.take j, a.id < k := by
    intro a ha
    have haL : a ∈ L := List.mem_of_mem_take ha
    have h0 := hn a haL
    match j, hj, ht, ha with
    | 0, _, _, ha => simp at ha
    | i + 1, hj, ht, ha =>
      have hi : i < L.length := by omega
      have h1 := ht i hi rfl
      obtain ⟨h2, _⟩ := rise_split h i hi
      rw [List.take_add_one, List.getElem?_eq_getElem hi] at ha
      rcases List.mem_append.1 ha with ha | ha
      · have := h2 a ha; omega
      · simp at ha; subst ha; omega
  conv => lhs; rw [← List.take_append_drop j L]
  exact ins_at hA hd
theorem put_fin {w w2 : World} {B m n : Nat} {v v2 : Value} {M : List Im} {xs : List Value} (hB : Box w B #[v] 29) (hr : w.ownsRow 0 65 2 v m xs) (O : Off (fun k => v.ownBlock = some k) w w2) (hO : w2.ownsRow 0 65 2 v2 n (rowC imC M)) (hn : M.length = n) (hv : ∀ g, v2.ownBlock = some g → v.ownBlock = some g ∨ w.heap.size ≤ g) : RtLeft w (w2.setCell ⟨B, 0, none⟩ v2) B M v := by
  have b2 : Box w2 B #[v] 29 := O.box hB (own_not hr hB (by decide))
  subst hn
  have O2 : Off (fun k => k = B) w2 w2 := Off.of (Below.refl _ _)
  have O3 : Off (fun k => k = B) w2 (w2.setCell ⟨B, 0, none⟩ v2) := O2.set rfl 0 v2
  refine ⟨⟨v2, ⟨b2.set 0 v2, O3.owns hO (fun g' e e2 => own_not hO b2 (by decide) (by rw [e, e2]))⟩, hv⟩, ?_⟩
  exact (O.mono (fun k _ h => .inr h)).set (.inl rfl) 0 v2
section
variable {w w' : World} {B : Nat} {L : List Im} {v : Value}
theorem put_rest {wx : World} {v1 : Value} {n : Nat} {C : List Im} {b : Nat} (hO : wx.ownsRow b 65 2 v1 n (rowC imC C)) (hN : v1 ≠ .slice none 0 0) : ∃ q c, v1 = .slice (some ⟨q, 0, none⟩) n c ∧ b ≤ q ∧ q < wx.heap.size := by
  rcases own_form hO with ⟨e, _⟩ | ⟨q, c, e, _, h1, h2⟩
  · exact absurd e hN
  · exact ⟨q, c, e, h1, h2⟩
theorem put_kept {w w1 w1' w2 : World} {g j cap q n c : Nat} {C : List Im} (hs : w.heap.size ≤ w1.heap.size) (hgw : g < w.heap.size) (hq : w.heap.size ≤ q) (T : Below w1.heap.size w1 w1') (hG : w1'.grownBy w2 (Value.slice (some ⟨g, 0, none⟩) j cap).ownBlock) (hO : w1.ownsRow w.heap.size 65 2 (.slice (some ⟨q, 0, none⟩) n c) n (rowC imC C)) : w2.ownsRow w.heap.size 65 2 (.slice (some ⟨q, 0, none⟩) n c) n (rowC imC C) := by
  have O : Off (fun k => k = g) w1 w2 := (Off.of T).grown hG (fun k e => .inl (by cases e; rfl))
  have hn : ∀ g', (Value.slice (some ⟨q, 0, none⟩) n c).ownBlock = some g' → ¬ g' = g := by
    intro g' e e2
    have e3 : q = g' := by simpa [Value.ownBlock] using e
    omega
  exact O.owns hO hn
theorem put_up {w w1 : World} {o : Obj} {k : Nat} (hs : w.heap.size ≤ w1.heap.size) (e : k = (w1.alloc o).heap.size) : w.heap.size ≤ k := by
  subst e; simp; omega
set_option maxHeartbeats 4000000 in
set_option maxRecDepth 100000 in
theorem rput_slice (k x : Int) {g cap : Nat} (h : Rt w B L (.slice (some ⟨g, 0, none⟩) L.length cap)) (hg : Good L) (hl : L.length ≤ 100000) (hm : mayI k = true) (hh : hasI k L = false) : Calls Tryd.prog 19 #[.pointer (some ⟨B, 0, none⟩), eI k, eU x] w fun e w' => e = .returned (eI 0) ∧ RtLeft w w' B (insI ⟨k, x⟩ L) (.slice (some ⟨g, 0, none⟩) L.length cap) := by
  have hM := rmay_any k w
  rw [hm] at hM
  have hA := rat_any k h hl
  rw [at_none hh] at hA
  have hA' : Calls Tryd.prog 30 #[.pointer (some ⟨B, 0, none⟩), eI k] w fun e w' => e = .returned (.int .i64 (-1)) ∧ w = w' := hA
  obtain ⟨hcap, hgw⟩ : L.length ≤ cap ∧ g < w.heap.size := by
    rcases own_form h.row with ⟨e, _⟩ | ⟨g', c', e, h1, _, h2⟩
    · cases e
    · cases e; exact ⟨h1, h2⟩
  have hBw := h.box.lt
  have hrow := Lib.hid h.row
  have hbox := Lib.hid h.box
  have hrise := Lib.hid hg.rise
  have hhid := Lib.hid hh
  have c0 : w.cell? ⟨B, 0, none⟩ = some (.slice (some ⟨g, 0, none⟩) L.length cap) := h.box.cell 0
  have j1 : (L.length : Int) ≤ (cap : Int) := by omega
  clear h hg hA hm hh
  go_enter Tryd.func19, Tryd.ntmps19
  go_wp2_with (first
    | (go_at_call 40; (with_reducible refine hM.mono ?_); rintro e w1 ⟨rfl, rfl⟩)
    | (go_at_call 30; (with_reducible refine hA'.mono ?_); rintro e w1 ⟨rfl, rfl⟩))
  go_loopw [7] (fun s7 wr => ∃ j : Nat, s7 = .int .i64 j ∧ j ≤ L.length ∧ w = wr ∧ Hid (∀ a ∈ L.drop j, k < a.id)) (fun s7 _ => (intOf s7).toNat)
  case atStart => exact ⟨L.length, rfl, by omega, rfl, by intro a ha; simp at ha⟩
  case round =>
    obtain ⟨j, rfl, hj, rfl, hD⟩ := hrel
    rcases Nat.eq_zero_or_pos j with hj0 | hj0
    · have hI : Hid (insI ⟨k, x⟩ L = L.take j ++ [⟨k, x⟩] ++ L.drop j) := by
        show _ = _
        rw [split_ins hrise.out hj hhid.out hD.out (fun i hi e => by omega)]; simp
      have k1 : ¬ (0 : Int) < (j : Int) := by omega
      clear hj0
      obtain ⟨ad, had, had'⟩ : ∃ x : Addr, (if cap = j then some (⟨g, 0, none⟩ : Addr) else some ⟨g, j * 2, none⟩) = some x ∧ (L.drop j ≠ [] → x = ⟨g, j * 2, none⟩) := by
        by_cases hc : cap = j
        · rw [if_pos hc]; exact ⟨_, rfl, fun h2 => absurd (List.drop_eq_nil_of_le (by omega)) h2⟩
        · rw [if_neg hc]; exact ⟨_, rfl, fun _ => rfl⟩
      have m1 : (0 : Int) ≤ (j : Int) := by omega
      have m2 : (j : Int) ≤ (L.length : Int) := by omega
      have m3 : (j : Int) ≤ (cap : Int) := by omega
      have hf2 : Hid (∀ W, Below w.heap.size w W → ∀ q u, (rowC imC (L.drop j))[q]? = some u → W.cell? (ad.add q) = some u) := fun W hW => flat_part imCells hrow.out hW j had'
      have hk2 : (L.drop j).length = L.length - j := List.length_drop
      have hk1 : (L.take j ++ [(⟨k, x⟩ : Im)]).length = j + 1 := by rw [List.length_append, List.length_take]; simp; omega
      have hk0 : (L.take j).length = j := by rw [List.length_take]; omega
      have hk3 : (L.take j ++ [(⟨k, x⟩ : Im)] ++ L.drop j).length = j + 1 + (L.length - j) := by rw [List.length_append, hk1, hk2]
      have hl4 : 0 + (L.length - j) ≤ 1000000 := by omega
      have hl5 : j + 1 ≤ 1000000 := by omega
      have hl6 : j + 1 + (L.length - j) ≤ 1000000 := by omega
      have T := Below.refl w.heap.size w
      have ca : (w.alloc (.cells #[] 65)).cell? ⟨B, 0, none⟩ = some (.slice (some ⟨g, 0, none⟩) L.length cap) := (hbox.out.below (up1 w _)).cell 0
      clear hD had'
      go_wp2_with (first
        | (at_builtin; (refine wpList_more imTy imCells (by rfl) (.tmp 38) (.tmp 44) (by rfl) w.heap.size (.slice (some ⟨w.heap.size, 0, none⟩) 0 0) [] (L.drop j) 0 (L.length - j) (by rfl) hk2 (by rfl) (own_empty (Box.new w 65 #[]) (Nat.le_refl _)) ad (cap - j) (by rfl) (hf2.out _ (T.alloc T.size _)) hl4 (by simp) ?_; intro v1 w1 hO1 hG1 _ hN1; simp only [Nat.zero_add, List.nil_append] at hO1; have T1 : Below w.heap.size w w1 := (T.alloc T.size _).grown hG1 (by simp) (by intro k hk; cases hk; exact Nat.le_refl _); obtain ⟨q, c, rfl, hq1, hq2⟩ := put_rest hO1 (hN1 (by simp)); have c1 := (hbox.out.below T1).cell 0; replace hO1 := Lib.hid hO1; clear hG1 hN1))
        | (at_builtin; (refine wpList_more imTy imCells (by rfl) (.tmp 52) (.tmp 56) (by rfl) 0 (.slice (some ⟨g, 0, none⟩) j cap) (L.take j) [⟨k, x⟩] j 1 hk0 (by rfl) (by rfl) (own_take imCells (own_below hrow.out (T1.alloc T1.size _)) rfl hj) ⟨w1.heap.size, 0, none⟩ 1 (by rfl) (flat_new (Box.new w1 65 #[eI k, eU x]) (by rfl)) hl5 (Nat.zero_le _) ?_; intro v2 w2 hO2 hG2 hA2 _; have O2 : Off (fun k => (Value.slice (some ⟨g, 0, none⟩) L.length cap).ownBlock = some k) w w2 := (Off.of (T1.alloc T1.size _)).grown hG2 (fun k e => .inl e); have hR : w2.ownsRow w.heap.size 65 2 (.slice (some ⟨q, 0, none⟩) (L.length - j) c) (L.length - j) (rowC imC (L.drop j)) := put_kept T1.size hgw hq1 (up1 w1 _) hG2 hO1.out; obtain ⟨a2, c2, rfl, _, _⟩ := own_len hO2; replace hR := Lib.hid hR))
        | (at_builtin; (refine wpList_more imTy imCells (by rfl) (.tmp 57) (.tmp 58) (by rfl) 0 (.slice a2 (j + 1) c2) (L.take j ++ [⟨k, x⟩]) (L.drop j) (j + 1) (L.length - j) hk1 hk2 (by rfl) hO2 ⟨q, 0, none⟩ c (by rfl) (hR.out.cells (g := q) rfl) hl6 (Nat.zero_le _) ?_; intro v3 w3 hO3 hG3 hA3 _; have O3 := O2.grown hG3 (fun k e => (hA2 k e).imp id (fun e2 => put_up T1.size e2)); obtain ⟨a3, c3, rfl, _, _⟩ := own_len hO3; have b3 := O3.box hbox.out (own_not hrow.out hbox.out (by decide)); have c3 := b3.cell 0; have f3 := b3.thaw 0; have hF := Lib.hid (put_fin hbox.out hrow.out O3 hO3 hk3 (fun k e => (hA3 k e).elim (fun e1 => (hA2 k e1).imp id (fun e2 => put_up T1.size e2)) (fun e1 => .inr (e1 ▸ O2.size)))))))
      go_ret
      rw [hI.out]
      exact ⟨rfl, hF.out⟩
    · obtain ⟨i, hi⟩ : ∃ i, j = i + 1 := ⟨j - 1, by omega⟩
      have hlt : i < L.length := by omega
      have k1 : (0 : Int) < (j : Int) := by omega
      have e1 : IntKind.i64.wrap ((j : Int) - 1) = (i : Int) := by rw [i64_id (by omega)]; omega
      have k2 : (0 : Int) ≤ (i : Int) := by omega
      have k3 : (i : Int) < (L.length : Int) := by omega
      obtain ⟨x0, x1⟩ := im_at hrow.out i hlt
      obtain ⟨z, hz⟩ : ∃ z, L[i] = z := ⟨_, rfl⟩
      rw [hz] at x0 x1
      by_cases hk : k < z.id
      · have hD2 : Hid (∀ a ∈ L.drop i, k < a.id) := by
          intro a ha
          rw [List.drop_eq_getElem_cons hlt] at ha
          rcases List.mem_cons.1 ha with ha | ha
          · rw [ha, hz]; exact hk
          · subst hi; exact hD.out a ha
        have hij : i < j := by omega
        have hil : i ≤ L.length := by omega
        clear hi hD hz
        go_wp2
        exact ⟨⟨i, rfl, hil, by trivial, hD2⟩, by simp [intOf]; omega⟩
      · have hI : Hid (insI ⟨k, x⟩ L = L.take j ++ [⟨k, x⟩] ++ L.drop j) := by
          show _ = _
          rw [split_ins hrise.out hj hhid.out hD.out (fun i' hi' e => by
            have : i' = i := by omega
            subst this; rw [hz]; exact hk)]; simp
        clear hi hz
        obtain ⟨ad, had, had'⟩ : ∃ x : Addr, (if cap = j then some (⟨g, 0, none⟩ : Addr) else some ⟨g, j * 2, none⟩) = some x ∧ (L.drop j ≠ [] → x = ⟨g, j * 2, none⟩) := by
          by_cases hc : cap = j
          · rw [if_pos hc]; exact ⟨_, rfl, fun h2 => absurd (List.drop_eq_nil_of_le (by omega)) h2⟩
          · rw [if_neg hc]; exact ⟨_, rfl, fun _ => rfl⟩
        have m1 : (0 : Int) ≤ (j : Int) := by omega
        have m2 : (j : Int) ≤ (L.length : Int) := by omega
        have m3 : (j : Int) ≤ (cap : Int) := by omega
        have hf2 : Hid (∀ W, Below w.heap.size w W → ∀ q u, (rowC imC (L.drop j))[q]? = some u → W.cell? (ad.add q) = some u) := fun W hW => flat_part imCells hrow.out hW j had'
        have hk2 : (L.drop j).length = L.length - j := List.length_drop
        have hk1 : (L.take j ++ [(⟨k, x⟩ : Im)]).length = j + 1 := by rw [List.length_append, List.length_take]; simp; omega
        have hk0 : (L.take j).length = j := by rw [List.length_take]; omega
        have hk3 : (L.take j ++ [(⟨k, x⟩ : Im)] ++ L.drop j).length = j + 1 + (L.length - j) := by rw [List.length_append, hk1, hk2]
        have hl4 : 0 + (L.length - j) ≤ 1000000 := by omega
        have hl5 : j + 1 ≤ 1000000 := by omega
        have hl6 : j + 1 + (L.length - j) ≤ 1000000 := by omega
        have T := Below.refl w.heap.size w
        have ca : (w.alloc (.cells #[] 65)).cell? ⟨B, 0, none⟩ = some (.slice (some ⟨g, 0, none⟩) L.length cap) := (hbox.out.below (up1 w _)).cell 0
        clear hD had'
        go_wp2_with (first
          | (at_builtin; (refine wpList_more imTy imCells (by rfl) (.tmp 38) (.tmp 44) (by rfl) w.heap.size (.slice (some ⟨w.heap.size, 0, none⟩) 0 0) [] (L.drop j) 0 (L.length - j) (by rfl) hk2 (by rfl) (own_empty (Box.new w 65 #[]) (Nat.le_refl _)) ad (cap - j) (by rfl) (hf2.out _ (T.alloc T.size _)) hl4 (by simp) ?_; intro v1 w1 hO1 hG1 _ hN1; simp only [Nat.zero_add, List.nil_append] at hO1; have T1 : Below w.heap.size w w1 := (T.alloc T.size _).grown hG1 (by simp) (by intro k hk; cases hk; exact Nat.le_refl _); obtain ⟨q, c, rfl, hq1, hq2⟩ := put_rest hO1 (hN1 (by simp)); have c1 := (hbox.out.below T1).cell 0; replace hO1 := Lib.hid hO1; clear hG1 hN1))
          | (at_builtin; (refine wpList_more imTy imCells (by rfl) (.tmp 52) (.tmp 56) (by rfl) 0 (.slice (some ⟨g, 0, none⟩) j cap) (L.take j) [⟨k, x⟩] j 1 hk0 (by rfl) (by rfl) (own_take imCells (own_below hrow.out (T1.alloc T1.size _)) rfl hj) ⟨w1.heap.size, 0, none⟩ 1 (by rfl) (flat_new (Box.new w1 65 #[eI k, eU x]) (by rfl)) hl5 (Nat.zero_le _) ?_; intro v2 w2 hO2 hG2 hA2 _; have O2 : Off (fun k => (Value.slice (some ⟨g, 0, none⟩) L.length cap).ownBlock = some k) w w2 := (Off.of (T1.alloc T1.size _)).grown hG2 (fun k e => .inl e); have hR : w2.ownsRow w.heap.size 65 2 (.slice (some ⟨q, 0, none⟩) (L.length - j) c) (L.length - j) (rowC imC (L.drop j)) := put_kept T1.size hgw hq1 (up1 w1 _) hG2 hO1.out; obtain ⟨a2, c2, rfl, _, _⟩ := own_len hO2; replace hR := Lib.hid hR))
          | (at_builtin; (refine wpList_more imTy imCells (by rfl) (.tmp 57) (.tmp 58) (by rfl) 0 (.slice a2 (j + 1) c2) (L.take j ++ [⟨k, x⟩]) (L.drop j) (j + 1) (L.length - j) hk1 hk2 (by rfl) hO2 ⟨q, 0, none⟩ c (by rfl) (hR.out.cells (g := q) rfl) hl6 (Nat.zero_le _) ?_; intro v3 w3 hO3 hG3 hA3 _; have O3 := O2.grown hG3 (fun k e => (hA2 k e).imp id (fun e2 => put_up T1.size e2)); obtain ⟨a3, c3, rfl, _, _⟩ := own_len hO3; have b3 := O3.box hbox.out (own_not hrow.out hbox.out (by decide)); have c3 := b3.cell 0; have f3 := b3.thaw 0; have hF := Lib.hid (put_fin hbox.out hrow.out O3 hO3 hk3 (fun k e => (hA3 k e).elim (fun e1 => (hA2 k e1).imp id (fun e2 => put_up T1.size e2)) (fun e1 => .inr (e1 ▸ O2.size)))))))
        go_ret
        rw [hI.out]
        exact ⟨rfl, hF.out⟩
set_option maxHeartbeats 4000000 in
set_option maxRecDepth 100000 in
theorem rput_nil (k x : Int) (h : Rt w B [] (.slice none 0 0)) (hm : mayI k = true) : Calls Tryd.prog 19 #[.pointer (some ⟨B, 0, none⟩), eI k, eU x] w fun e w' => e = .returned (eI 0) ∧ RtLeft w w' B [⟨k, x⟩] (.slice none 0 0) := by
  have hM := rmay_any k w
  rw [hm] at hM
  have hA := rat_any k h (by simp)
  have hA' : Calls Tryd.prog 30 #[.pointer (some ⟨B, 0, none⟩), eI k] w fun e w' => e = .returned (.int .i64 (-1)) ∧ w = w' := hA
  have hBw := h.box.lt
  have hrow := Lib.hid h.row
  have hbox := Lib.hid h.box
  have c0 : w.cell? ⟨B, 0, none⟩ = some (.slice none 0 0) := h.box.cell 0
  clear h hA hm
  have T := Below.refl w.heap.size w
  have T1 := Lib.hid (T.alloc T.size (.cells #[] 65))
  have ca : (w.alloc (.cells #[] 65)).cell? ⟨B, 0, none⟩ = some (.slice none 0 0) := (hbox.out.below T1.out).cell 0
  go_enter Tryd.func19, Tryd.ntmps19
  go_wp2_with (first
    | (go_at_call 40; (with_reducible refine hM.mono ?_); rintro e w1 ⟨rfl, rfl⟩)
    | (go_at_call 30; (with_reducible refine hA'.mono ?_); rintro e w1 ⟨rfl, rfl⟩))
  go_loopw [7] (fun s7 wr => s7 = .int .i64 0 ∧ w = wr) (fun s7 _ => (intOf s7).toNat)
  case atStart => exact ⟨rfl, rfl⟩
  case round =>
    obtain ⟨rfl, rfl⟩ := hrel
    go_wp2_with (first
      | (at_builtin; (refine wpList_nomore imTy (by rfl) (.tmp 38) (.tmp 44) (by rfl) w.heap.size 0 (.slice (some ⟨w.heap.size, 0, none⟩) 0 0) _ (by rfl) (own_empty (f := imC) (Box.new w 65 #[]) (Nat.le_refl _)) (by rfl) ?_))
      | (at_builtin; (refine wpList_more imTy imCells (by rfl) (.tmp 52) (.tmp 56) (by rfl) 0 (.slice none 0 0) [] [⟨k, x⟩] 0 1 (by rfl) (by rfl) (by rfl) (own_below hrow.out (T.alloc T.size _ |>.alloc (by simp) _)) ⟨(w.alloc (.cells #[] 65)).heap.size, 0, none⟩ 1 (by first | rfl | (simp; rfl)) (flat_new (Box.new (w.alloc (.cells #[] 65)) 65 #[eI k, eU x]) (by rfl)) (by decide) (Nat.zero_le _) ?_; intro v2 w2 hO2 hG2 hA2 _; have O2 : Off (fun k => (Value.slice none 0 0).ownBlock = some k) w w2 := (Off.of (T1.out.alloc T1.out.size _)).grown hG2 (fun k e => .inl e); obtain ⟨a2, c2, rfl, _, _⟩ := own_len hO2))
      | (at_builtin; (refine wpList_more imTy imCells (by rfl) (.tmp 57) (.tmp 58) (by rfl) 0 (.slice a2 1 c2) ([] ++ [⟨k, x⟩]) [] 1 0 (by rfl) (by rfl) (by rfl) hO2 ⟨w.heap.size, 0, none⟩ 0 (by rfl) (fun j u hu => by simp [rowC] at hu) (by decide) (Nat.zero_le _) ?_; intro v3 w3 hO3 hG3 hA3 _; have O3 := O2.grown hG3 (fun k e => (hA2 k e).imp id (fun e2 => put_up T1.out.size e2)); obtain ⟨a3, c3, rfl, _, _⟩ := own_len hO3; have b3 := O3.box hbox.out (own_not hrow.out hbox.out (by decide)); have c3 := b3.cell 0; have f3 := b3.thaw 0; have hF := Lib.hid (put_fin hbox.out hrow.out O3 hO3 (by rfl) (fun k e => (hA3 k e).elim (fun e1 => (hA2 k e1).imp id (fun e2 => put_up T1.out.size e2)) (fun e1 => .inr (e1 ▸ O2.size)))))))
    go_ret
    exact ⟨rfl, hF.out⟩
theorem rput_any (k x : Int) (h : Rt w B L v) (hg : Good L) (hl : L.length ≤ 100000) : Calls Tryd.prog 19 #[.pointer (some ⟨B, 0, none⟩), eI k, eU x] w fun e w' => e = .returned (eI (putE k L)) ∧ RtLeft w w' B (putI k x L) v := by
  have hM := rmay_any k w
  cases hm : mayI k with
  | false =>
    rw [putE_arg hm, putI_no (by rw [putE_arg hm]; decide)]
    rw [hm] at hM
    have hf := RtLeft.same h
    clear h
    go_enter Tryd.func19, Tryd.ntmps19
    go_wp2_with (go_at_call 40; (with_reducible refine hM.mono ?_); rintro e w1 ⟨rfl, rfl⟩)
    go_ret
    exact ⟨rfl, hf⟩
  | true =>
    rw [hm] at hM
    cases hh : hasI k L with
    | true =>
      obtain ⟨i, hi⟩ := at_is hh
      rw [putE_twice hm hh, putI_no (by rw [putE_twice hm hh]; decide)]
      have hA := rat_any k h hl
      rw [hi] at hA
      have hA' : Calls Tryd.prog 30 #[.pointer (some ⟨B, 0, none⟩), eI k] w fun e w' => e = .returned (.int .i64 (i : Int)) ∧ w = w' := hA
      have hf := RtLeft.same h
      have i0 : (0 : Int) ≤ (i : Int) := by omega
      clear h hA hi
      go_enter Tryd.func19, Tryd.ntmps19
      go_wp2_with (first
        | (go_at_call 40; (with_reducible refine hM.mono ?_); rintro e w1 ⟨rfl, rfl⟩)
        | (go_at_call 30; (with_reducible refine hA'.mono ?_); rintro e w1 ⟨rfl, rfl⟩))
      go_ret
      exact ⟨rfl, hf⟩
    | false =>
      rw [putE_ok hm hh, putI_ok (putE_ok hm hh)]
      rcases own_form h.row with ⟨e, e0⟩ | ⟨g, cap, e, _⟩
      · subst e
        obtain rfl := List.eq_nil_of_length_eq_zero e0
        exact rput_nil k x h hm
      · subst e
        exact rput_slice k x h hg hl hm hh
end
end Go.Proofs.YtenghpgnhmglpaaDoor
