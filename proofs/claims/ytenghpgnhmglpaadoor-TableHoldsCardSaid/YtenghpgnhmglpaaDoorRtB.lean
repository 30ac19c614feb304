/- The document's own row of ids: Drop, Put. No condition but that it isn't long. -/
import Derived.Test.YtenghpgnhmglpaaDoorRtA
namespace Go.Proofs.YtenghpgnhmglpaaDoor
open Go.RowKit
set_option linter.unusedVariables false
section
variable {w w' : World} {B : Nat} {L : List Im} {v : Value}
set_option maxHeartbeats 4000000 in
set_option maxRecDepth 100000 in
theorem rdrop_any (k : Int) (h : Rt w B L v) (hg : Good L) (hl : L.length ≤ 100000) : Calls Tryd.prog 21 #[.pointer (some ⟨B, 0, none⟩), eI k] w fun e w' => e = .returned (eI (askE k L)) ∧ RtLeft w w' B (dropT k L) v := by
  have hM := rmay_any k w
  cases hm : mayI k with
  | false =>
    rw [askE_arg hm, dropT_no (by rw [askE_arg hm]; decide)]
    rw [hm] at hM
    have hf := RtLeft.same h
    clear h
    go_enter Tryd.func21, Tryd.ntmps21
    go_wp2_with (go_at_call 40; (with_reducible refine hM.mono ?_); rintro e w1 ⟨rfl, rfl⟩)
    go_ret
    exact ⟨rfl, hf⟩
  | true =>
    rw [hm] at hM
    have hA := rat_any k h hl
    cases hh : hasI k L with
    | false =>
      rw [askE_no hm hh, dropT_no (by rw [askE_no hm hh]; decide)]
      rw [at_none hh] at hA
      have hA' : Calls Tryd.prog 30 #[.pointer (some ⟨B, 0, none⟩), eI k] w fun e w' => e = .returned (.int .i64 (-1)) ∧ w = w' := hA
      have hf := RtLeft.same h
      clear h hA
      go_enter Tryd.func21, Tryd.ntmps21
      go_wp2_with (first
        | (go_at_call 40; (with_reducible refine hM.mono ?_); rintro e w1 ⟨rfl, rfl⟩)
        | (go_at_call 30; (with_reducible refine hA'.mono ?_); rintro e w1 ⟨rfl, rfl⟩))
      go_ret
      exact ⟨rfl, hf⟩
    | true =>
      obtain ⟨i, hi⟩ := at_is hh
      obtain ⟨hlt, hid⟩ := at_some hi
      rw [askE_ok hm hh, dropT_ok (askE_ok hm hh), del_at hg.rise hlt hid]
      rw [hi] at hA
      have hA' : Calls Tryd.prog 30 #[.pointer (some ⟨B, 0, none⟩), eI k] w fun e w' => e = .returned (.int .i64 (i : Int)) ∧ w = w' := hA
      obtain ⟨g, cap, cur, rfl, _, hgw, hcap, _, hgB, _⟩ := own_some h.row (by omega)
      have hBw := h.box.lt
      have cb : ∀ W, Below w.heap.size w W → W.cell? ⟨B, 0, none⟩ = some (.slice (some ⟨g, 0, none⟩) L.length cap) ∧ W.frozen? ⟨B, 0, none⟩ = false ∧ Box W B #[.slice (some ⟨g, 0, none⟩) L.length cap] 29 := fun W hW => ⟨(h.box.below hW).cell 0, (h.box.below hW).thaw 0, h.box.below hW⟩
      obtain ⟨i1, hi1⟩ : ∃ z, i + 1 = z := ⟨_, rfl⟩
      rw [hi1]
      have e1 : IntKind.i64.wrap ((i : Int) + 1) = (i1 : Int) := by rw [i64_id (by omega)]; omega
      have j1 : (i : Int) ≤ (cap : Int) := by omega
      have j2 : (0 : Int) ≤ (i : Int) := by omega
      have j3 : ¬ (i : Int) < 0 := by omega
      have j4 : (0 : Int) ≤ (i1 : Int) := by omega
      have j5 : (i1 : Int) ≤ (L.length : Int) := by omega
      have j6 : (i1 : Int) ≤ (cap : Int) := by omega
      have j7 : (L.length : Int) ≤ (cap : Int) := by omega
      obtain ⟨ad, had, had'⟩ : ∃ x : Addr, (if cap = i1 then some (⟨g, 0, none⟩ : Addr) else some ⟨g, i1 * 2, none⟩) = some x ∧ (L.drop i1 ≠ [] → x = ⟨g, i1 * 2, none⟩) := by
        by_cases hc : cap = i1
        · rw [if_pos hc]; exact ⟨_, rfl, fun h2 => absurd (List.drop_eq_nil_of_le (by omega)) h2⟩
        · rw [if_neg hc]; exact ⟨_, rfl, fun _ => rfl⟩
      have hf1 : ∀ W, Below w.heap.size w W → ∀ j u, (rowC imC (L.take i))[j]? = some u → W.cell? ((⟨g, 0, none⟩ : Addr).add j) = some u := fun W hW => flat_first imCells h.row hW i
      have hf2 : ∀ W, Below w.heap.size w W → ∀ j u, (rowC imC (L.drop i1))[j]? = some u → W.cell? (ad.add j) = some u := fun W hW => flat_part imCells h.row hW i1 had'
      have hk1 : (L.take i).length = i := by rw [List.length_take]; omega
      have hk2 : (L.drop i1).length = L.length - i1 := List.length_drop
      have hl3 : (L.take i ++ L.drop i1).length = i + (L.length - i1) := by rw [List.length_append, hk1, hk2]
      have hl4 : 0 + i ≤ 1000000 := by omega
      have hl5 : i + (L.length - i1) ≤ 1000000 := by omega
      have hend : ∀ W X v2, Below w.heap.size w X → W = X.setCell ⟨B, 0, none⟩ v2 → X.ownsRow w.heap.size 65 2 v2 (i + (L.length - i1)) (rowC imC (L.take i ++ L.drop i1)) → RtLeft w W B (L.take i ++ L.drop i1) (.slice (some ⟨g, 0, none⟩) L.length cap) := fun W X v2 hX e hO => by
        subst e
        have hbx := (cb X hX).2.2
        refine ⟨⟨v2, ⟨hbx.set 0 _, ?_⟩, fun g' e => .inr (hO.lt g' e).1⟩, ?_⟩
        · rw [hl3]
          exact own_mono (ownsRow_setCell_below hO (a := ⟨B, 0, none⟩) hBw v2) (Nat.zero_le _)
        · have O : Off (Own2 B (.slice (some ⟨g, 0, none⟩) L.length cap)) w X := Off.of hX
          exact O.set (.inl rfl) 0 _
      obtain ⟨c0, _, _⟩ := cb w (Below.refl _ _)
      have T := Below.refl w.heap.size w
      have ca : (w.alloc (.cells #[] 65)).cell? ⟨B, 0, none⟩ = some (.slice (some ⟨g, 0, none⟩) L.length cap) := (cb _ (up1 w _)).1
      clear hA hi hid hi1 h hg
      generalize L.take i = A at *
      generalize L.drop i1 = C at *
      go_enter Tryd.func21, Tryd.ntmps21
      go_upto_region 6 with (first
        | (go_at_call 40; (with_reducible refine hM.mono ?_); rintro e w1 ⟨rfl, rfl⟩)
        | (go_at_call 30; (with_reducible refine hA'.mono ?_); rintro e w1 ⟨rfl, rfl⟩))
      go_cut [] (fun wx => RtLeft w wx B (A ++ C) (.slice (some ⟨g, 0, none⟩) L.length cap))
      case first =>
        go_region_law
          (first
            | (refine step_more imTy imCells (by rfl) (.tmp 15) (.tmp 21) (by rfl) w.heap.size (.slice (some ⟨w.heap.size, 0, none⟩) 0 0) [] A 0 i (by rfl) hk1 (by rfl) (own_empty (by first | exact Box.new _ _ _ | exact Box.new w 65 #[]) (Nat.le_refl _)) ⟨g, 0, none⟩ cap (by rfl) (hf1 _ (by first | exact T.alloc T.size _ | exact (T.alloc T.size _).drew | exact T.drew.alloc T.drew.size _)) hl4 (by simp) ?_; intro v1 w1 hO1 hG1 _ hN1; simp only [Nat.zero_add, List.nil_append] at hO1; obtain ⟨a1, c1, rfl, _, _⟩ := own_len hO1; have T1 : Below w.heap.size w w1 := (by first | exact T.alloc T.size _ | exact (T.alloc T.size _).drew | exact T.drew.alloc T.drew.size _ : Below w.heap.size w _).grown hG1 (by simp) (by intro k hk; cases hk; exact Nat.le_refl _))
            | (refine step_more imTy imCells (by rfl) (.tmp 22) (.tmp 29) (by rfl) w.heap.size (.slice a1 i c1) A C i (L.length - i1) hk1 hk2 (by rfl) hO1 ad (cap - i1) (by rfl) (hf2 _ (by first | exact T1 | exact T1.drew)) hl5 T1.size ?_; intro v2 w2 hO2 hG2 _ _; obtain ⟨a2, c2, rfl, _, _⟩ := own_len hO2; have T2 : Below w.heap.size w w2 := (by first | exact T1 | exact T1.drew : Below w.heap.size w _).grown hG2 T1.size (fun j hj => (hO1.lt j hj).1); obtain ⟨cR2, fR2, bR2⟩ := cb w2 T2; have lR2 := bR2.lt))
        all_goals go_wp2_with fail
        all_goals go_meet
        all_goals exact hend _ w2 _ T2 rfl hO2
      case rest =>
        go_wp2
        go_ret
        exact ⟨rfl, hcut⟩
end
end Go.Proofs.YtenghpgnhmglpaaDoor
