/- What Push answers and does. No condition but that the packet's numbers are what the fields can hold. -/
import Derived.Test.YtlfpaebfpmjclaaQH
import Derived.Deep.CutRange
namespace Go.Proofs.Ytlfpaebfpmjclaa
open Go.RowKit
set_option linter.unusedVariables false
/-- The ring behind one more. -/
theorem RingIs.push {D : List Pk} {f : Nat} {L : List Pk} (h : RingIs D f L) (hl : L.length < D.length) (p : Pk) : RingIs (D.set ((f + L.length) % D.length) p) f (L ++ [p]) := by
  obtain ⟨h1, h2, h3⟩ := h
  have hf : f < D.length := by
    rcases h2 with h2 | ⟨h2, _⟩
    · exact h2
    · subst h2; simp at hl
  refine ⟨by simp; omega, .inl (by simpa using hf), fun i hi => ?_⟩
  simp only [List.length_append, List.length_cons, List.length_nil] at hi
  rw [List.length_set]
  have hm : (f + L.length) % D.length < D.length := Nat.mod_lt _ (by omega)
  by_cases hi2 : i < L.length
  · rw [List.getElem?_set_ne, h3 i hi2, List.getElem?_append_left hi2]
    intro e
    by_cases a : f + i < D.length
    · rw [Nat.mod_eq_of_lt a] at e
      by_cases b : f + L.length < D.length
      · rw [Nat.mod_eq_of_lt b] at e; omega
      · rw [Nat.mod_eq_sub_mod (by omega), Nat.mod_eq_of_lt (by omega)] at e; omega
    · have b : ¬ f + L.length < D.length := by omega
      rw [Nat.mod_eq_sub_mod (by omega : f + L.length ≥ D.length), Nat.mod_eq_of_lt (by omega), Nat.mod_eq_sub_mod (by omega : f + i ≥ D.length), Nat.mod_eq_of_lt (by omega)] at e
      omega
  · obtain rfl : i = L.length := by omega
    rw [List.getElem?_set_self hm, List.getElem?_append_right (by omega)]
    simp
theorem Off.put4X {S : Nat → Prop} {W w : World} (h : Off S w W) {g : Nat} (hg : S g ∨ w.heap.size ≤ g) (o : Nat) (p : Pk) : Off S w (Ytlfpaebfpmjclaa.put4 W g o p) := by
  rcases hg with hg | hg
  · exact h.put4 hg o p
  · exact (((h.setHi hg _ _).setHi hg _ _).setHi hg _ _).setHi hg _ _
/-- What there is once a full ring has grown. -/
def Grown (w W2 : World) (B : Nat) (P R : Int) (L : List Pk) (v : Value) (N : Nat) (p : Pk) : Prop :=
  ∃ v2 n2 f2 D2, Qr W2 B P R L v2 n2 f2 D2 ∧ L.length < n2 ∧ (v2.ownBlock = v.ownBlock ∨ ∃ g, v2.ownBlock = some g ∧ w.heap.size < g) ∧ Off (fun k => k = B) w W2 ∧ Box W2 N (pkC p) 31
/-- What Push leaves. -/
def Pushed (w W2 : World) (B : Nat) (P R : Int) (L : List Pk) (v : Value) : Prop :=
  (∃ v2 n2 f2 D2, Qr W2 B P R L v2 n2 f2 D2 ∧ (v2.ownBlock = v.ownBlock ∨ ∃ g, v2.ownBlock = some g ∧ w.heap.size < g)) ∧ Off (Own2 B v) w W2
section
variable {w : World} {B : Nat} {P R : Int} {L : List Pk} {v : Value} {n f : Nat} {D : List Pk}
theorem Push_bad (p : Pk) (h : Qr w B P R L v n f D) (hp : p.len < 1 ∨ 65535 < p.len) : Calls Try.prog 14 #[.pointer (some ⟨B, 0, none⟩), pkV p] w fun e w' => e = .returned (eI 100) ∧ Below w.heap.size w w' := by
  have T := up1 w (.cells (pkC p) 31)
  have hN := none_any B P R _ _ f v (w.alloc (.cells (pkC p) 31)) (h.below T).box h.nz
  have hM := fun w => May_any p 65535 w
  rw [mayN_len (by omega) (by omega)] at hM
  obtain ⟨i, c, l, t⟩ := p
  clear h hp
  go_enter Try.func14, Try.ntmps14
  go_wp2_with (first
    | (go_at_call 24; (with_reducible refine hN.mono ?_); rintro e w1 ⟨rfl, rfl⟩)
    | (go_at_call 29; (with_reducible refine (hM _).mono ?_); rintro e w2 ⟨rfl, hb⟩))
  go_ret
  exact ⟨rfl, ups T hb T.size⟩
theorem Push_full (p : Pk) (h : Qr w B P R L v n f D) (hp : ¬ (p.len < 1 ∨ 65535 < p.len)) (hF : P ≤ (L.length : Int) ∨ R < bsum L + p.len) : Calls Try.prog 14 #[.pointer (some ⟨B, 0, none⟩), pkV p] w fun e w' => e = .returned (eI 110) ∧ Below w.heap.size w w' := by
  have T := up1 w (.cells (pkC p) 31)
  have bp := Box.new w 31 (pkC p)
  have H := h.below T
  have hN := none_any B P R _ _ f v (w.alloc (.cells (pkC p) 31)) H.box H.nz
  have hM := fun w => May_any p 65535 w
  rw [mayN_ok (by omega) (by omega)] at hM
  have hm := h.fit.many
  have hRm : ∀ w', Below (w.alloc (.cells (pkC p) 31)).heap.size (w.alloc (.cells (pkC p) 31)) w' → Calls Try.prog 18 #[.pointer (some ⟨B, 0, none⟩)] w' fun e w2 => e = .returned (.tuple #[eI (P - L.length), eI (R - bsum L)]) ∧ Below w'.heap.size w' w2 := fun w' hb => Room_any (H.below hb)
  by_cases h0 : P - (L.length : Int) = 0
  · rw [h0] at hRm
    clear h H hF hm hp
    replace h0 := Lib.hid h0
    go_enter Try.func14, Try.ntmps14
    go_wp2_with (first
      | (go_at_call 24; (with_reducible refine hN.mono ?_); rintro e w1 ⟨rfl, rfl⟩)
      | (go_at_call 29; (with_reducible refine (hM _).mono ?_); rintro e w2 ⟨rfl, hb⟩; have hRm' := hRm _ hb)
      | (go_at_call 18; (with_reducible refine hRm'.mono ?_); rintro e w3 ⟨rfl, hb3⟩))
    go_ret
    exact ⟨rfl, ups (ups T hb T.size) hb3 (ups T hb T.size).size⟩
  · have h1 : ((P - (L.length : Int)) == 0) = false := beq_eq_false_iff_ne.2 h0
    have h2 : R - bsum L < p.len := by omega
    generalize P - (L.length : Int) = X at *
    generalize R - bsum L = Y at *
    clear h H hF hm hp h0
    go_enter Try.func14, Try.ntmps14
    go_wp2_with (first
      | (go_at_call 24; (with_reducible refine hN.mono ?_); rintro e w1 ⟨rfl, rfl⟩)
      | (go_at_call 29; (with_reducible refine (hM _).mono ?_); rintro e w2 ⟨rfl, hb⟩; have hRm' := hRm _ hb; have bp2 := bp.below hb)
      | (go_at_call 18; (with_reducible refine hRm'.mono ?_); rintro e w3 ⟨rfl, hb3⟩; have bp3 := bp2.below hb3; obtain ⟨_, _, _, _, _, _, _, _⟩ := bp3.four))
    go_ret
    exact ⟨rfl, ups (ups T hb T.size) hb3 (ups T hb T.size).size⟩
set_option maxHeartbeats 4000000 in
set_option maxRecDepth 100000 in
theorem Push_ok (p : Pk) (hok : p.ok) (h : Qr w B P R L v n f D) (hp : ¬ (p.len < 1 ∨ 65535 < p.len)) (hF : ¬ (P ≤ (L.length : Int) ∨ R < bsum L + p.len)) : Calls Try.prog 14 #[.pointer (some ⟨B, 0, none⟩), pkV p] w fun e w' => e = .returned (eI 0) ∧ Pushed w w' B P R (L ++ [p]) v := by
  have T := up1 w (.cells (pkC p) 31)
  have bp := Box.new w 31 (pkC p)
  have H := h.below T
  have hN := none_any B P R _ _ f v (w.alloc (.cells (pkC p) 31)) H.box H.nz
  have hM := fun w => May_any p 65535 w
  rw [mayN_ok (by omega) (by omega)] at hM
  have hm := h.fit.many
  have hRm : ∀ w', Below (w.alloc (.cells (pkC p) 31)).heap.size (w.alloc (.cells (pkC p) 31)) w' → Calls Try.prog 18 #[.pointer (some ⟨B, 0, none⟩)] w' fun e w2 => e = .returned (.tuple #[eI (P - L.length), eI (R - bsum L)]) ∧ Below w'.heap.size w' w2 := fun w' hb => Room_any (H.below hb)
  have h1 : ((P - (L.length : Int)) == 0) = false := beq_eq_false_iff_ne.2 (by omega)
  have h2 : ¬ R - bsum L < p.len := by omega
  have hLP : (L.length : Int) < P := by omega
  have hB0 := h.box.lt
  have hv0 := h.row.lt
  have hfit : Fit P R (L ++ [p]) := by
    have e := h.fit.push hok
    rwa [pushL_ok (pushE_ok hp hF)] at e
  have hHh := Lib.hid H
  clear h H hF
  generalize hX : P - (L.length : Int) = X at *
  generalize hY : R - bsum L = Y at *
  replace hX := Lib.hid hX
  replace hY := Lib.hid hY
  go_enter Try.func14, Try.ntmps14
  go_upto_region 9 with (first
    | (go_at_call 24; (with_reducible refine hN.mono ?_); rintro e w1 ⟨rfl, rfl⟩)
    | (go_at_call 29; (with_reducible refine (hM _).mono ?_); rintro e w2 ⟨rfl, hb⟩; have hRm' := hRm _ hb; have bp2 := bp.below hb; have H2 := hHh.out.below hb)
    | (go_at_call 18; (with_reducible refine hRm'.mono ?_); rintro e w3 ⟨rfl, hb3⟩; have bp3 := bp2.below hb3; obtain ⟨_, _, _, _, _, _, _, _⟩ := bp3.four; have H3 := H2.below hb3; have T3 := ups (ups T hb T.size) hb3 (ups T hb T.size).size))
  obtain ⟨ad, cap, rfl, _, _⟩ := H3.form
  obtain ⟨c0, c1, c2, c3, c4, c5⟩ := H3.box.qu
  obtain ⟨q, hq⟩ : ∃ q : Bool, ((L.length : Int) == (n : Int)) = q := ⟨_, rfl⟩
  go_region
  go_upto_if 38 with (fail)
  replace hq := Lib.hid hq
  clear c0 c1 c2 c3 c4 c5 hN hM hRm hRm' bp bp2 H2 hb hb3 T
  go_cut [] (fun wx => Grown w wx B P R L (.slice ad n cap) w.heap.size p)
  case first =>
    have H4 := H3.drew
    have bp4 := bp3.drew
    have T4 := T3.drew
    cases q with
    | true =>
      have hfull : L.length = n := by have := hq.out; simp at this; omega
      have hg := grow_any H4 hfull (by omega)
      replace hfull := Lib.hid hfull
      go_wp2_with (go_at_call 30; (with_reducible refine hg.mono ?_); rintro e w4 ⟨rfl, ⟨N, v2, D2, g2, hv2, hg2, hN2, H5⟩, O5⟩)
      all_goals go_meet
      refine ⟨v2, N, 0, D2, H5, by rw [hfull.out]; exact hN2, .inr ⟨g2, by rw [hv2]; rfl, ?_⟩, (Off.of T4).trans O5 (fun i hi e => e), O5.box bp4 (by omega)⟩
      have := bp3.lt
      exact Nat.lt_of_lt_of_le this hg2
    | false =>
      have hfull : L.length < n := by have := hq.out; have := H3.many; simp at *; omega
      go_wp2_with fail
      all_goals go_meet
      exact ⟨_, n, f, D, H4, hfull, .inl rfl, Off.of T4, bp4⟩
  case rest =>
    obtain ⟨v2, n2, f2, D2, H, hn2, hv2, O, bp⟩ := hcut
    replace hv2 := Lib.hid hv2
    clear H3 bp3 T3 h1 hX hY
    obtain ⟨g, cap2, cur, rfl, _, hg, hc, hcm, hB, hcell⟩ := own_some H.row (by omega)
    have hgN : g ≠ w.heap.size := by
      rcases hv2.out with e | ⟨g', e, h⟩
      · have := (hv0 g (by rw [← e]; rfl)).2; omega
      · have e' : g = g' := by simpa [Value.ownBlock] using e
        omega
    have hgB : g ≠ B := box_ne hB H.box (by decide)
    have hSg : Own2 B (.slice ad n cap) g ∨ w.heap.size ≤ g := by
      rcases hv2.out with e | ⟨g', e, h⟩
      · exact .inl (.inr (by rw [← e]; rfl))
      · have e' : g = g' := by simpa [Value.ownBlock] using e
        exact .inr (by omega)
    have hl5 : L.length ≤ 5000 := by have := H.hP; omega
    have hP : ∀ W', Box W' B _ 44 → Calls Try.prog 28 #[.pointer (some ⟨B, 0, none⟩), eI (L.length : Int)] W' fun e w' => e = .returned (eI ((f2 + L.length) % n2 : Nat)) ∧ W'.drew = w' := fun W' hb => place_raw (k := L.length) (s := bsum L) (P := P) (R := R) (a := some ⟨g, 0, none⟩) (cap := cap2) hb (by omega) H.few H.f_lt L.length hl5
    have hr : (f2 + L.length) % n2 < n2 := Nat.mod_lt _ (by omega)
    have hring := H.ring.push (by rw [H.len]; exact hn2) p
    rw [H.len] at hring
    have hPw := hP wc.drew H.box.drew
    obtain ⟨r, hr'⟩ : ∃ r, (f2 + L.length) % n2 = r := ⟨_, rfl⟩
    rw [hr'] at hPw hr hring
    clear hr' hP
    obtain ⟨q0, x0, x1, x2, x3⟩ : ∃ q : Pk, PkC wc g (r * 4) q := ⟨D2[r]'(by rw [H.len]; exact hr), own_at (base := 0) (cap := cap2) hcell r _ (List.getElem?_eq_getElem (by rw [H.len]; exact hr))⟩
    have z0 := hB.thaw (r * 4)
    have z1 := hB.thaw (r * 4 + 1)
    have z2 := hB.thaw (r * 4 + 2)
    have z3 := hB.thaw (r * 4 + 3)
    obtain ⟨p0, p1, p2, p3, _, _, _, _⟩ := bp.four
    obtain ⟨c0, c1, c2, c3, c4, c5⟩ := H.box.qu
    have j1 : (r : Int) < (n2 : Int) := by omega
    have j2 : (0 : Int) ≤ (r : Int) := by omega
    have hNB : w.heap.size ≠ B := by omega
    have hrl : r < D2.length := by rw [H.len]; exact hr
    have O4 : Off (Own2 B (.slice ad n cap)) w (put4 wc g (r * 4) p).drew := ((O.mono (fun k _ e => .inl e)).put4X hSg _ _).drew
    have bQ : Box (put4 wc g (r * 4) p).drew B (quA P R L.length (bsum L) (.slice (some ⟨g, 0, none⟩) n2 cap2) f2) 44 := (H.box.put4 (fun e => hgB e.symm)).drew
    have own4 := (own_put4 H.row p hrl).drew
    have bp4 : Box (put4 wc g (r * 4) p).drew w.heap.size (pkC p) 31 := (bp.put4 (fun e => hgN e.symm)).drew
    have hlen : (D2.set r p).length = n2 := by rw [List.length_set]; exact H.len
    have hcapP := H.cap
    have hPP := H.hP
    have hRR := H.hR
    have e1 : IntKind.i64.wrap ((L.length : Int) + 1) = ((L ++ [p]).length : Int) := by
      rw [List.length_append, i64_id (by omega)]; simp
    have e2 : IntKind.i64.wrap (bsum L + p.len) = bsum (L ++ [p]) := by
      have := hfit.room
      have := hfit.bytes
      rw [bsum_snoc] at *
      rw [i64_id (by omega)]
    clear hcell H bp hB hp hm hLP hg hcm
    go_upto_region 11 with fail
    rename World => W4
    go_cut [] (fun wx => wx = (put4 W4 g (r * 4) p).drew.drew)
    case first =>
      go_region_law (go_simp; go_at_call 28; (with_reducible refine hPw.mono ?_); rintro e w1 ⟨rfl, rfl⟩)
      all_goals go_wp2_with fail
      all_goals go_meet
      all_goals rfl
    case rest =>
    subst hcut
    replace O4 := O4.drew
    replace bQ := bQ.drew
    replace own4 := own4.drew
    replace bp4 := bp4.drew
    obtain ⟨W5, hW5⟩ : ∃ x, (put4 W4 g (r * 4) p).drew.drew = x := ⟨_, rfl⟩
    rw [hW5] at O4 bQ own4 bp4 ⊢
    clear hW5 x0 x1 x2 x3 z0 z1 z2 z3 c0 c1 c2 c3 c4 c5 p0 p1 p2 p3 hPw
    obtain ⟨c0, c1, c2, c3, c4, c5⟩ := bQ.qu
    have f2' := bQ.thaw 2
    go_upto_region 13 with fail
    have ek : ((L ++ [p]).length : Int) = (L.length : Int) + 1 := by rw [List.length_append]; simp
    replace O4 := O4.set (.inl rfl) 2 (eI ((L.length : Int) + 1))
    replace own4 := ownsRow_setCell_other own4 (a := ⟨B, 2, none⟩) (by simp [Value.ownBlock]; exact hgB) (eI ((L.length : Int) + 1))
    replace bp4 := bp4.setNe (a := ⟨B, 2, none⟩) hNB (eI ((L.length : Int) + 1))
    replace bQ : Box (W5.setCell ⟨B, 2, none⟩ (eI ((L.length : Int) + 1))) B (quA P R (L ++ [p]).length (bsum L) (.slice (some ⟨g, 0, none⟩) n2 cap2) f2) 44 := by rw [ek]; exact bQ.set 2 _
    obtain ⟨W6, hW6⟩ : ∃ x, W5.setCell ⟨B, 2, none⟩ (eI ((L.length : Int) + 1)) = x := ⟨_, rfl⟩
    rw [hW6] at O4 bQ own4 bp4 ⊢
    clear hW6 c0 c1 c2 c3 c4 c5 f2' e1 ek
    obtain ⟨c0, c1, c2, c3, c4, c5⟩ := bQ.qu
    obtain ⟨p0, p1, p2, p3, _, _, _, _⟩ := bp4.four
    have f3' := bQ.thaw 3
    replace O4 := (O4.set (.inl rfl) 3 (eI (bsum (L ++ [p])))).drew
    replace own4 := (ownsRow_setCell_other own4 (a := ⟨B, 3, none⟩) (by simp [Value.ownBlock]; exact hgB) (eI (bsum (L ++ [p])))).drew
    have bQ7 : Box (W6.setCell ⟨B, 3, none⟩ (eI (bsum (L ++ [p])))).drew B (quA P R (L ++ [p]).length (bsum (L ++ [p])) (.slice (some ⟨g, 0, none⟩) n2 cap2) f2) 44 := (bQ.set 3 _).drew
    have hQ7 : Qr _ B P R (L ++ [p]) (.slice (some ⟨g, 0, none⟩) n2 cap2) n2 f2 (D2.set r p) := ⟨bQ7, own4, hlen, hring, hcapP, hPP, hRR, hfit⟩
    have hfin : Pushed w (W6.setCell ⟨B, 3, none⟩ (eI (bsum (L ++ [p])))).drew B P R (L ++ [p]) (.slice ad n cap) := ⟨⟨_, _, _, _, hQ7, hv2.out⟩, O4⟩
    clear hQ7 bQ7 bQ own4 O4 hring hlen hfit
    go_region
    go_wp2
    go_ret
    exact ⟨rfl, hfin⟩
end
end Go.Proofs.Ytlfpaebfpmjclaa
