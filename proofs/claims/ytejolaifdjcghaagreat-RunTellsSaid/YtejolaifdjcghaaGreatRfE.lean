/- The document's run starts, and is made; what one kind of run leaves of the other one. -/
import Derived.Test.YtejolaifdjcghaaGreatRfD
namespace Go.Proofs.YtejolaifdjcghaaGreat
open Go.RowKit Go.Shelf W
set_option linter.unusedVariables false
set_option maxRecDepth 100000
section
variable {w W : World} {S : Nat → Prop} {m B n : Nat} {f l r : Int} {X Y : Nat → Int} {vX vY : Value}
/-- What leaves all boxes of its own types leaves a run. -/
theorem RgF.keep (h : RgF W S B f l r X Y n) (hk : ∀ k u t, Box W k u t → t = 71 ∨ t = 136 → Box w k u t) : RgF w S B f l r X Y n := by
  obtain ⟨K, h1, v, h2, h3, h4, h5, h6⟩ := h
  refine ⟨K, h1, v, hk _ _ _ h2 (.inl rfl), h3.of fun g hg => ?_, h4, h5, h6⟩
  rcases h3 with ⟨rfl, _⟩ | ⟨g', o, cap, rfl, _, cur, hc, _⟩
  · cases hg
  · obtain rfl : g' = g := by simpa [Value.ownBlock] using hg
    have : Box W g' cur 136 := hc
    exact (hk _ _ _ this (.inr rfl)).trans hc.symm
theorem Ru.keep (h : Ru W S B f l r X Y n) (hk : ∀ k u t, Box W k u t → t = 45 ∨ t = 68 ∨ t = 71 ∨ t = 136 → Box w k u t) : Ru w S B f l r X Y n := by
  obtain ⟨v, h1, h2, h3⟩ := h
  refine ⟨v, h1, hk _ _ _ h2 (.inl rfl), ?_⟩
  rcases h3 with ⟨hc, Q, e, hQ, h⟩ | ⟨hc, Q, e, h⟩
  · exact .inl ⟨hc, Q, e, hQ, hk _ _ _ h (.inr (.inl rfl))⟩
  · exact .inr ⟨hc, Q, e, h.keep fun k u t b ht => hk k u t b (.inr (.inr ht))⟩
theorem But.boxes {Q : Nat} {vs : Array Value} {s : TypeId} (h : But Q W w) (hQ : Box W Q vs s) : ∀ k u t, Box W k u t → t ≠ s → Box w k u t := fun k u t b ht => h.box b fun e => by
  subst e
  have e1 : W.heap[k]? = _ := b
  rw [show W.heap[k]? = _ from hQ] at e1
  cases e1
  exact ht rfl
theorem rgf_start2 (hc : CvS f l r) (hY : ∀ k, 0 ≤ Y k) (w : World) (hn2 : n ≤ 800) (hX : Word (X n)) (hYw : Word (Y n)) (h : RgF w S B f l r X Y n) :
    Calls Tryz.prog 103 #[.pointer (some ⟨B, 0, none⟩), eU (X n), eU (Y n)] w fun e w' => e = .returned (.tuple #[]) ∧ RgF w' (fun k => S k ∨ (w.heap.size ≤ k ∧ k < w'.heap.size)) B f l r X Y (n + 1) ∧ Off S w w' ∧ ∀ k u t, Box w k u t → t ≠ 136 → t ≠ 71 → Box w' k u t := by
  obtain ⟨K, h1, v, h2, h3, h4, h5, h6⟩ := h
  have hlt := h2.lt
  have hlen := h1.len
  refine (sg_start 0 B K f l r (xS X n) n (X n) (Y n) _ _ (xS X (n + 1)) v w (by omega) h2 h3 (by omega) hc ⟨xS_nn _ _, xS_never _ _⟩ hX hYw rfl (by rw [xS_succ]; omega) rfl (i64_id _ ⟨by omega, by omega⟩) h1.good.1).mono ?_
  rintro e w' ⟨rfl, ⟨v', K', a1, a2, a3, a4⟩, F⟩
  have hk := h1.start hc hY a3
  refine ⟨rfl, ⟨K', hk, v', by rw [show ((n + 1 : Nat) : Int) = (n : Int) + 1 by omega]; exact a1, a2, fun e => by have := hk.pos (by omega); rw [e] at this; simp at this, .inl h5, fun g hg => ?_⟩, ⟨F.os, F.tape, F.output, F.size, fun k hk hS => F.block k hk (fun e => hS (by rw [e]; exact h5)) (fun e => hS (h6 k e.symm))⟩, fun k u t hb t1 t2 => F.box hb (fun e => ?_) (fun e => h3.ne hb t1 e.symm)⟩
  · rcases a4 with a4 | ⟨g', a4, a5⟩
    · exact .inl (h6 g (by rw [← a4]; exact hg))
    · have e : g' = g := by rw [a4] at hg; simpa using hg
      subst e
      exact .inr ⟨a5, (a2.lt g' hg).2⟩
  · subst e
    have e1 : w.heap[k]? = _ := hb
    rw [show w.heap[k]? = _ from h2] at e1
    cases e1
    exact t2 rfl
theorem ru_start2 (hY : ∀ k, 0 ≤ Y k) (w : World) (hn2 : n ≤ 800) (hX : Word (X n)) (hYw : Word (Y n)) (h : Ru w S B f l r X Y n) :
    Calls Tryz.prog 8 #[.pointer (some ⟨B, 0, none⟩), eU (X n), eU (Y n)] w fun e w' => e = .returned (.tuple #[]) ∧ (Ru w' (fun k => S k ∨ (w.heap.size ≤ k ∧ k < w'.heap.size)) B f l r X Y (n + 1) ∧ Off S w w' ∧ ∀ k u t, Box w k u t → t ≠ 68 → t ≠ 136 → t ≠ 71 → Box w' k u t) := by
  obtain ⟨u, h1, h2, h3⟩ := h
  have hlt := h2.lt
  rcases h3 with ⟨hc, Q, rfl, hQ, h3⟩ | ⟨hc, Q, rfl, h3⟩
  · refine (rB_Start _ _ _ _ (fun w' => Rn w' Q f l r X Y (n + 1) ∧ But Q w w') w (kept_some B f l r _ _ w h2) ((rn_start Q f l r X Y n w hc hY (by omega) hX hYw h3).mono fun e w' h => h)).mono ?_
    rintro e w' ⟨rfl, h4, h5⟩
    exact ⟨rfl, ⟨_, .inl h1, h5.box h2 (fun e => hQ.2 e.symm), .inl ⟨hc, Q, rfl, ⟨.inl hQ.1, hQ.2⟩, h4⟩⟩, h5.foot hQ.1, fun k u t b t1 _ _ => h5.boxes h3 k u t b t1⟩
  · refine (rS_Start _ _ _ _ (fun w' => RgF w' (fun k => (S k ∧ k ≠ B) ∨ (w.heap.size ≤ k ∧ k < w'.heap.size)) Q f l r X Y (n + 1) ∧ Off (fun k => S k ∧ k ≠ B) w w' ∧ ∀ k u t, Box w k u t → t ≠ 136 → t ≠ 71 → Box w' k u t) w (kept_some B f l r _ _ w h2) ((rgf_start2 hc hY w hn2 hX hYw h3).mono fun e w' h => h)).mono ?_
    rintro e w' ⟨rfl, h4, h5, h6⟩
    refine ⟨rfl, ⟨_, .inl h1, h5.box h2 (fun h => h.2 rfl), .inr ⟨hc, Q, rfl, h4.mono fun k hk => ?_⟩⟩, h5.mono fun k _ hk => hk.1, fun k u t b _ t1 t2 => h6 k u t b t1 t2⟩
    rcases hk with hk | hk
    · exact ⟨.inl hk.1, hk.2⟩
    · exact ⟨.inr hk, by omega⟩
theorem row_put {v : Value} {k : Nat} {xs : List Value} {u : Array Value} {t : TypeId} (q : W.ownsRow m 22 1 v k xs) (hB : Box W B u t) (ht : t ≠ 22) (i : Nat) (z : Value) : (W.setCell ⟨B, i, none⟩ z).ownsRow m 22 1 v k xs :=
  q.kept (wPut W B i z) (wOwn_ne q hB ht)
set_option maxHeartbeats 4000000 in
theorem d_start (w : World) (hn : n ≤ 900) (hmB : m ≤ B) (h : Rd w m B f l r X Y n vX vY) :
    Calls Tryz.prog 9 #[.pointer (some ⟨B, 0, none⟩), eU (X n), eU (Y n)] w fun e w' => e = .returned (.tuple #[]) ∧ (∃ uX uY, Rd w' m B f l r X Y (n + 1) uX uY) ∧ Below m w w' ∧ ∀ k u t, Box w k u t → t ≠ 22 → t ≠ 63 → t ≠ 54 → Box w' k u t := by
  have hlt := h.lt
  have hC : Calls Tryz.prog 27 #[.pointer (some ⟨B, 0, none⟩)] w fun e w' => ∃ B' : Nat, e = .returned (.pointer (some ⟨B', 0, none⟩)) ∧ w.heap.size ≤ B' ∧ Rc w' m B' f l r X Y n ∧ Below w.heap.size w w' :=
    (d_copies w h).mono fun e w' ⟨B', e1, e2, h1, h2⟩ => ⟨B', e1, e2, ⟨vX, vY, h1⟩, h2⟩
  have hS := fun B' w' (hB' : m ≤ B') (q : Rc w' m B' f l r X Y n) => rc_start m B' n w' hn hB' q
  have hx := h.box
  clear h
  go_enter Tryz.func9, Tryz.ntmps9
  go_upto_region 2 with (first
    | (go_at_call 27; (with_reducible refine hC.mono ?_); rintro e w1 ⟨B', rfl, hB', hR, E⟩)
    | (go_at_call 28; (with_reducible refine (hS _ _ (by omega) hR).mono ?_); rintro e w2 ⟨rfl, ⟨uX, uY, hR2⟩, E2, hbx⟩))
  have T := (E.mono (show m ≤ w.heap.size by omega)).trans E2
  have hx2 := hbx _ _ _ (hx.below E) (by decide) (by decide)
  have hall : ∀ k u t, Box w k u t → t ≠ 22 → t ≠ 63 → Box w2 k u t := fun k u t b t1 t2 => hbx _ _ _ (b.below E) t1 t2
  have hne : B ≠ B' := by omega
  obtain ⟨aX, cX, rfl, _⟩ := wOwn_len hR2.rx
  obtain ⟨aY, cY, rfl, _⟩ := wOwn_len hR2.ry
  obtain ⟨d0, d1, d2, d3, d4⟩ := hR2.cells
  have f3 := hx2.thaw 3
  have f4 := hx2.thaw 4
  have g3 : w2.cell? ⟨B, 3, none⟩ = some vX := hx2.cell 3
  have g4 : w2.cell? ⟨B, 4, none⟩ = some vY := hx2.cell 4
  clear d0 d1 d2 hC hS hR E E2 hbx
  go_region
  all_goals go_wp2
  go_end0
  have p1 := Box.set hx2 3 (.slice aX (xsL X (n + 1)).length cX)
  have p2 := Box.set p1 4 (.slice aY (ysL Y (n + 1)).length cY)
  refine ⟨rfl, ⟨_, _, ⟨Box.below p2 (Below.refl _ _).drew, wOwn_below (row_put (row_put hR2.rx hx2 (by decide) 3 _) p1 (by decide) 4 _) (Below.refl _ _).drew, wOwn_below (row_put (row_put hR2.ry hx2 (by decide) 3 _) p1 (by decide) 4 _) (Below.refl _ _).drew, hR2.ne⟩⟩, ((T.setCell hmB _).setCell hmB _).drew, fun k u t b t1 t2 t3 => ?_⟩
  have b2 := hall k u t b t1 t2
  have hkB : k ≠ B := fun e => by
    subst e
    have e1 : w2.heap[k]? = _ := b2
    rw [show w2.heap[k]? = _ from hx2] at e1
    cases e1
    exact t3 rfl
  exact (Below.heap_setCell _ _ _ k hkB).trans ((Below.heap_setCell _ _ _ k hkB).trans b2)
theorem d_new_ok (w : World) (hM : ∀ w', Calls Tryz.prog 12 #[.agg #[eU f, eU l, eU r]] w' fun e w'' => e = .returned (.bool true) ∧ Below w'.heap.size w' w'') :
    Calls Tryz.prog 5 #[.agg #[eU f, eU l, eU r]] w fun e w' => ∃ B : Nat, e = .returned (.pointer (some ⟨B, 0, none⟩)) ∧ w.heap.size ≤ B ∧ Box w' B #[eU f, eU l, eU r, .slice none 0 0, .slice none 0 0] 54 ∧ Below w.heap.size w w' := by
  have BC := Box.new w 24 #[eU f, eU l, eU r]
  have T := up1 w (.cells #[eU f, eU l, eU r] 24)
  obtain ⟨c0, c1, c2⟩ := BC.three
  go_enter Tryz.func5, Tryz.ntmps5
  go_wp2_with (go_at_call 12; (with_reducible refine (hM _).mono ?_); rintro e w1 ⟨rfl, hb⟩; replace BC := BC.below hb; replace T := up T hb T.size; clear hb c0 c1 c2; obtain ⟨c0, c1, c2⟩ := BC.three)
  go_ret
  exact ⟨_, rfl, T.size, Box.new _ _ _, T.alloc T.size _⟩
theorem d_new_not (w : World) (hM : ∀ w', Calls Tryz.prog 12 #[.agg #[eU f, eU l, eU r]] w' fun e w'' => e = .returned (.bool false) ∧ Below w'.heap.size w' w'') :
    Calls Tryz.prog 5 #[.agg #[eU f, eU l, eU r]] w fun e w' => e = .returned (.pointer none) ∧ Below w.heap.size w w' := by
  have BC := Box.new w 24 #[eU f, eU l, eU r]
  have T := up1 w (.cells #[eU f, eU l, eU r] 24)
  obtain ⟨c0, c1, c2⟩ := BC.three
  go_enter Tryz.func5, Tryz.ntmps5
  go_wp2_with (go_at_call 12; (with_reducible refine (hM _).mono ?_); rintro e w1 ⟨rfl, hb⟩; replace T := up T hb T.size; clear hb c0 c1 c2)
  go_ret
  exact ⟨rfl, T⟩
end
theorem Rd.new {w : World} {B : Nat} {f l r : Int} (m : Nat) (X Y : Nat → Int) (h : Box w B #[eU f, eU l, eU r, .slice none 0 0, .slice none 0 0] 54) : Rd w m B f l r X Y 0 (.slice none 0 0) (.slice none 0 0) :=
  ⟨h, ⟨rfl, .inl ⟨rfl, rfl⟩⟩, ⟨rfl, .inl ⟨rfl, rfl⟩⟩, .inl rfl⟩
theorem d_new (f l r : Int) (m : Nat) (X Y : Nat → Int) (w : World) (hf : Word f) (hl : Word l) (hr : Word r) :
    Calls Tryz.prog 5 #[.agg #[eU f, eU l, eU r]] w fun e w' => ((CvR f l r ∧ ∃ B : Nat, e = .returned (.pointer (some ⟨B, 0, none⟩)) ∧ w.heap.size ≤ B ∧ ∃ vX vY, Rd w' m B f l r X Y 0 vX vY) ∨ (¬ CvR f l r ∧ e = .returned (.pointer none))) ∧ Below w.heap.size w w' := by
  have hM := fun w => kMay_any f l r w hf hl hr
  by_cases h : cMay f l r
  · rw [mayB_cMay.2 h] at hM
    refine (d_new_ok w hM).mono ?_
    rintro e w' ⟨B, e1, e2, e3, e4⟩
    exact ⟨.inl ⟨⟨hf, hl, hr, h⟩, B, e1, e2, _, _, Rd.new m X Y e3⟩, e4⟩
  · rw [show mayB f l r = false by
      cases hh : mayB f l r
      · rfl
      · exact absurd (mayB_cMay.1 hh) h] at hM
    refine (d_new_not w hM).mono ?_
    rintro e w' ⟨e1, e4⟩
    exact ⟨.inr ⟨fun g => h g.2.2.2, e1⟩, e4⟩
end Go.Proofs.YtejolaifdjcghaaGreat
