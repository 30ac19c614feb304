/- The document's own run of a curve (layer 7): all copies, kept whole. -/
import Derived.Test.YtejolaifdjcghaaGreatCpL
import Derived.Test.YtejolaifdjcghaaGreatRuE
namespace Go.Proofs.YtejolaifdjcghaaGreat
open Go.RowKit Go.Shelf W
set_option linter.unusedVariables false
set_option maxRecDepth 100000
theorem rc_lines {f l r : Int} {X Y : Nat → Int} (m B n : Nat) (w : World) (h : Rc w m B f l r X Y n) : Calls Tryz.prog 36 #[.pointer (some ⟨B, 0, none⟩)] w fun e w' => (∃ Bl : Nat, e = .returned (.pointer (some ⟨Bl, 0, none⟩)) ∧ Rc w' m Bl 0 0 r X Y n) ∧ Below w.heap.size w w' := by
  obtain ⟨vX, vY, h⟩ := h
  refine (c_lines m B f l r _ _ vX vY w h).mono ?_
  rintro e w' ⟨⟨B', e1, _, h2⟩, h3⟩
  exact ⟨⟨B', e1, vX, vY, h2⟩, h3⟩
/-- Block B holds the document's run behind n starts; its rows lie at m or behind. -/
structure Rd (w : World) (m B : Nat) (f l r : Int) (X Y : Nat → Int) (n : Nat) (vX vY : Value) : Prop where
  box : Box w B #[eU f, eU l, eU r, vX, vY] 54
  rx : w.ownsRow m 22 1 vX (xsL X n).length ((xsL X n).map eU)
  ry : w.ownsRow m 22 1 vY (ysL Y n).length ((ysL Y n).map eU)
  ne : vX.ownBlock = none ∨ vX.ownBlock ≠ vY.ownBlock
section
variable {w W : World} {m B n : Nat} {f l r : Int} {X Y : Nat → Int} {vX vY : Value}
theorem Rd.below (h : Rd W m B f l r X Y n vX vY) (hb : Below W.heap.size W w) : Rd w m B f l r X Y n vX vY := ⟨h.box.below hb, wOwn_below h.rx hb, wOwn_below h.ry hb, h.ne⟩
theorem row_keep {v : Value} {k : Nat} {xs : List Value} (q : W.ownsRow m 22 1 v k xs) (hk : ∀ g u, Box W g u 22 → Box w g u 22) : w.ownsRow m 22 1 v k xs :=
  ⟨q.1, q.2.imp id fun ⟨g, cap, cur, e, h1, h2, h3⟩ => ⟨g, cap, cur, e, h1, hk g cur h2, h3⟩⟩
/-- What leaves all boxes of its own two types leaves it. -/
theorem Rd.keep (h : Rd W m B f l r X Y n vX vY) (hk : ∀ k u t, Box W k u t → t = 22 ∨ t = 54 → Box w k u t) : Rd w m B f l r X Y n vX vY :=
  ⟨hk _ _ _ h.box (.inr rfl), row_keep h.rx fun g u b => hk g u _ b (.inl rfl), row_keep h.ry fun g u b => hk g u _ b (.inl rfl), h.ne⟩
theorem Rd.lt (h : Rd W m B f l r X Y n vX vY) : B < W.heap.size := h.box.lt
theorem Rd.cells (h : Rd W m B f l r X Y n vX vY) : W.cell? ⟨B, 0, none⟩ = some (.int .u64 f) ∧ W.cell? ⟨B, 1, none⟩ = some (.int .u64 l) ∧ W.cell? ⟨B, 2, none⟩ = some (.int .u64 r) ∧ W.cell? ⟨B, 3, none⟩ = some vX ∧ W.cell? ⟨B, 4, none⟩ = some vY :=
  ⟨h.box.cell 0, h.box.cell 1, h.box.cell 2, h.box.cell 3, h.box.cell 4⟩
set_option maxHeartbeats 1000000 in
theorem d_copies (w : World) (h : Rd w m B f l r X Y n vX vY) :
    Calls Tryz.prog 27 #[.pointer (some ⟨B, 0, none⟩)] w fun e w' => ∃ B' : Nat, e = .returned (.pointer (some ⟨B', 0, none⟩)) ∧ w.heap.size ≤ B' ∧ Cp m w' B' f l r (xsL X n) (ysL Y n) vX vY ∧ Below w.heap.size w w' := by
  obtain ⟨c0, c1, c2, c3, c4⟩ := h.cells
  have H := h
  obtain ⟨aX, cX, rfl, _⟩ := wOwn_len h.rx
  obtain ⟨aY, cY, rfl, _⟩ := wOwn_len h.ry
  clear h
  go_enter Tryz.func27, Tryz.ntmps27
  go_upto_region 1 with fail
  go_region
  all_goals go_wp2
  all_goals go_ret
  all_goals exact ⟨_, rfl, Nat.le_refl _, ⟨(Box.new w 63 _).below (Below.refl _ _).drew, wOwn_below H.rx (up1 w _).drew, wOwn_below H.ry (up1 w _).drew, H.ne⟩, (up1 w _).drew⟩
theorem rd_copies (w : World) (h : Rd w m B f l r X Y n vX vY) :
    Calls Tryz.prog 27 #[.pointer (some ⟨B, 0, none⟩)] w fun e w' => ∃ B' : Nat, e = .returned (.pointer (some ⟨B', 0, none⟩)) ∧ Rc w' m B' f l r X Y n ∧ Below w.heap.size w w' :=
  (d_copies w h).mono fun e w' ⟨B', e1, _, h1, h2⟩ => ⟨B', e1, ⟨vX, vY, h1⟩, h2⟩
theorem rd_many (w : World) (h : Rd w m B f l r X Y n vX vY) : Calls Tryz.prog 18 #[.pointer (some ⟨B, 0, none⟩)] w fun e w' => e = .returned (eI n) ∧ Below w.heap.size w w' := by
  obtain ⟨c0, c1, c2, c3, c4⟩ := h.cells
  obtain ⟨aX, cX, rfl, _⟩ := wOwn_len h.rx
  rw [xsL_len] at c3
  clear h c0 c1 c2 c4
  go_enter Tryz.func18, Tryz.ntmps18
  go_wp2
  go_ret
  exact ⟨rfl, Below.refl _ _⟩
/-- Its calls are those of its copies. -/
theorem d_at_of (t z : Int) (w : World) (hC : Calls Tryz.prog 27 #[.pointer (some ⟨B, 0, none⟩)] w fun e w' => ∃ B' : Nat, e = .returned (.pointer (some ⟨B', 0, none⟩)) ∧ Rc w' m B' f l r X Y n ∧ Below w.heap.size w w')
    (hA : ∀ B' w', Rc w' m B' f l r X Y n → Calls Tryz.prog 33 #[.pointer (some ⟨B', 0, none⟩), eU t] w' fun e w'' => e = .returned (eU z) ∧ Below w'.heap.size w' w'') :
    Calls Tryz.prog 20 #[.pointer (some ⟨B, 0, none⟩), eU t] w fun e w' => e = .returned (eU z) ∧ Below w.heap.size w w' := by
  go_enter Tryz.func20, Tryz.ntmps20
  go_wp2_with (first
    | (go_at_call 27; (with_reducible refine hC.mono ?_); rintro e w1 ⟨B', rfl, hR, E⟩)
    | (go_at_call 33; (with_reducible refine (hA _ _ hR).mono ?_); rintro e w2 ⟨rfl, hb⟩; replace E := up E hb E.size))
  go_ret
  exact ⟨rfl, E⟩
theorem d_reach_of (t z : Int) (w : World) (hC : Calls Tryz.prog 27 #[.pointer (some ⟨B, 0, none⟩)] w fun e w' => ∃ B' : Nat, e = .returned (.pointer (some ⟨B', 0, none⟩)) ∧ Rc w' m B' f l r X Y n ∧ Below w.heap.size w w')
    (hA : ∀ B' w', Rc w' m B' f l r X Y n → Calls Tryz.prog 34 #[.pointer (some ⟨B', 0, none⟩), eU t] w' fun e w'' => e = .returned (eU z) ∧ Below w'.heap.size w' w'') :
    Calls Tryz.prog 22 #[.pointer (some ⟨B, 0, none⟩), eU t] w fun e w' => e = .returned (eU z) ∧ Below w.heap.size w w' := by
  go_enter Tryz.func22, Tryz.ntmps22
  go_wp2_with (first
    | (go_at_call 27; (with_reducible refine hC.mono ?_); rintro e w1 ⟨B', rfl, hR, E⟩)
    | (go_at_call 34; (with_reducible refine (hA _ _ hR).mono ?_); rintro e w2 ⟨rfl, hb⟩; replace E := up E hb E.size))
  go_ret
  exact ⟨rfl, E⟩
set_option maxHeartbeats 1000000 in
theorem d_ahead_of (t z : Int) (w : World) (h : Rd w m B f l r X Y n vX vY)
    (hb : ∀ w', Calls Tryz.prog 35 #[.agg #[eU f, eU l, eU r]] w' fun e w'' => e = .returned (.bool (decide (r < f))) ∧ Below w'.heap.size w' w'')
    (hB : r < f → ∀ w', Below w.heap.size w w' → Calls Tryz.prog 20 #[.pointer (some ⟨B, 0, none⟩), eU t] w' fun e w'' => e = .returned (eU z) ∧ Below w'.heap.size w' w'')
    (hA : ¬ r < f → ∀ B' w', Rc w' m B' 0 0 r X Y n → Calls Tryz.prog 33 #[.pointer (some ⟨B', 0, none⟩), eU t] w' fun e w'' => e = .returned (eU z) ∧ Below w'.heap.size w' w'') :
    Calls Tryz.prog 24 #[.pointer (some ⟨B, 0, none⟩), eU t] w fun e w' => e = .returned (eU z) ∧ Below w.heap.size w w' := by
  obtain ⟨c0, c1, c2, c3, c4⟩ := h.cells
  have hC := fun w' (E : Below w.heap.size w w') => rd_copies w' (h.below E)
  have hLn := fun B' w' (q : Rc w' m B' f l r X Y n) => rc_lines m B' n w' q
  clear h c3 c4
  by_cases hrf : r < f
  · have hB2 := hB hrf
    clear hA hB hC hLn
    go_enter Tryz.func24, Tryz.ntmps24
    go_wp2_with (first
      | (go_at_call 35; (with_reducible refine (hb _).mono ?_); rintro e w1 ⟨rfl, E⟩; clear c0 c1 c2)
      | (go_at_call 20; (with_reducible refine (hB2 _ E).mono ?_); rintro e w2 ⟨rfl, hb2⟩; replace E := up E hb2 E.size))
    go_ret
    exact ⟨rfl, E⟩
  · have hA2 := hA hrf
    clear hB hA
    go_enter Tryz.func24, Tryz.ntmps24
    go_wp2_with (first
      | (go_at_call 35; (with_reducible refine (hb _).mono ?_); rintro e w1 ⟨rfl, E⟩; clear c0 c1 c2)
      | (go_at_call 27; (with_reducible refine (hC _ E).mono ?_); rintro e w2 ⟨B', rfl, hR, hb2⟩; replace E := up E hb2 E.size; clear hb2)
      | (go_at_call 36; (with_reducible refine (hLn _ _ hR).mono ?_); rintro e w3 ⟨⟨Bl, rfl, hQ⟩, hb2⟩; replace E := up E hb2 E.size; clear hb2)
      | (go_at_call 33; (with_reducible refine (hA2 _ _ hQ).mono ?_); rintro e w4 ⟨rfl, hb2⟩; replace E := up E hb2 E.size; clear hb2))
    go_ret
    exact ⟨rfl, E⟩
set_option maxHeartbeats 1000000 in
theorem d_eligible_of (t z : Int) (w : World) (h : Rd w m B f l r X Y n vX vY)
    (hb : ∀ w', Calls Tryz.prog 35 #[.agg #[eU f, eU l, eU r]] w' fun e w'' => e = .returned (.bool (decide (r < f))) ∧ Below w'.heap.size w' w'')
    (hB : r < f → ∀ w', Below w.heap.size w w' → Calls Tryz.prog 22 #[.pointer (some ⟨B, 0, none⟩), eU t] w' fun e w'' => e = .returned (eU z) ∧ Below w'.heap.size w' w'')
    (hA : ¬ r < f → ∀ B' w', Rc w' m B' 0 0 r X Y n → Calls Tryz.prog 34 #[.pointer (some ⟨B', 0, none⟩), eU t] w' fun e w'' => e = .returned (eU z) ∧ Below w'.heap.size w' w'') :
    Calls Tryz.prog 26 #[.pointer (some ⟨B, 0, none⟩), eU t] w fun e w' => e = .returned (eU z) ∧ Below w.heap.size w w' := by
  obtain ⟨c0, c1, c2, c3, c4⟩ := h.cells
  have hC := fun w' (E : Below w.heap.size w w') => rd_copies w' (h.below E)
  have hLn := fun B' w' (q : Rc w' m B' f l r X Y n) => rc_lines m B' n w' q
  clear h c3 c4
  by_cases hrf : r < f
  · have hB2 := hB hrf
    clear hA hB hC hLn
    go_enter Tryz.func26, Tryz.ntmps26
    go_wp2_with (first
      | (go_at_call 35; (with_reducible refine (hb _).mono ?_); rintro e w1 ⟨rfl, E⟩; clear c0 c1 c2)
      | (go_at_call 22; (with_reducible refine (hB2 _ E).mono ?_); rintro e w2 ⟨rfl, hb2⟩; replace E := up E hb2 E.size))
    go_ret
    exact ⟨rfl, E⟩
  · have hA2 := hA hrf
    clear hB hA
    go_enter Tryz.func26, Tryz.ntmps26
    go_wp2_with (first
      | (go_at_call 35; (with_reducible refine (hb _).mono ?_); rintro e w1 ⟨rfl, E⟩; clear c0 c1 c2)
      | (go_at_call 27; (with_reducible refine (hC _ E).mono ?_); rintro e w2 ⟨B', rfl, hR, hb2⟩; replace E := up E hb2 E.size; clear hb2)
      | (go_at_call 36; (with_reducible refine (hLn _ _ hR).mono ?_); rintro e w3 ⟨⟨Bl, rfl, hQ⟩, hb2⟩; replace E := up E hb2 E.size; clear hb2)
      | (go_at_call 34; (with_reducible refine (hA2 _ _ hQ).mono ?_); rintro e w4 ⟨rfl, hb2⟩; replace E := up E hb2 E.size; clear hb2))
    go_ret
    exact ⟨rfl, E⟩
set_option maxHeartbeats 1000000 in
theorem d_last (w : World) (hn : n ≤ 1000) (h : Rd w m B f l r X Y n vX vY) : Calls Tryz.prog 15 #[.pointer (some ⟨B, 0, none⟩)] w fun e w' => e = .returned (.tuple #[eU (xS X n), .bool (decide (0 < n))]) ∧ Below w.heap.size w w' := by
  have hC := fun w' (E : Below w.heap.size w w') => rd_copies w' (h.below E)
  have hLa := fun B' w' (q : Rc w' m B' f l r X Y n) => rc_last m B' n w' hn q
  have H := h
  obtain ⟨c0, c1, c2, c3, c4⟩ := h.cells
  obtain ⟨aX, cX, rfl, _⟩ := wOwn_len h.rx
  rw [xsL_len] at c3
  have E := Below.refl w.heap.size w
  have hc3 : ∀ w', Below w.heap.size w w' → w'.cell? ⟨B, 3, none⟩ = some (.slice aX n cX) := fun w' E => E.cellAt c3
  have hc3h := Lib.hid hc3
  clear h c0 c1 c2 c4 H hc3
  go_enter Tryz.func15, Tryz.ntmps15
  go_upto_region 1 with fail
  go_region_held3 (fun w' => w'.cell? ⟨B, 3, none⟩ = some (.slice aX n cX))
    (first | exact c3 | exact hc3h.out _ E | exact hc3h.out _ E.drew)
    (first
      | (go_at_call 27; (with_reducible refine (hC _ (by first | exact E | exact E.drew)).mono ?_); rintro e w1 ⟨B', rfl, hR, hb⟩; (first | replace hb := undrew hb | replace hb := undrewN hb | skip); replace E := up E hb E.size; clear hb)
      | (go_at_call 32; (with_reducible refine (hLa _ _ (by first | exact hR | exact hR.drew)).mono ?_); rintro e w2 ⟨rfl, hb⟩; (first | replace hb := undrew hb | replace hb := undrewN hb | skip); replace E := up E hb E.size; clear hb))
  all_goals go_wp2
  all_goals go_ret2
  all_goals exact ⟨by first | rfl | simp, E⟩
end
end Go.Proofs.YtejolaifdjcghaaGreat
