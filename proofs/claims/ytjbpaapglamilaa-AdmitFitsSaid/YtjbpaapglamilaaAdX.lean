/- The document's book as an object in memory: copied, asked. No condition but words, and how much there is. -/
import Derived.Test.YtjbpaapglamilaaAdW
namespace Go.Proofs.Ytjbpaapglamilaa.H
open Go.ChangeShapes Go.WideShapes Go.Deep Go.RowKit W
set_option linter.unusedVariables false
set_option linter.unusedSimpArgs false
section
variable {P : Program} {sl el : TypeId} {α : Type} {f : α → List Value} {s : Nat}
/-- One owned row appended to another; whose block it is. -/
theorem step_joinN (T : RowTy P sl el s) (hf : Cells f s) {w : World} {ops : Array Oper} {o : Oper} {a : Act} {K : Act → World → Prop} {Q : Exit → Act → World → Prop} {E : Prop} (hw : Region.wanted o (yielded ops a.tmps) = true) (q x : Operand)
    (ho : o.op = .call { callee := .builtin .append, args := #[q, x], argTypes := #[sl, sl] })
    (m m2 : Nat) (v u : Value) (X Y : List α) (n k : Nat) (hn : X.length = n) (hk : Y.length = k) (hs : a.eval q = v) (hown : w.ownsRow m el s v n (rowC f X)) (hx : a.eval x = u) (hown2 : w.ownsRow m2 el s u k (rowC f Y)) (hl : n + k ≤ 1000000) (hm : m ≤ w.heap.size)
    (h : ∀ v' w', w'.ownsRow m el s v' (n + k) (rowC f (X ++ Y)) → w.grownBy w' v.ownBlock → (∀ g, v'.ownBlock = some g → v.ownBlock = some g ∨ g = w.heap.size) → K (a.put o.dst v') w') :
    if Region.wanted o (yielded ops a.tmps) = true then Oper.wp P o a w K Q else E := by
  rcases own_form hown2 with ⟨rfl, e⟩ | ⟨g, cap, rfl, _⟩
  · have e0 : Y = [] := List.eq_nil_of_length_eq_zero (by omega)
    subst e0
    subst e
    refine step_nomore T hw q x ho m n v (rowC f X) hs hown hx (h _ _ ?_ (World.grownBy.refl _ _) (fun g e => .inl e))
    rw [List.append_nil, Nat.add_zero]
    exact hown
  · exact step_more T hf hw q x ho m v X Y n k hn hk hs hown ⟨g, 0, none⟩ cap hx (hown2.cells rfl) hl hm (fun v' w' h1 h2 h3 _ => h v' w' h1 h2 h3)
end
theorem own_num {g n c q : Nat} (h : (Value.slice (some ⟨g, 0, none⟩) n c).ownBlock = some q) : g = q := by simpa [Value.ownBlock] using h
section
variable {w : World} {m s k : Nat} {e : TypeId} {v va vc v' : Value} {xs : List Value}
theorem own_newR (h : w.ownsRow m e s v k xs) {g n' c' : Nat} (hg : w.heap.size ≤ g) : ∀ q, v.ownBlock = some q → (Value.slice (some ⟨g, 0, none⟩) n' c').ownBlock ≠ some q := fun q e1 e2 => by
  have := (h.lt q e1).2
  have := own_num e2
  omega
theorem own_newL (h : w.ownsRow m e s v k xs) {g n' c' : Nat} (hg : w.heap.size ≤ g) : ∀ q, (Value.slice (some ⟨g, 0, none⟩) n' c').ownBlock = some q → v.ownBlock ≠ some q := fun q e1 e2 => by
  have := (h.lt q e2).2
  have := own_num e1
  omega
theorem own_apL (hN : ∀ g, v'.ownBlock = some g → va.ownBlock = some g ∨ g = w.heap.size) (nac : ∀ q, va.ownBlock = some q → vc.ownBlock ≠ some q) (hC : w.ownsRow m e s vc k xs) : ∀ q, v'.ownBlock = some q → vc.ownBlock ≠ some q := fun q e1 e2 => by
  rcases hN q e1 with h | h
  · exact nac q h e2
  · have := (hC.lt q e2).2; omega
theorem own_apR (hN : ∀ g, v'.ownBlock = some g → vc.ownBlock = some g ∨ g = w.heap.size) (nac : ∀ q, va.ownBlock = some q → vc.ownBlock ≠ some q) (hA : w.ownsRow m e s va k xs) : ∀ q, va.ownBlock = some q → v'.ownBlock ≠ some q := fun q e1 e2 => by
  rcases hN q e2 with h | h
  · exact nac q e1 h
  · have := (hA.lt q e1).2; omega
end
theorem rowI : RowTy Try.prog 48 3 1 := ⟨Try.underlying48, by decide, by
  obtain ⟨i, h1, h2, h3, h4⟩ := info_parts (show (Try.prog.info? 3).map (fun i => (i.zero, i.size, i.bytes)) = some (some (.int .i64 0), 1, 8) by kernel_rfl)
  exact ⟨i, _, 8, h1, h2, h3, h4, rfl, by decide⟩⟩
theorem size3 : (Try.prog.info? 3).map (·.size) = some 1 := by kernel_rfl
theorem size44 : (Try.prog.info? 48).map (·.size) = some 1 := by kernel_rfl
theorem bslI (x : Int) : Try.prog.builtSlice 3 1 [(0, eI x)] = some #[eI x] := by kernel_rfl
def rA (R : Int) (u v s : Value) : Array Value := #[eU R, u, v, s]
/-- The document's book in block B; its rows lie behind base, each in a block of its own. -/
structure R0 (base : Nat) (w : World) (B : Nat) (b : Bk) (v1 v2 v3 : Value) : Prop where
  box : Box w B (rA b.R v1 v2 v3) 60
  hi : base ≤ B
  r1 : w.ownsRow base 3 1 v1 b.L.length (rowC fI (idsK b.L))
  r2 : w.ownsRow base 25 3 v2 b.L.length (rowC fC (cvsK b.L))
  r3 : w.ownsRow base 25 3 v3 b.G.length (rowC fC b.G)
  apart : ∀ g, v2.ownBlock = some g → v3.ownBlock ≠ some g
def Rw (base : Nat) (w : World) (B : Nat) (b : Bk) : Prop := ∃ v1 v2 v3, R0 base w B b v1 v2 v3
section
variable {w w' : World} {base B n : Nat} {b : Bk} {v1 v2 v3 : Value}
theorem R0.below (h : R0 base w B b v1 v2 v3) (hb : Below w.heap.size w w') : R0 base w' B b v1 v2 v3 :=
  ⟨h.box.below hb, h.hi, own_below h.r1 hb, own_below h.r2 hb, own_below h.r3 hb, h.apart⟩
theorem Rw.below (h : Rw base w B b) (hb : Below w.heap.size w w') : Rw base w' B b := by
  obtain ⟨v1, v2, v3, h⟩ := h
  exact ⟨v1, v2, v3, h.below hb⟩
theorem R0.mono {m : Nat} (h : R0 base w B b v1 v2 v3) (hm : m ≤ base) : R0 m w B b v1 v2 v3 :=
  ⟨h.box, Nat.le_trans hm h.hi, own_mono h.r1 hm, own_mono h.r2 hm, own_mono h.r3 hm, h.apart⟩
theorem Rw.mono {m : Nat} (h : Rw base w B b) (hm : m ≤ base) : Rw m w B b := by
  obtain ⟨v1, v2, v3, h⟩ := h
  exact ⟨v1, v2, v3, h.mono hm⟩
theorem own_flat {m s : Nat} {e : TypeId} {v : Value} {k : Nat} {xs : List Value} (h : w.ownsRow m e s v k xs) : v.oneCell' = true ∧ v.cells = #[v] := by
  rcases own_form h with ⟨rfl, _⟩ | ⟨g, cap, rfl, _⟩ <;> exact ⟨rfl, rfl⟩
set_option maxHeartbeats 4000000 in
set_option maxRecDepth 100000 in
theorem rcopy0 (h : R0 base w B b v1 v2 v3) (hn : b.L.length ≤ 400 ∧ b.G.length ≤ 400) : Calls Try.prog 41 #[ptr B] w fun e w' => ∃ C, e = .returned (ptr C) ∧ Rw w.heap.size w' C b ∧ Below w.heap.size w w' := by
  have hl1 := lv_len b.L
  have hl2 : (cvsK b.L).length = b.L.length := List.length_map _
  have hl1h := Lib.hid hl1
  have hl2h := Lib.hid hl2
  clear hl1 hl2
  have hbl : ∀ (a1 : Option Addr) (c1 : Nat) (a2 : Option Addr) (c2 : Nat) (a3 : Option Addr) (c3 : Nat), Try.prog.built 60 [(0, eU b.R), (1, .slice a1 b.L.length c1), (2, .slice a2 b.L.length c2), (3, .slice a3 b.G.length c3)] = some (rA b.R (.slice a1 b.L.length c1) (.slice a2 b.L.length c2) (.slice a3 b.G.length c3)) := fun _ _ _ _ _ _ => by kernel_rfl
  go_enter Try.func41, Try.ntmps41
  go_upto_region 1 with fail
  refine wp_region_held_drew (S := fun W => Below w.heap.size w W) (by kernel_rfl) (drew_below w) (fun hHeld => ?_)
  refine wpAnyH_take (i := 0) (v := ?_) (by simp only [List.getElem?_toArray, List.getElem?_cons_zero]; rfl) (by kernel_rfl) (by kernel_rfl) (by kernel_rfl) (by exact fun _ _ _ h => h) (Or.inl ⟨by rfl, ?_⟩) (by assumption) ?_
  rotate_left
  · (intro w hSw; (try dsimp only at hSw); go_simp; (try with_reducible rfl))
  try simp only [Act.put, List.setIfInBounds_toArray, List.set_cons_zero, List.set_cons_succ]
  refine wpAnyH_take (i := 1) (v := ?_) (by simp only [List.getElem?_toArray, List.getElem?_cons_zero, List.getElem?_cons_succ]; rfl) (by kernel_rfl) (by kernel_rfl) (by kernel_rfl) (by exact fun _ _ _ h => h) (Or.inl ⟨by rfl, ?_⟩) (by assumption) ?_
  rotate_left
  · (intro w hSw; (try dsimp only at hSw); go_simp; (try with_reducible rfl))
  try simp only [Act.put, List.setIfInBounds_toArray, List.set_cons_zero, List.set_cons_succ]
  refine wpAnyH_take (i := 2) (v := ?_) (by simp only [List.getElem?_toArray, List.getElem?_cons_zero, List.getElem?_cons_succ]; rfl) (by kernel_rfl) (by kernel_rfl) (by kernel_rfl) (by exact fun _ _ _ h => h) (Or.inl ⟨by rfl, ?_⟩) (by assumption) ?_
  rotate_left
  · (intro w hSw; (try dsimp only at hSw); go_simp; (try with_reducible rfl))
  try simp only [Act.put, List.setIfInBounds_toArray, List.set_cons_zero, List.set_cons_succ]
  refine wpAnyH_take (i := 5) (v := ?_) (by simp only [List.getElem?_toArray, List.getElem?_cons_zero, List.getElem?_cons_succ]; rfl) (by kernel_rfl) (by kernel_rfl) (by kernel_rfl) (by exact fun _ _ _ h => h) (Or.inl ⟨by rfl, ?_⟩) (by assumption) ?_
  rotate_left
  · (intro w hSw; (try dsimp only at hSw); go_simp; (try with_reducible rfl))
  try simp only [Act.put, List.setIfInBounds_toArray, List.set_cons_zero, List.set_cons_succ]
  refine wpAnyH_take (i := 6) (v := ?_) (by simp only [List.getElem?_toArray, List.getElem?_cons_zero, List.getElem?_cons_succ]; rfl) (by kernel_rfl) (by kernel_rfl) (by kernel_rfl) (by exact fun _ _ _ h => h) (Or.inl ⟨by rfl, ?_⟩) (by assumption) ?_
  rotate_left
  · (intro w hSw; (try dsimp only at hSw); go_simp; (try with_reducible rfl))
  try simp only [Act.put, List.setIfInBounds_toArray, List.set_cons_zero, List.set_cons_succ]
  refine wpAnyH_take (i := 7) (v := ?_) (by simp only [List.getElem?_toArray, List.getElem?_cons_zero, List.getElem?_cons_succ]; rfl) (by kernel_rfl) (by kernel_rfl) (by kernel_rfl) (by exact fun _ _ _ h => h) (Or.inl ⟨by rfl, ?_⟩) (by assumption) ?_
  rotate_left
  · (intro w hSw; (try dsimp only at hSw); go_simp; (try with_reducible rfl))
  try simp only [Act.put, List.setIfInBounds_toArray, List.set_cons_zero, List.set_cons_succ]
  refine wpAnyH_take (i := 11) (v := ?_) (by simp only [List.getElem?_toArray, List.getElem?_cons_zero, List.getElem?_cons_succ]; rfl) (by kernel_rfl) (by kernel_rfl) (by kernel_rfl) (by exact fun _ _ _ h => h) (Or.inl ⟨by rfl, ?_⟩) (by assumption) ?_
  rotate_left
  · (intro w hSw; (try dsimp only at hSw); go_simp; (try with_reducible rfl))
  try simp only [Act.put, List.setIfInBounds_toArray, List.set_cons_zero, List.set_cons_succ]
  refine wpAnyH_take (i := 12) (v := ?_) (by simp only [List.getElem?_toArray, List.getElem?_cons_zero, List.getElem?_cons_succ]; rfl) (by kernel_rfl) (by kernel_rfl) (by kernel_rfl) (by exact fun _ _ _ h => h) (Or.inl ⟨by rfl, ?_⟩) (by assumption) ?_
  rotate_left
  · (intro w hSw; (try dsimp only at hSw); go_simp; (try with_reducible rfl))
  try simp only [Act.put, List.setIfInBounds_toArray, List.set_cons_zero, List.set_cons_succ]
  refine wpAnyH_take (i := 13) (v := ?_) (by simp only [List.getElem?_toArray, List.getElem?_cons_zero, List.getElem?_cons_succ]; rfl) (by kernel_rfl) (by kernel_rfl) (by kernel_rfl) (by exact fun _ _ _ h => h) (Or.inl ⟨by rfl, ?_⟩) (by assumption) ?_
  rotate_left
  · (intro w hSw; (try dsimp only at hSw); go_simp; (try with_reducible rfl))
  try simp only [Act.put, List.setIfInBounds_toArray, List.set_cons_zero, List.set_cons_succ]
  refine wpAnyH_take (i := 17) (v := ?_) (by simp only [List.getElem?_toArray, List.getElem?_cons_zero, List.getElem?_cons_succ]; rfl) (by kernel_rfl) (by kernel_rfl) (by kernel_rfl) (by exact fun _ _ _ h => h) (Or.inl ⟨by rfl, ?_⟩) (by assumption) ?_
  rotate_left
  · (intro w hSw; (try dsimp only at hSw); go_simp; (try with_reducible rfl))
  try simp only [Act.put, List.setIfInBounds_toArray, List.set_cons_zero, List.set_cons_succ]
  refine wpAnyH_take (i := 18) (v := ?_) (by simp only [List.getElem?_toArray, List.getElem?_cons_zero, List.getElem?_cons_succ]; rfl) (by kernel_rfl) (by kernel_rfl) (by kernel_rfl) (by exact fun _ _ _ h => h) (Or.inl ⟨by rfl, ?_⟩) (by assumption) ?_
  rotate_left
  · (intro w hSw; (try dsimp only at hSw); go_simp; (try with_reducible rfl))
  try simp only [Act.put, List.setIfInBounds_toArray, List.set_cons_zero, List.set_cons_succ]
  refine wpAnyH_take (i := 19) (v := ?_) (by simp only [List.getElem?_toArray, List.getElem?_cons_zero, List.getElem?_cons_succ]; rfl) (by kernel_rfl) (by kernel_rfl) (by kernel_rfl) (by exact fun _ _ _ h => h) (Or.inl ⟨by rfl, ?_⟩) (by assumption) ?_
  rotate_left
  · (intro w hSw; (try dsimp only at hSw); go_simp; (try with_reducible rfl))
  try simp only [Act.put, List.setIfInBounds_toArray, List.set_cons_zero, List.set_cons_succ]
  refine wpAnyH_take (i := 3) (v := eU b.R) (by simp only [List.getElem?_toArray, List.getElem?_cons_zero, List.getElem?_cons_succ]; rfl) (by kernel_rfl) (by kernel_rfl) (by kernel_rfl) (by exact fun _ _ _ h => h) (Or.inl ⟨by rfl, fun w hSw => xl_cell 22 (h.box.below hSw) rfl rfl Try.underlying22 rfl rfl⟩) (by assumption) ?_
  try simp only [Act.put, List.setIfInBounds_toArray, List.set_cons_zero, List.set_cons_succ]
  refine wpAnyH_take (i := 8) (v := v1) (by simp only [List.getElem?_toArray, List.getElem?_cons_zero, List.getElem?_cons_succ]; rfl) (by kernel_rfl) (by kernel_rfl) (by kernel_rfl) (by exact fun _ _ _ h => h) (Or.inl ⟨by rfl, fun w hSw => xl_cell 48 (h.box.below hSw) rfl rfl Try.underlying48 rfl rfl⟩) (by assumption) ?_
  try simp only [Act.put, List.setIfInBounds_toArray, List.set_cons_zero, List.set_cons_succ]
  refine wpAnyH_take (i := 14) (v := v2) (by simp only [List.getElem?_toArray, List.getElem?_cons_zero, List.getElem?_cons_succ]; rfl) (by kernel_rfl) (by kernel_rfl) (by kernel_rfl) (by exact fun _ _ _ h => h) (Or.inl ⟨by rfl, fun w hSw => xl_cell 23 (h.box.below hSw) rfl rfl Try.underlying23 rfl rfl⟩) (by assumption) ?_
  try simp only [Act.put, List.setIfInBounds_toArray, List.set_cons_zero, List.set_cons_succ]
  refine wpAnyH_take (i := 20) (v := v3) (by simp only [List.getElem?_toArray, List.getElem?_cons_zero, List.getElem?_cons_succ]; rfl) (by kernel_rfl) (by kernel_rfl) (by kernel_rfl) (by exact fun _ _ _ h => h) (Or.inl ⟨by rfl, fun w hSw => xl_cell 23 (h.box.below hSw) rfl rfl Try.underlying23 rfl rfl⟩) (by assumption) ?_
  try simp only [Act.put, List.setIfInBounds_toArray, List.set_cons_zero, List.set_cons_succ]
  refine wpAnyH_ready (rs := [4, 10, 16]) (by kernel_rfl) (by simp) ?_
  refine AllReadyH.cons (by simp only [List.getElem?_toArray, List.getElem?_cons_zero, List.getElem?_cons_succ]; rfl) (fun K hK => ?_) ?_
  · refine st_sl0 48 3 rfl rfl Try.underlying48 size3 ?_
    intro w4 X4 T4
    have E4 := own_empty (α := Int) (s := 1) (f := fI) X4 hHeld.size
    refine hK.out _ _ (ups hHeld T4 hHeld.size) (fun hHeld => ?_)
    clear hK K
    try simp only [Act.put, List.setIfInBounds_toArray, List.set_cons_zero, List.set_cons_succ]
    refine wpAnyH_ready (rs := [9, 10, 16]) (by kernel_rfl) (by simp) ?_
    refine AllReadyH.cons (by simp only [List.getElem?_toArray, List.getElem?_cons_zero, List.getElem?_cons_succ]; rfl) (fun K hK => ?_) ?_
    · refine step_joinN rowI cellsI rfl _ _ rfl w.heap.size 0 _ v1 [] (idsK b.L) 0 b.L.length rfl hl1h.out rfl E4 rfl (own_mono (own_below h.r1 hHeld) (Nat.zero_le _)) (by omega) hHeld.size ?_
      intro v109 w9 O9 G9 N9
      rw [List.nil_append, Nat.zero_add] at O9
      refine hK.out _ _ (hHeld.grown G9 hHeld.size (fun g e => (E4.lt g e).1)) (fun hHeld => ?_)
      clear hK K
      try simp only [Act.put, List.setIfInBounds_toArray, List.set_cons_zero, List.set_cons_succ]
      refine wpAnyH_ready (rs := [10, 16]) (by kernel_rfl) (by simp) ?_
      refine AllReadyH.cons (by simp only [List.getElem?_toArray, List.getElem?_cons_zero, List.getElem?_cons_succ]; rfl) (fun K hK => ?_) ?_
      · refine st_sl0 23 25 rfl rfl Try.underlying23 size25 ?_
        intro w10 X10 T10
        have E10 := own_empty (α := Cv) (s := 3) (f := fC) X10 hHeld.size
        replace O9 := own_below O9 T10
        refine hK.out _ _ (ups hHeld T10 hHeld.size) (fun hHeld => ?_)
        clear hK K
        try simp only [Act.put, List.setIfInBounds_toArray, List.set_cons_zero, List.set_cons_succ]
        refine wpAnyH_ready (rs := [15, 16]) (by kernel_rfl) (by simp) ?_
        refine AllReadyH.cons (by simp only [List.getElem?_toArray, List.getElem?_cons_zero, List.getElem?_cons_succ]; rfl) (fun K hK => ?_) ?_
        · refine step_joinN rowCv cellsC rfl _ _ rfl w.heap.size 0 _ v2 [] (cvsK b.L) 0 b.L.length rfl hl2h.out rfl E10 rfl (own_mono (own_below h.r2 hHeld) (Nat.zero_le _)) (by omega) hHeld.size ?_
          intro v115 w15 O15 G15 N15
          rw [List.nil_append, Nat.zero_add] at O15
          replace O9 := O9.grown' G15 (own_own E10 O9 (by decide))
          refine hK.out _ _ (hHeld.grown G15 hHeld.size (fun g e => (E10.lt g e).1)) (fun hHeld => ?_)
          clear hK K
          try simp only [Act.put, List.setIfInBounds_toArray, List.set_cons_zero, List.set_cons_succ]
          refine wpAnyH_ready (rs := [16]) (by kernel_rfl) (by simp) ?_
          refine AllReadyH.cons (by simp only [List.getElem?_toArray, List.getElem?_cons_zero, List.getElem?_cons_succ]; rfl) (fun K hK => ?_) AllReadyH.nil
          refine st_sl0 23 25 rfl rfl Try.underlying23 size25 ?_
          intro w16 X16 T16
          have nac := own_newR O15 (n' := 0) (c' := 0) (Nat.le_refl _)
          have E16 := own_empty (α := Cv) (s := 3) (f := fC) X16 hHeld.size
          replace O9 := own_below O9 T16
          replace O15 := own_below O15 T16
          refine hK.out _ _ (ups hHeld T16 hHeld.size) (fun hHeld => ?_)
          clear hK K
          try simp only [Act.put, List.setIfInBounds_toArray, List.set_cons_zero, List.set_cons_succ]
          refine wpAnyH_ready (rs := [21]) (by kernel_rfl) (by simp) ?_
          refine AllReadyH.cons (by simp only [List.getElem?_toArray, List.getElem?_cons_zero, List.getElem?_cons_succ]; rfl) (fun K hK => ?_) AllReadyH.nil
          refine step_joinN rowCv cellsC rfl _ _ rfl w.heap.size 0 _ v3 [] (b.G) 0 b.G.length rfl rfl rfl E16 rfl (own_mono (own_below h.r3 hHeld) (Nat.zero_le _)) (by omega) hHeld.size ?_
          intro v121 w21 O21 G21 N21
          rw [List.nil_append, Nat.zero_add] at O21
          have nac2 := own_apR N21 nac O15
          replace O9 := O9.grown' G21 (own_own E16 O9 (by decide))
          replace O15 := O15.grown' G21 (fun q e e2 => nac q e e2)
          clear nac
          have nac := nac2
          clear nac2
          refine hK.out _ _ (hHeld.grown G21 hHeld.size (fun g e => (E16.lt g e).1)) (fun hHeld => ?_)
          clear hK K
          try simp only [Act.put, List.setIfInBounds_toArray, List.set_cons_zero, List.set_cons_succ]
          obtain ⟨a9, c9, rfl, _⟩ := own_len O9
          obtain ⟨a15, c15, rfl, _⟩ := own_len O15
          obtain ⟨a21, c21, rfl, _⟩ := own_len O21
          refine wpAnyH_take (i := 22) (v := .agg (rA b.R (.slice a9 b.L.length c9) (.slice a15 b.L.length c15) (.slice a21 b.G.length c21))) (by simp only [List.getElem?_toArray, List.getElem?_cons_zero, List.getElem?_cons_succ]; rfl) (by kernel_rfl) (by kernel_rfl) (by kernel_rfl) (by exact fun _ _ _ h => h) (Or.inl ⟨by rfl, fun w hSw => xl_build 60 (parts := [(0, .tmp 6), (1, .tmp 12), (2, .tmp 18), (3, .tmp 24)]) (hbl _ _ _ _ _ _) rfl⟩) (by assumption) ?_
          try simp only [Act.put, List.setIfInBounds_toArray, List.set_cons_zero, List.set_cons_succ]
          refine wpAnyH_ready (rs := [23]) (by kernel_rfl) (by simp) ?_
          refine AllReadyH.cons (by simp only [List.getElem?_toArray, List.getElem?_cons_zero, List.getElem?_cons_succ]; rfl) (fun K hK => ?_) AllReadyH.nil
          refine st_box 60 rfl rfl rfl ?_
          intro w23 X23 T23
          have hz23 := hHeld.size
          refine hK.out _ _ (ups hHeld T23 hHeld.size) (fun hHeld => ?_)
          clear hK K
          try simp only [Act.put, List.setIfInBounds_toArray, List.set_cons_zero, List.set_cons_succ]
          refine wpAnyH_take (i := 24) (v := ?_) (by simp only [List.getElem?_toArray, List.getElem?_cons_zero, List.getElem?_cons_succ]; rfl) (by kernel_rfl) (by kernel_rfl) (by kernel_rfl) (by exact fun _ _ _ h => h) (Or.inl ⟨by rfl, ?_⟩) (by assumption) ?_
          rotate_left
          · (intro w hSw; (try dsimp only at hSw); go_simp; (try with_reducible rfl))
          try simp only [Act.put, List.setIfInBounds_toArray, List.set_cons_zero, List.set_cons_succ]
          refine wpAnyH_done (by kernel_rfl) ?_ _
          go_wp2_with fail
          go_ret
          exact ⟨_, rfl, ⟨_, _, _, X23, hz23, own_below O9 T23, own_below O15 T23, own_below O21 T23, nac⟩, hHeld⟩
        refine AllReadyH.cons (by simp only [List.getElem?_toArray, List.getElem?_cons_zero, List.getElem?_cons_succ]; rfl) (fun K hK => ?_) AllReadyH.nil
        refine st_sl0 23 25 rfl rfl Try.underlying23 size25 ?_
        intro w16 X16 T16
        have nac := own_newR E10 (n' := 0) (c' := 0) (Nat.le_refl _)
        have E16 := own_empty (α := Cv) (s := 3) (f := fC) X16 hHeld.size
        replace O9 := own_below O9 T16
        replace E10 := own_below E10 T16
        refine hK.out _ _ (ups hHeld T16 hHeld.size) (fun hHeld => ?_)
        clear hK K
        try simp only [Act.put, List.setIfInBounds_toArray, List.set_cons_zero, List.set_cons_succ]
        refine wpAnyH_ready (rs := [15]) (by kernel_rfl) (by simp) ?_
        refine AllReadyH.cons (by simp only [List.getElem?_toArray, List.getElem?_cons_zero, List.getElem?_cons_succ]; rfl) (fun K hK => ?_) AllReadyH.nil
        refine step_joinN rowCv cellsC rfl _ _ rfl w.heap.size 0 _ v2 [] (cvsK b.L) 0 b.L.length rfl hl2h.out rfl E10 rfl (own_mono (own_below h.r2 hHeld) (Nat.zero_le _)) (by omega) hHeld.size ?_
        intro v115 w15 O15 G15 N15
        rw [List.nil_append, Nat.zero_add] at O15
        have nac2 := own_apL N15 nac E16
        replace O9 := O9.grown' G15 (own_own E10 O9 (by decide))
        replace E16 := E16.grown' G15 (fun q e e2 => nac q e2 e)
        clear nac
        have nac := nac2
        clear nac2
        refine hK.out _ _ (hHeld.grown G15 hHeld.size (fun g e => (E10.lt g e).1)) (fun hHeld => ?_)
        clear hK K
        try simp only [Act.put, List.setIfInBounds_toArray, List.set_cons_zero, List.set_cons_succ]
        refine wpAnyH_ready (rs := [21]) (by kernel_rfl) (by simp) ?_
        refine AllReadyH.cons (by simp only [List.getElem?_toArray, List.getElem?_cons_zero, List.getElem?_cons_succ]; rfl) (fun K hK => ?_) AllReadyH.nil
        refine step_joinN rowCv cellsC rfl _ _ rfl w.heap.size 0 _ v3 [] (b.G) 0 b.G.length rfl rfl rfl E16 rfl (own_mono (own_below h.r3 hHeld) (Nat.zero_le _)) (by omega) hHeld.size ?_
        intro v121 w21 O21 G21 N21
        rw [List.nil_append, Nat.zero_add] at O21
        have nac2 := own_apR N21 nac O15
        replace O9 := O9.grown' G21 (own_own E16 O9 (by decide))
        replace O15 := O15.grown' G21 (fun q e e2 => nac q e e2)
        clear nac
        have nac := nac2
        clear nac2
        refine hK.out _ _ (hHeld.grown G21 hHeld.size (fun g e => (E16.lt g e).1)) (fun hHeld => ?_)
        clear hK K
        try simp only [Act.put, List.setIfInBounds_toArray, List.set_cons_zero, List.set_cons_succ]
        obtain ⟨a9, c9, rfl, _⟩ := own_len O9
        obtain ⟨a15, c15, rfl, _⟩ := own_len O15
        obtain ⟨a21, c21, rfl, _⟩ := own_len O21
        refine wpAnyH_take (i := 22) (v := .agg (rA b.R (.slice a9 b.L.length c9) (.slice a15 b.L.length c15) (.slice a21 b.G.length c21))) (by simp only [List.getElem?_toArray, List.getElem?_cons_zero, List.getElem?_cons_succ]; rfl) (by kernel_rfl) (by kernel_rfl) (by kernel_rfl) (by exact fun _ _ _ h => h) (Or.inl ⟨by rfl, fun w hSw => xl_build 60 (parts := [(0, .tmp 6), (1, .tmp 12), (2, .tmp 18), (3, .tmp 24)]) (hbl _ _ _ _ _ _) rfl⟩) (by assumption) ?_
        try simp only [Act.put, List.setIfInBounds_toArray, List.set_cons_zero, List.set_cons_succ]
        refine wpAnyH_ready (rs := [23]) (by kernel_rfl) (by simp) ?_
        refine AllReadyH.cons (by simp only [List.getElem?_toArray, List.getElem?_cons_zero, List.getElem?_cons_succ]; rfl) (fun K hK => ?_) AllReadyH.nil
        refine st_box 60 rfl rfl rfl ?_
        intro w23 X23 T23
        have hz23 := hHeld.size
        refine hK.out _ _ (ups hHeld T23 hHeld.size) (fun hHeld => ?_)
        clear hK K
        try simp only [Act.put, List.setIfInBounds_toArray, List.set_cons_zero, List.set_cons_succ]
        refine wpAnyH_take (i := 24) (v := ?_) (by simp only [List.getElem?_toArray, List.getElem?_cons_zero, List.getElem?_cons_succ]; rfl) (by kernel_rfl) (by kernel_rfl) (by kernel_rfl) (by exact fun _ _ _ h => h) (Or.inl ⟨by rfl, ?_⟩) (by assumption) ?_
        rotate_left
        · (intro w hSw; (try dsimp only at hSw); go_simp; (try with_reducible rfl))
        try simp only [Act.put, List.setIfInBounds_toArray, List.set_cons_zero, List.set_cons_succ]
        refine wpAnyH_done (by kernel_rfl) ?_ _
        go_wp2_with fail
        go_ret
        exact ⟨_, rfl, ⟨_, _, _, X23, hz23, own_below O9 T23, own_below O15 T23, own_below O21 T23, nac⟩, hHeld⟩
      refine AllReadyH.cons (by simp only [List.getElem?_toArray, List.getElem?_cons_zero, List.getElem?_cons_succ]; rfl) (fun K hK => ?_) AllReadyH.nil
      refine st_sl0 23 25 rfl rfl Try.underlying23 size25 ?_
      intro w16 X16 T16
      have E16 := own_empty (α := Cv) (s := 3) (f := fC) X16 hHeld.size
      replace O9 := own_below O9 T16
      refine hK.out _ _ (ups hHeld T16 hHeld.size) (fun hHeld => ?_)
      clear hK K
      try simp only [Act.put, List.setIfInBounds_toArray, List.set_cons_zero, List.set_cons_succ]
      refine wpAnyH_ready (rs := [10]) (by kernel_rfl) (by simp) ?_
      refine AllReadyH.cons (by simp only [List.getElem?_toArray, List.getElem?_cons_zero, List.getElem?_cons_succ]; rfl) (fun K hK => ?_) AllReadyH.nil
      refine st_sl0 23 25 rfl rfl Try.underlying23 size25 ?_
      intro w10 X10 T10
      have nac := own_newL E16 (n' := 0) (c' := 0) (Nat.le_refl _)
      have E10 := own_empty (α := Cv) (s := 3) (f := fC) X10 hHeld.size
      replace O9 := own_below O9 T10
      replace E16 := own_below E16 T10
      refine hK.out _ _ (ups hHeld T10 hHeld.size) (fun hHeld => ?_)
      clear hK K
      try simp only [Act.put, List.setIfInBounds_toArray, List.set_cons_zero, List.set_cons_succ]
      refine wpAnyH_ready (rs := [15]) (by kernel_rfl) (by simp) ?_
      refine AllReadyH.cons (by simp only [List.getElem?_toArray, List.getElem?_cons_zero, List.getElem?_cons_succ]; rfl) (fun K hK => ?_) AllReadyH.nil
      refine step_joinN rowCv cellsC rfl _ _ rfl w.heap.size 0 _ v2 [] (cvsK b.L) 0 b.L.length rfl hl2h.out rfl E10 rfl (own_mono (own_below h.r2 hHeld) (Nat.zero_le _)) (by omega) hHeld.size ?_
      intro v115 w15 O15 G15 N15
      rw [List.nil_append, Nat.zero_add] at O15
      have nac2 := own_apL N15 nac E16
      replace O9 := O9.grown' G15 (own_own E10 O9 (by decide))
      replace E16 := E16.grown' G15 (fun q e e2 => nac q e2 e)
      clear nac
      have nac := nac2
      clear nac2
      refine hK.out _ _ (hHeld.grown G15 hHeld.size (fun g e => (E10.lt g e).1)) (fun hHeld => ?_)
      clear hK K
      try simp only [Act.put, List.setIfInBounds_toArray, List.set_cons_zero, List.set_cons_succ]
      refine wpAnyH_ready (rs := [21]) (by kernel_rfl) (by simp) ?_
      refine AllReadyH.cons (by simp only [List.getElem?_toArray, List.getElem?_cons_zero, List.getElem?_cons_succ]; rfl) (fun K hK => ?_) AllReadyH.nil
      refine step_joinN rowCv cellsC rfl _ _ rfl w.heap.size 0 _ v3 [] (b.G) 0 b.G.length rfl rfl rfl E16 rfl (own_mono (own_below h.r3 hHeld) (Nat.zero_le _)) (by omega) hHeld.size ?_
      intro v121 w21 O21 G21 N21
      rw [List.nil_append, Nat.zero_add] at O21
      have nac2 := own_apR N21 nac O15
      replace O9 := O9.grown' G21 (own_own E16 O9 (by decide))
      replace O15 := O15.grown' G21 (fun q e e2 => nac q e e2)
      clear nac
      have nac := nac2
      clear nac2
      refine hK.out _ _ (hHeld.grown G21 hHeld.size (fun g e => (E16.lt g e).1)) (fun hHeld => ?_)
      clear hK K
      try simp only [Act.put, List.setIfInBounds_toArray, List.set_cons_zero, List.set_cons_succ]
      obtain ⟨a9, c9, rfl, _⟩ := own_len O9
      obtain ⟨a15, c15, rfl, _⟩ := own_len O15
      obtain ⟨a21, c21, rfl, _⟩ := own_len O21
      refine wpAnyH_take (i := 22) (v := .agg (rA b.R (.slice a9 b.L.length c9) (.slice a15 b.L.length c15) (.slice a21 b.G.length c21))) (by simp only [List.getElem?_toArray, List.getElem?_cons_zero, List.getElem?_cons_succ]; rfl) (by kernel_rfl) (by kernel_rfl) (by kernel_rfl) (by exact fun _ _ _ h => h) (Or.inl ⟨by rfl, fun w hSw => xl_build 60 (parts := [(0, .tmp 6), (1, .tmp 12), (2, .tmp 18), (3, .tmp 24)]) (hbl _ _ _ _ _ _) rfl⟩) (by assumption) ?_
      try simp only [Act.put, List.setIfInBounds_toArray, List.set_cons_zero, List.set_cons_succ]
      refine wpAnyH_ready (rs := [23]) (by kernel_rfl) (by simp) ?_
      refine AllReadyH.cons (by simp only [List.getElem?_toArray, List.getElem?_cons_zero, List.getElem?_cons_succ]; rfl) (fun K hK => ?_) AllReadyH.nil
      refine st_box 60 rfl rfl rfl ?_
      intro w23 X23 T23
      have hz23 := hHeld.size
      refine hK.out _ _ (ups hHeld T23 hHeld.size) (fun hHeld => ?_)
      clear hK K
      try simp only [Act.put, List.setIfInBounds_toArray, List.set_cons_zero, List.set_cons_succ]
      refine wpAnyH_take (i := 24) (v := ?_) (by simp only [List.getElem?_toArray, List.getElem?_cons_zero, List.getElem?_cons_succ]; rfl) (by kernel_rfl) (by kernel_rfl) (by kernel_rfl) (by exact fun _ _ _ h => h) (Or.inl ⟨by rfl, ?_⟩) (by assumption) ?_
      rotate_left
      · (intro w hSw; (try dsimp only at hSw); go_simp; (try with_reducible rfl))
      try simp only [Act.put, List.setIfInBounds_toArray, List.set_cons_zero, List.set_cons_succ]
      refine wpAnyH_done (by kernel_rfl) ?_ _
      go_wp2_with fail
      go_ret
      exact ⟨_, rfl, ⟨_, _, _, X23, hz23, own_below O9 T23, own_below O15 T23, own_below O21 T23, nac⟩, hHeld⟩
    refine AllReadyH.cons (by simp only [List.getElem?_toArray, List.getElem?_cons_zero, List.getElem?_cons_succ]; rfl) (fun K hK => ?_) ?_
    · refine st_sl0 23 25 rfl rfl Try.underlying23 size25 ?_
      intro w10 X10 T10
      have E10 := own_empty (α := Cv) (s := 3) (f := fC) X10 hHeld.size
      replace E4 := own_below E4 T10
      refine hK.out _ _ (ups hHeld T10 hHeld.size) (fun hHeld => ?_)
      clear hK K
      try simp only [Act.put, List.setIfInBounds_toArray, List.set_cons_zero, List.set_cons_succ]
      refine wpAnyH_ready (rs := [9, 16]) (by kernel_rfl) (by simp) ?_
      refine AllReadyH.cons (by simp only [List.getElem?_toArray, List.getElem?_cons_zero, List.getElem?_cons_succ]; rfl) (fun K hK => ?_) ?_
      · refine step_joinN rowI cellsI rfl _ _ rfl w.heap.size 0 _ v1 [] (idsK b.L) 0 b.L.length rfl hl1h.out rfl E4 rfl (own_mono (own_below h.r1 hHeld) (Nat.zero_le _)) (by omega) hHeld.size ?_
        intro v109 w9 O9 G9 N9
        rw [List.nil_append, Nat.zero_add] at O9
        replace E10 := E10.grown' G9 (own_own E4 E10 (by decide))
        refine hK.out _ _ (hHeld.grown G9 hHeld.size (fun g e => (E4.lt g e).1)) (fun hHeld => ?_)
        clear hK K
        try simp only [Act.put, List.setIfInBounds_toArray, List.set_cons_zero, List.set_cons_succ]
        refine wpAnyH_ready (rs := [15, 16]) (by kernel_rfl) (by simp) ?_
        refine AllReadyH.cons (by simp only [List.getElem?_toArray, List.getElem?_cons_zero, List.getElem?_cons_succ]; rfl) (fun K hK => ?_) ?_
        · refine step_joinN rowCv cellsC rfl _ _ rfl w.heap.size 0 _ v2 [] (cvsK b.L) 0 b.L.length rfl hl2h.out rfl E10 rfl (own_mono (own_below h.r2 hHeld) (Nat.zero_le _)) (by omega) hHeld.size ?_
          intro v115 w15 O15 G15 N15
          rw [List.nil_append, Nat.zero_add] at O15
          replace O9 := O9.grown' G15 (own_own E10 O9 (by decide))
          refine hK.out _ _ (hHeld.grown G15 hHeld.size (fun g e => (E10.lt g e).1)) (fun hHeld => ?_)
          clear hK K
          try simp only [Act.put, List.setIfInBounds_toArray, List.set_cons_zero, List.set_cons_succ]
          refine wpAnyH_ready (rs := [16]) (by kernel_rfl) (by simp) ?_
          refine AllReadyH.cons (by simp only [List.getElem?_toArray, List.getElem?_cons_zero, List.getElem?_cons_succ]; rfl) (fun K hK => ?_) AllReadyH.nil
          refine st_sl0 23 25 rfl rfl Try.underlying23 size25 ?_
          intro w16 X16 T16
          have nac := own_newR O15 (n' := 0) (c' := 0) (Nat.le_refl _)
          have E16 := own_empty (α := Cv) (s := 3) (f := fC) X16 hHeld.size
          replace O9 := own_below O9 T16
          replace O15 := own_below O15 T16
          refine hK.out _ _ (ups hHeld T16 hHeld.size) (fun hHeld => ?_)
          clear hK K
          try simp only [Act.put, List.setIfInBounds_toArray, List.set_cons_zero, List.set_cons_succ]
          refine wpAnyH_ready (rs := [21]) (by kernel_rfl) (by simp) ?_
          refine AllReadyH.cons (by simp only [List.getElem?_toArray, List.getElem?_cons_zero, List.getElem?_cons_succ]; rfl) (fun K hK => ?_) AllReadyH.nil
          refine step_joinN rowCv cellsC rfl _ _ rfl w.heap.size 0 _ v3 [] (b.G) 0 b.G.length rfl rfl rfl E16 rfl (own_mono (own_below h.r3 hHeld) (Nat.zero_le _)) (by omega) hHeld.size ?_
          intro v121 w21 O21 G21 N21
          rw [List.nil_append, Nat.zero_add] at O21
          have nac2 := own_apR N21 nac O15
          replace O9 := O9.grown' G21 (own_own E16 O9 (by decide))
          replace O15 := O15.grown' G21 (fun q e e2 => nac q e e2)
          clear nac
          have nac := nac2
          clear nac2
          refine hK.out _ _ (hHeld.grown G21 hHeld.size (fun g e => (E16.lt g e).1)) (fun hHeld => ?_)
          clear hK K
          try simp only [Act.put, List.setIfInBounds_toArray, List.set_cons_zero, List.set_cons_succ]
          obtain ⟨a9, c9, rfl, _⟩ := own_len O9
          obtain ⟨a15, c15, rfl, _⟩ := own_len O15
          obtain ⟨a21, c21, rfl, _⟩ := own_len O21
          refine wpAnyH_take (i := 22) (v := .agg (rA b.R (.slice a9 b.L.length c9) (.slice a15 b.L.length c15) (.slice a21 b.G.length c21))) (by simp only [List.getElem?_toArray, List.getElem?_cons_zero, List.getElem?_cons_succ]; rfl) (by kernel_rfl) (by kernel_rfl) (by kernel_rfl) (by exact fun _ _ _ h => h) (Or.inl ⟨by rfl, fun w hSw => xl_build 60 (parts := [(0, .tmp 6), (1, .tmp 12), (2, .tmp 18), (3, .tmp 24)]) (hbl _ _ _ _ _ _) rfl⟩) (by assumption) ?_
          try simp only [Act.put, List.setIfInBounds_toArray, List.set_cons_zero, List.set_cons_succ]
          refine wpAnyH_ready (rs := [23]) (by kernel_rfl) (by simp) ?_
          refine AllReadyH.cons (by simp only [List.getElem?_toArray, List.getElem?_cons_zero, List.getElem?_cons_succ]; rfl) (fun K hK => ?_) AllReadyH.nil
          refine st_box 60 rfl rfl rfl ?_
          intro w23 X23 T23
          have hz23 := hHeld.size
          refine hK.out _ _ (ups hHeld T23 hHeld.size) (fun hHeld => ?_)
          clear hK K
          try simp only [Act.put, List.setIfInBounds_toArray, List.set_cons_zero, List.set_cons_succ]
          refine wpAnyH_take (i := 24) (v := ?_) (by simp only [List.getElem?_toArray, List.getElem?_cons_zero, List.getElem?_cons_succ]; rfl) (by kernel_rfl) (by kernel_rfl) (by kernel_rfl) (by exact fun _ _ _ h => h) (Or.inl ⟨by rfl, ?_⟩) (by assumption) ?_
          rotate_left
          · (intro w hSw; (try dsimp only at hSw); go_simp; (try with_reducible rfl))
          try simp only [Act.put, List.setIfInBounds_toArray, List.set_cons_zero, List.set_cons_succ]
          refine wpAnyH_done (by kernel_rfl) ?_ _
          go_wp2_with fail
          go_ret
          exact ⟨_, rfl, ⟨_, _, _, X23, hz23, own_below O9 T23, own_below O15 T23, own_below O21 T23, nac⟩, hHeld⟩
        refine AllReadyH.cons (by simp only [List.getElem?_toArray, List.getElem?_cons_zero, List.getElem?_cons_succ]; rfl) (fun K hK => ?_) AllReadyH.nil
        refine st_sl0 23 25 rfl rfl Try.underlying23 size25 ?_
        intro w16 X16 T16
        have nac := own_newR E10 (n' := 0) (c' := 0) (Nat.le_refl _)
        have E16 := own_empty (α := Cv) (s := 3) (f := fC) X16 hHeld.size
        replace O9 := own_below O9 T16
        replace E10 := own_below E10 T16
        refine hK.out _ _ (ups hHeld T16 hHeld.size) (fun hHeld => ?_)
        clear hK K
        try simp only [Act.put, List.setIfInBounds_toArray, List.set_cons_zero, List.set_cons_succ]
        refine wpAnyH_ready (rs := [15]) (by kernel_rfl) (by simp) ?_
        refine AllReadyH.cons (by simp only [List.getElem?_toArray, List.getElem?_cons_zero, List.getElem?_cons_succ]; rfl) (fun K hK => ?_) AllReadyH.nil
        refine step_joinN rowCv cellsC rfl _ _ rfl w.heap.size 0 _ v2 [] (cvsK b.L) 0 b.L.length rfl hl2h.out rfl E10 rfl (own_mono (own_below h.r2 hHeld) (Nat.zero_le _)) (by omega) hHeld.size ?_
        intro v115 w15 O15 G15 N15
        rw [List.nil_append, Nat.zero_add] at O15
        have nac2 := own_apL N15 nac E16
        replace O9 := O9.grown' G15 (own_own E10 O9 (by decide))
        replace E16 := E16.grown' G15 (fun q e e2 => nac q e2 e)
        clear nac
        have nac := nac2
        clear nac2
        refine hK.out _ _ (hHeld.grown G15 hHeld.size (fun g e => (E10.lt g e).1)) (fun hHeld => ?_)
        clear hK K
        try simp only [Act.put, List.setIfInBounds_toArray, List.set_cons_zero, List.set_cons_succ]
        refine wpAnyH_ready (rs := [21]) (by kernel_rfl) (by simp) ?_
        refine AllReadyH.cons (by simp only [List.getElem?_toArray, List.getElem?_cons_zero, List.getElem?_cons_succ]; rfl) (fun K hK => ?_) AllReadyH.nil
        refine step_joinN rowCv cellsC rfl _ _ rfl w.heap.size 0 _ v3 [] (b.G) 0 b.G.length rfl rfl rfl E16 rfl (own_mono (own_below h.r3 hHeld) (Nat.zero_le _)) (by omega) hHeld.size ?_
        intro v121 w21 O21 G21 N21
        rw [List.nil_append, Nat.zero_add] at O21
        have nac2 := own_apR N21 nac O15
        replace O9 := O9.grown' G21 (own_own E16 O9 (by decide))
        replace O15 := O15.grown' G21 (fun q e e2 => nac q e e2)
        clear nac
        have nac := nac2
        clear nac2
        refine hK.out _ _ (hHeld.grown G21 hHeld.size (fun g e => (E16.lt g e).1)) (fun hHeld => ?_)
        clear hK K
        try simp only [Act.put, List.setIfInBounds_toArray, List.set_cons_zero, List.set_cons_succ]
        obtain ⟨a9, c9, rfl, _⟩ := own_len O9
        obtain ⟨a15, c15, rfl, _⟩ := own_len O15
        obtain ⟨a21, c21, rfl, _⟩ := own_len O21
        refine wpAnyH_take (i := 22) (v := .agg (rA b.R (.slice a9 b.L.length c9) (.slice a15 b.L.length c15) (.slice a21 b.G.length c21))) (by simp only [List.getElem?_toArray, List.getElem?_cons_zero, List.getElem?_cons_succ]; rfl) (by kernel_rfl) (by kernel_rfl) (by kernel_rfl) (by exact fun _ _ _ h => h) (Or.inl ⟨by rfl, fun w hSw => xl_build 60 (parts := [(0, .tmp 6), (1, .tmp 12), (2, .tmp 18), (3, .tmp 24)]) (hbl _ _ _ _ _ _) rfl⟩) (by assumption) ?_
        try simp only [Act.put, List.setIfInBounds_toArray, List.set_cons_zero, List.set_cons_succ]
        refine wpAnyH_ready (rs := [23]) (by kernel_rfl) (by simp) ?_
        refine AllReadyH.cons (by simp only [List.getElem?_toArray, List.getElem?_cons_zero, List.getElem?_cons_succ]; rfl) (fun K hK => ?_) AllReadyH.nil
        refine st_box 60 rfl rfl rfl ?_
        intro w23 X23 T23
        have hz23 := hHeld.size
        refine hK.out _ _ (ups hHeld T23 hHeld.size) (fun hHeld => ?_)
        clear hK K
        try simp only [Act.put, List.setIfInBounds_toArray, List.set_cons_zero, List.set_cons_succ]
        refine wpAnyH_take (i := 24) (v := ?_) (by simp only [List.getElem?_toArray, List.getElem?_cons_zero, List.getElem?_cons_succ]; rfl) (by kernel_rfl) (by kernel_rfl) (by kernel_rfl) (by exact fun _ _ _ h => h) (Or.inl ⟨by rfl, ?_⟩) (by assumption) ?_
        rotate_left
        · (intro w hSw; (try dsimp only at hSw); go_simp; (try with_reducible rfl))
        try simp only [Act.put, List.setIfInBounds_toArray, List.set_cons_zero, List.set_cons_succ]
        refine wpAnyH_done (by kernel_rfl) ?_ _
        go_wp2_with fail
        go_ret
        exact ⟨_, rfl, ⟨_, _, _, X23, hz23, own_below O9 T23, own_below O15 T23, own_below O21 T23, nac⟩, hHeld⟩
      refine AllReadyH.cons (by simp only [List.getElem?_toArray, List.getElem?_cons_zero, List.getElem?_cons_succ]; rfl) (fun K hK => ?_) AllReadyH.nil
      refine st_sl0 23 25 rfl rfl Try.underlying23 size25 ?_
      intro w16 X16 T16
      have nac := own_newR E10 (n' := 0) (c' := 0) (Nat.le_refl _)
      have E16 := own_empty (α := Cv) (s := 3) (f := fC) X16 hHeld.size
      replace E4 := own_below E4 T16
      replace E10 := own_below E10 T16
      refine hK.out _ _ (ups hHeld T16 hHeld.size) (fun hHeld => ?_)
      clear hK K
      try simp only [Act.put, List.setIfInBounds_toArray, List.set_cons_zero, List.set_cons_succ]
      refine wpAnyH_ready (rs := [9]) (by kernel_rfl) (by simp) ?_
      refine AllReadyH.cons (by simp only [List.getElem?_toArray, List.getElem?_cons_zero, List.getElem?_cons_succ]; rfl) (fun K hK => ?_) AllReadyH.nil
      refine step_joinN rowI cellsI rfl _ _ rfl w.heap.size 0 _ v1 [] (idsK b.L) 0 b.L.length rfl hl1h.out rfl E4 rfl (own_mono (own_below h.r1 hHeld) (Nat.zero_le _)) (by omega) hHeld.size ?_
      intro v109 w9 O9 G9 N9
      rw [List.nil_append, Nat.zero_add] at O9
      replace E10 := E10.grown' G9 (own_own E4 E10 (by decide))
      replace E16 := E16.grown' G9 (own_own E4 E16 (by decide))
      refine hK.out _ _ (hHeld.grown G9 hHeld.size (fun g e => (E4.lt g e).1)) (fun hHeld => ?_)
      clear hK K
      try simp only [Act.put, List.setIfInBounds_toArray, List.set_cons_zero, List.set_cons_succ]
      refine wpAnyH_ready (rs := [15]) (by kernel_rfl) (by simp) ?_
      refine AllReadyH.cons (by simp only [List.getElem?_toArray, List.getElem?_cons_zero, List.getElem?_cons_succ]; rfl) (fun K hK => ?_) AllReadyH.nil
      refine step_joinN rowCv cellsC rfl _ _ rfl w.heap.size 0 _ v2 [] (cvsK b.L) 0 b.L.length rfl hl2h.out rfl E10 rfl (own_mono (own_below h.r2 hHeld) (Nat.zero_le _)) (by omega) hHeld.size ?_
      intro v115 w15 O15 G15 N15
      rw [List.nil_append, Nat.zero_add] at O15
      have nac2 := own_apL N15 nac E16
      replace O9 := O9.grown' G15 (own_own E10 O9 (by decide))
      replace E16 := E16.grown' G15 (fun q e e2 => nac q e2 e)
      clear nac
      have nac := nac2
      clear nac2
      refine hK.out _ _ (hHeld.grown G15 hHeld.size (fun g e => (E10.lt g e).1)) (fun hHeld => ?_)
      clear hK K
      try simp only [Act.put, List.setIfInBounds_toArray, List.set_cons_zero, List.set_cons_succ]
      refine wpAnyH_ready (rs := [21]) (by kernel_rfl) (by simp) ?_
      refine AllReadyH.cons (by simp only [List.getElem?_toArray, List.getElem?_cons_zero, List.getElem?_cons_succ]; rfl) (fun K hK => ?_) AllReadyH.nil
      refine step_joinN rowCv cellsC rfl _ _ rfl w.heap.size 0 _ v3 [] (b.G) 0 b.G.length rfl rfl rfl E16 rfl (own_mono (own_below h.r3 hHeld) (Nat.zero_le _)) (by omega) hHeld.size ?_
      intro v121 w21 O21 G21 N21
      rw [List.nil_append, Nat.zero_add] at O21
      have nac2 := own_apR N21 nac O15
      replace O9 := O9.grown' G21 (own_own E16 O9 (by decide))
      replace O15 := O15.grown' G21 (fun q e e2 => nac q e e2)
      clear nac
      have nac := nac2
      clear nac2
      refine hK.out _ _ (hHeld.grown G21 hHeld.size (fun g e => (E16.lt g e).1)) (fun hHeld => ?_)
      clear hK K
      try simp only [Act.put, List.setIfInBounds_toArray, List.set_cons_zero, List.set_cons_succ]
      obtain ⟨a9, c9, rfl, _⟩ := own_len O9
      obtain ⟨a15, c15, rfl, _⟩ := own_len O15
      obtain ⟨a21, c21, rfl, _⟩ := own_len O21
      refine wpAnyH_take (i := 22) (v := .agg (rA b.R (.slice a9 b.L.length c9) (.slice a15 b.L.length c15) (.slice a21 b.G.length c21))) (by simp only [List.getElem?_toArray, List.getElem?_cons_zero, List.getElem?_cons_succ]; rfl) (by kernel_rfl) (by kernel_rfl) (by kernel_rfl) (by exact fun _ _ _ h => h) (Or.inl ⟨by rfl, fun w hSw => xl_build 60 (parts := [(0, .tmp 6), (1, .tmp 12), (2, .tmp 18), (3, .tmp 24)]) (hbl _ _ _ _ _ _) rfl⟩) (by assumption) ?_
      try simp only [Act.put, List.setIfInBounds_toArray, List.set_cons_zero, List.set_cons_succ]
      refine wpAnyH_ready (rs := [23]) (by kernel_rfl) (by simp) ?_
      refine AllReadyH.cons (by simp only [List.getElem?_toArray, List.getElem?_cons_zero, List.getElem?_cons_succ]; rfl) (fun K hK => ?_) AllReadyH.nil
      refine st_box 60 rfl rfl rfl ?_
      intro w23 X23 T23
      have hz23 := hHeld.size
      refine hK.out _ _ (ups hHeld T23 hHeld.size) (fun hHeld => ?_)
      clear hK K
      try simp only [Act.put, List.setIfInBounds_toArray, List.set_cons_zero, List.set_cons_succ]
      refine wpAnyH_take (i := 24) (v := ?_) (by simp only [List.getElem?_toArray, List.getElem?_cons_zero, List.getElem?_cons_succ]; rfl) (by kernel_rfl) (by kernel_rfl) (by kernel_rfl) (by exact fun _ _ _ h => h) (Or.inl ⟨by rfl, ?_⟩) (by assumption) ?_
      rotate_left
      · (intro w hSw; (try dsimp only at hSw); go_simp; (try with_reducible rfl))
      try simp only [Act.put, List.setIfInBounds_toArray, List.set_cons_zero, List.set_cons_succ]
      refine wpAnyH_done (by kernel_rfl) ?_ _
      go_wp2_with fail
      go_ret
      exact ⟨_, rfl, ⟨_, _, _, X23, hz23, own_below O9 T23, own_below O15 T23, own_below O21 T23, nac⟩, hHeld⟩
    refine AllReadyH.cons (by simp only [List.getElem?_toArray, List.getElem?_cons_zero, List.getElem?_cons_succ]; rfl) (fun K hK => ?_) AllReadyH.nil
    refine st_sl0 23 25 rfl rfl Try.underlying23 size25 ?_
    intro w16 X16 T16
    have E16 := own_empty (α := Cv) (s := 3) (f := fC) X16 hHeld.size
    replace E4 := own_below E4 T16
    refine hK.out _ _ (ups hHeld T16 hHeld.size) (fun hHeld => ?_)
    clear hK K
    try simp only [Act.put, List.setIfInBounds_toArray, List.set_cons_zero, List.set_cons_succ]
    refine wpAnyH_ready (rs := [9, 10]) (by kernel_rfl) (by simp) ?_
    refine AllReadyH.cons (by simp only [List.getElem?_toArray, List.getElem?_cons_zero, List.getElem?_cons_succ]; rfl) (fun K hK => ?_) ?_
    · refine step_joinN rowI cellsI rfl _ _ rfl w.heap.size 0 _ v1 [] (idsK b.L) 0 b.L.length rfl hl1h.out rfl E4 rfl (own_mono (own_below h.r1 hHeld) (Nat.zero_le _)) (by omega) hHeld.size ?_
      intro v109 w9 O9 G9 N9
      rw [List.nil_append, Nat.zero_add] at O9
      replace E16 := E16.grown' G9 (own_own E4 E16 (by decide))
      refine hK.out _ _ (hHeld.grown G9 hHeld.size (fun g e => (E4.lt g e).1)) (fun hHeld => ?_)
      clear hK K
      try simp only [Act.put, List.setIfInBounds_toArray, List.set_cons_zero, List.set_cons_succ]
      refine wpAnyH_ready (rs := [10]) (by kernel_rfl) (by simp) ?_
      refine AllReadyH.cons (by simp only [List.getElem?_toArray, List.getElem?_cons_zero, List.getElem?_cons_succ]; rfl) (fun K hK => ?_) AllReadyH.nil
      refine st_sl0 23 25 rfl rfl Try.underlying23 size25 ?_
      intro w10 X10 T10
      have nac := own_newL E16 (n' := 0) (c' := 0) (Nat.le_refl _)
      have E10 := own_empty (α := Cv) (s := 3) (f := fC) X10 hHeld.size
      replace O9 := own_below O9 T10
      replace E16 := own_below E16 T10
      refine hK.out _ _ (ups hHeld T10 hHeld.size) (fun hHeld => ?_)
      clear hK K
      try simp only [Act.put, List.setIfInBounds_toArray, List.set_cons_zero, List.set_cons_succ]
      refine wpAnyH_ready (rs := [15]) (by kernel_rfl) (by simp) ?_
      refine AllReadyH.cons (by simp only [List.getElem?_toArray, List.getElem?_cons_zero, List.getElem?_cons_succ]; rfl) (fun K hK => ?_) AllReadyH.nil
      refine step_joinN rowCv cellsC rfl _ _ rfl w.heap.size 0 _ v2 [] (cvsK b.L) 0 b.L.length rfl hl2h.out rfl E10 rfl (own_mono (own_below h.r2 hHeld) (Nat.zero_le _)) (by omega) hHeld.size ?_
      intro v115 w15 O15 G15 N15
      rw [List.nil_append, Nat.zero_add] at O15
      have nac2 := own_apL N15 nac E16
      replace O9 := O9.grown' G15 (own_own E10 O9 (by decide))
      replace E16 := E16.grown' G15 (fun q e e2 => nac q e2 e)
      clear nac
      have nac := nac2
      clear nac2
      refine hK.out _ _ (hHeld.grown G15 hHeld.size (fun g e => (E10.lt g e).1)) (fun hHeld => ?_)
      clear hK K
      try simp only [Act.put, List.setIfInBounds_toArray, List.set_cons_zero, List.set_cons_succ]
      refine wpAnyH_ready (rs := [21]) (by kernel_rfl) (by simp) ?_
      refine AllReadyH.cons (by simp only [List.getElem?_toArray, List.getElem?_cons_zero, List.getElem?_cons_succ]; rfl) (fun K hK => ?_) AllReadyH.nil
      refine step_joinN rowCv cellsC rfl _ _ rfl w.heap.size 0 _ v3 [] (b.G) 0 b.G.length rfl rfl rfl E16 rfl (own_mono (own_below h.r3 hHeld) (Nat.zero_le _)) (by omega) hHeld.size ?_
      intro v121 w21 O21 G21 N21
      rw [List.nil_append, Nat.zero_add] at O21
      have nac2 := own_apR N21 nac O15
      replace O9 := O9.grown' G21 (own_own E16 O9 (by decide))
      replace O15 := O15.grown' G21 (fun q e e2 => nac q e e2)
      clear nac
      have nac := nac2
      clear nac2
      refine hK.out _ _ (hHeld.grown G21 hHeld.size (fun g e => (E16.lt g e).1)) (fun hHeld => ?_)
      clear hK K
      try simp only [Act.put, List.setIfInBounds_toArray, List.set_cons_zero, List.set_cons_succ]
      obtain ⟨a9, c9, rfl, _⟩ := own_len O9
      obtain ⟨a15, c15, rfl, _⟩ := own_len O15
      obtain ⟨a21, c21, rfl, _⟩ := own_len O21
      refine wpAnyH_take (i := 22) (v := .agg (rA b.R (.slice a9 b.L.length c9) (.slice a15 b.L.length c15) (.slice a21 b.G.length c21))) (by simp only [List.getElem?_toArray, List.getElem?_cons_zero, List.getElem?_cons_succ]; rfl) (by kernel_rfl) (by kernel_rfl) (by kernel_rfl) (by exact fun _ _ _ h => h) (Or.inl ⟨by rfl, fun w hSw => xl_build 60 (parts := [(0, .tmp 6), (1, .tmp 12), (2, .tmp 18), (3, .tmp 24)]) (hbl _ _ _ _ _ _) rfl⟩) (by assumption) ?_
      try simp only [Act.put, List.setIfInBounds_toArray, List.set_cons_zero, List.set_cons_succ]
      refine wpAnyH_ready (rs := [23]) (by kernel_rfl) (by simp) ?_
      refine AllReadyH.cons (by simp only [List.getElem?_toArray, List.getElem?_cons_zero, List.getElem?_cons_succ]; rfl) (fun K hK => ?_) AllReadyH.nil
      refine st_box 60 rfl rfl rfl ?_
      intro w23 X23 T23
      have hz23 := hHeld.size
      refine hK.out _ _ (ups hHeld T23 hHeld.size) (fun hHeld => ?_)
      clear hK K
      try simp only [Act.put, List.setIfInBounds_toArray, List.set_cons_zero, List.set_cons_succ]
      refine wpAnyH_take (i := 24) (v := ?_) (by simp only [List.getElem?_toArray, List.getElem?_cons_zero, List.getElem?_cons_succ]; rfl) (by kernel_rfl) (by kernel_rfl) (by kernel_rfl) (by exact fun _ _ _ h => h) (Or.inl ⟨by rfl, ?_⟩) (by assumption) ?_
      rotate_left
      · (intro w hSw; (try dsimp only at hSw); go_simp; (try with_reducible rfl))
      try simp only [Act.put, List.setIfInBounds_toArray, List.set_cons_zero, List.set_cons_succ]
      refine wpAnyH_done (by kernel_rfl) ?_ _
      go_wp2_with fail
      go_ret
      exact ⟨_, rfl, ⟨_, _, _, X23, hz23, own_below O9 T23, own_below O15 T23, own_below O21 T23, nac⟩, hHeld⟩
    refine AllReadyH.cons (by simp only [List.getElem?_toArray, List.getElem?_cons_zero, List.getElem?_cons_succ]; rfl) (fun K hK => ?_) AllReadyH.nil
    refine st_sl0 23 25 rfl rfl Try.underlying23 size25 ?_
    intro w10 X10 T10
    have nac := own_newL E16 (n' := 0) (c' := 0) (Nat.le_refl _)
    have E10 := own_empty (α := Cv) (s := 3) (f := fC) X10 hHeld.size
    replace E4 := own_below E4 T10
    replace E16 := own_below E16 T10
    refine hK.out _ _ (ups hHeld T10 hHeld.size) (fun hHeld => ?_)
    clear hK K
    try simp only [Act.put, List.setIfInBounds_toArray, List.set_cons_zero, List.set_cons_succ]
    refine wpAnyH_ready (rs := [9]) (by kernel_rfl) (by simp) ?_
    refine AllReadyH.cons (by simp only [List.getElem?_toArray, List.getElem?_cons_zero, List.getElem?_cons_succ]; rfl) (fun K hK => ?_) AllReadyH.nil
    refine step_joinN rowI cellsI rfl _ _ rfl w.heap.size 0 _ v1 [] (idsK b.L) 0 b.L.length rfl hl1h.out rfl E4 rfl (own_mono (own_below h.r1 hHeld) (Nat.zero_le _)) (by omega) hHeld.size ?_
    intro v109 w9 O9 G9 N9
    rw [List.nil_append, Nat.zero_add] at O9
    replace E10 := E10.grown' G9 (own_own E4 E10 (by decide))
    replace E16 := E16.grown' G9 (own_own E4 E16 (by decide))
    refine hK.out _ _ (hHeld.grown G9 hHeld.size (fun g e => (E4.lt g e).1)) (fun hHeld => ?_)
    clear hK K
    try simp only [Act.put, List.setIfInBounds_toArray, List.set_cons_zero, List.set_cons_succ]
    refine wpAnyH_ready (rs := [15]) (by kernel_rfl) (by simp) ?_
    refine AllReadyH.cons (by simp only [List.getElem?_toArray, List.getElem?_cons_zero, List.getElem?_cons_succ]; rfl) (fun K hK => ?_) AllReadyH.nil
    refine step_joinN rowCv cellsC rfl _ _ rfl w.heap.size 0 _ v2 [] (cvsK b.L) 0 b.L.length rfl hl2h.out rfl E10 rfl (own_mono (own_below h.r2 hHeld) (Nat.zero_le _)) (by omega) hHeld.size ?_
    intro v115 w15 O15 G15 N15
    rw [List.nil_append, Nat.zero_add] at O15
    have nac2 := own_apL N15 nac E16
    replace O9 := O9.grown' G15 (own_own E10 O9 (by decide))
    replace E16 := E16.grown' G15 (fun q e e2 => nac q e2 e)
    clear nac
    have nac := nac2
    clear nac2
    refine hK.out _ _ (hHeld.grown G15 hHeld.size (fun g e => (E10.lt g e).1)) (fun hHeld => ?_)
    clear hK K
    try simp only [Act.put, List.setIfInBounds_toArray, List.set_cons_zero, List.set_cons_succ]
    refine wpAnyH_ready (rs := [21]) (by kernel_rfl) (by simp) ?_
    refine AllReadyH.cons (by simp only [List.getElem?_toArray, List.getElem?_cons_zero, List.getElem?_cons_succ]; rfl) (fun K hK => ?_) AllReadyH.nil
    refine step_joinN rowCv cellsC rfl _ _ rfl w.heap.size 0 _ v3 [] (b.G) 0 b.G.length rfl rfl rfl E16 rfl (own_mono (own_below h.r3 hHeld) (Nat.zero_le _)) (by omega) hHeld.size ?_
    intro v121 w21 O21 G21 N21
    rw [List.nil_append, Nat.zero_add] at O21
    have nac2 := own_apR N21 nac O15
    replace O9 := O9.grown' G21 (own_own E16 O9 (by decide))
    replace O15 := O15.grown' G21 (fun q e e2 => nac q e e2)
    clear nac
    have nac := nac2
    clear nac2
    refine hK.out _ _ (hHeld.grown G21 hHeld.size (fun g e => (E16.lt g e).1)) (fun hHeld => ?_)
    clear hK K
    try simp only [Act.put, List.setIfInBounds_toArray, List.set_cons_zero, List.set_cons_succ]
    obtain ⟨a9, c9, rfl, _⟩ := own_len O9
    obtain ⟨a15, c15, rfl, _⟩ := own_len O15
    obtain ⟨a21, c21, rfl, _⟩ := own_len O21
    refine wpAnyH_take (i := 22) (v := .agg (rA b.R (.slice a9 b.L.length c9) (.slice a15 b.L.length c15) (.slice a21 b.G.length c21))) (by simp only [List.getElem?_toArray, List.getElem?_cons_zero, List.getElem?_cons_succ]; rfl) (by kernel_rfl) (by kernel_rfl) (by kernel_rfl) (by exact fun _ _ _ h => h) (Or.inl ⟨by rfl, fun w hSw => xl_build 60 (parts := [(0, .tmp 6), (1, .tmp 12), (2, .tmp 18), (3, .tmp 24)]) (hbl _ _ _ _ _ _) rfl⟩) (by assumption) ?_
    try simp only [Act.put, List.setIfInBounds_toArray, List.set_cons_zero, List.set_cons_succ]
    refine wpAnyH_ready (rs := [23]) (by kernel_rfl) (by simp) ?_
    refine AllReadyH.cons (by simp only [List.getElem?_toArray, List.getElem?_cons_zero, List.getElem?_cons_succ]; rfl) (fun K hK => ?_) AllReadyH.nil
    refine st_box 60 rfl rfl rfl ?_
    intro w23 X23 T23
    have hz23 := hHeld.size
    refine hK.out _ _ (ups hHeld T23 hHeld.size) (fun hHeld => ?_)
    clear hK K
    try simp only [Act.put, List.setIfInBounds_toArray, List.set_cons_zero, List.set_cons_succ]
    refine wpAnyH_take (i := 24) (v := ?_) (by simp only [List.getElem?_toArray, List.getElem?_cons_zero, List.getElem?_cons_succ]; rfl) (by kernel_rfl) (by kernel_rfl) (by kernel_rfl) (by exact fun _ _ _ h => h) (Or.inl ⟨by rfl, ?_⟩) (by assumption) ?_
    rotate_left
    · (intro w hSw; (try dsimp only at hSw); go_simp; (try with_reducible rfl))
    try simp only [Act.put, List.setIfInBounds_toArray, List.set_cons_zero, List.set_cons_succ]
    refine wpAnyH_done (by kernel_rfl) ?_ _
    go_wp2_with fail
    go_ret
    exact ⟨_, rfl, ⟨_, _, _, X23, hz23, own_below O9 T23, own_below O15 T23, own_below O21 T23, nac⟩, hHeld⟩
  refine AllReadyH.cons (by simp only [List.getElem?_toArray, List.getElem?_cons_zero, List.getElem?_cons_succ]; rfl) (fun K hK => ?_) ?_
  · refine st_sl0 23 25 rfl rfl Try.underlying23 size25 ?_
    intro w10 X10 T10
    have E10 := own_empty (α := Cv) (s := 3) (f := fC) X10 hHeld.size
    refine hK.out _ _ (ups hHeld T10 hHeld.size) (fun hHeld => ?_)
    clear hK K
    try simp only [Act.put, List.setIfInBounds_toArray, List.set_cons_zero, List.set_cons_succ]
    refine wpAnyH_ready (rs := [4, 16]) (by kernel_rfl) (by simp) ?_
    refine AllReadyH.cons (by simp only [List.getElem?_toArray, List.getElem?_cons_zero, List.getElem?_cons_succ]; rfl) (fun K hK => ?_) ?_
    · refine st_sl0 48 3 rfl rfl Try.underlying48 size3 ?_
      intro w4 X4 T4
      have E4 := own_empty (α := Int) (s := 1) (f := fI) X4 hHeld.size
      replace E10 := own_below E10 T4
      refine hK.out _ _ (ups hHeld T4 hHeld.size) (fun hHeld => ?_)
      clear hK K
      try simp only [Act.put, List.setIfInBounds_toArray, List.set_cons_zero, List.set_cons_succ]
      refine wpAnyH_ready (rs := [9, 16]) (by kernel_rfl) (by simp) ?_
      refine AllReadyH.cons (by simp only [List.getElem?_toArray, List.getElem?_cons_zero, List.getElem?_cons_succ]; rfl) (fun K hK => ?_) ?_
      · refine step_joinN rowI cellsI rfl _ _ rfl w.heap.size 0 _ v1 [] (idsK b.L) 0 b.L.length rfl hl1h.out rfl E4 rfl (own_mono (own_below h.r1 hHeld) (Nat.zero_le _)) (by omega) hHeld.size ?_
        intro v109 w9 O9 G9 N9
        rw [List.nil_append, Nat.zero_add] at O9
        replace E10 := E10.grown' G9 (own_own E4 E10 (by decide))
        refine hK.out _ _ (hHeld.grown G9 hHeld.size (fun g e => (E4.lt g e).1)) (fun hHeld => ?_)
        clear hK K
        try simp only [Act.put, List.setIfInBounds_toArray, List.set_cons_zero, List.set_cons_succ]
        refine wpAnyH_ready (rs := [15, 16]) (by kernel_rfl) (by simp) ?_
        refine AllReadyH.cons (by simp only [List.getElem?_toArray, List.getElem?_cons_zero, List.getElem?_cons_succ]; rfl) (fun K hK => ?_) ?_
        · refine step_joinN rowCv cellsC rfl _ _ rfl w.heap.size 0 _ v2 [] (cvsK b.L) 0 b.L.length rfl hl2h.out rfl E10 rfl (own_mono (own_below h.r2 hHeld) (Nat.zero_le _)) (by omega) hHeld.size ?_
          intro v115 w15 O15 G15 N15
          rw [List.nil_append, Nat.zero_add] at O15
          replace O9 := O9.grown' G15 (own_own E10 O9 (by decide))
          refine hK.out _ _ (hHeld.grown G15 hHeld.size (fun g e => (E10.lt g e).1)) (fun hHeld => ?_)
          clear hK K
          try simp only [Act.put, List.setIfInBounds_toArray, List.set_cons_zero, List.set_cons_succ]
          refine wpAnyH_ready (rs := [16]) (by kernel_rfl) (by simp) ?_
          refine AllReadyH.cons (by simp only [List.getElem?_toArray, List.getElem?_cons_zero, List.getElem?_cons_succ]; rfl) (fun K hK => ?_) AllReadyH.nil
          refine st_sl0 23 25 rfl rfl Try.underlying23 size25 ?_
          intro w16 X16 T16
          have nac := own_newR O15 (n' := 0) (c' := 0) (Nat.le_refl _)
          have E16 := own_empty (α := Cv) (s := 3) (f := fC) X16 hHeld.size
          replace O9 := own_below O9 T16
          replace O15 := own_below O15 T16
          refine hK.out _ _ (ups hHeld T16 hHeld.size) (fun hHeld => ?_)
          clear hK K
          try simp only [Act.put, List.setIfInBounds_toArray, List.set_cons_zero, List.set_cons_succ]
          refine wpAnyH_ready (rs := [21]) (by kernel_rfl) (by simp) ?_
          refine AllReadyH.cons (by simp only [List.getElem?_toArray, List.getElem?_cons_zero, List.getElem?_cons_succ]; rfl) (fun K hK => ?_) AllReadyH.nil
          refine step_joinN rowCv cellsC rfl _ _ rfl w.heap.size 0 _ v3 [] (b.G) 0 b.G.length rfl rfl rfl E16 rfl (own_mono (own_below h.r3 hHeld) (Nat.zero_le _)) (by omega) hHeld.size ?_
          intro v121 w21 O21 G21 N21
          rw [List.nil_append, Nat.zero_add] at O21
          have nac2 := own_apR N21 nac O15
          replace O9 := O9.grown' G21 (own_own E16 O9 (by decide))
          replace O15 := O15.grown' G21 (fun q e e2 => nac q e e2)
          clear nac
          have nac := nac2
          clear nac2
          refine hK.out _ _ (hHeld.grown G21 hHeld.size (fun g e => (E16.lt g e).1)) (fun hHeld => ?_)
          clear hK K
          try simp only [Act.put, List.setIfInBounds_toArray, List.set_cons_zero, List.set_cons_succ]
          obtain ⟨a9, c9, rfl, _⟩ := own_len O9
          obtain ⟨a15, c15, rfl, _⟩ := own_len O15
          obtain ⟨a21, c21, rfl, _⟩ := own_len O21
          refine wpAnyH_take (i := 22) (v := .agg (rA b.R (.slice a9 b.L.length c9) (.slice a15 b.L.length c15) (.slice a21 b.G.length c21))) (by simp only [List.getElem?_toArray, List.getElem?_cons_zero, List.getElem?_cons_succ]; rfl) (by kernel_rfl) (by kernel_rfl) (by kernel_rfl) (by exact fun _ _ _ h => h) (Or.inl ⟨by rfl, fun w hSw => xl_build 60 (parts := [(0, .tmp 6), (1, .tmp 12), (2, .tmp 18), (3, .tmp 24)]) (hbl _ _ _ _ _ _) rfl⟩) (by assumption) ?_
          try simp only [Act.put, List.setIfInBounds_toArray, List.set_cons_zero, List.set_cons_succ]
          refine wpAnyH_ready (rs := [23]) (by kernel_rfl) (by simp) ?_
          refine AllReadyH.cons (by simp only [List.getElem?_toArray, List.getElem?_cons_zero, List.getElem?_cons_succ]; rfl) (fun K hK => ?_) AllReadyH.nil
          refine st_box 60 rfl rfl rfl ?_
          intro w23 X23 T23
          have hz23 := hHeld.size
          refine hK.out _ _ (ups hHeld T23 hHeld.size) (fun hHeld => ?_)
          clear hK K
          try simp only [Act.put, List.setIfInBounds_toArray, List.set_cons_zero, List.set_cons_succ]
          refine wpAnyH_take (i := 24) (v := ?_) (by simp only [List.getElem?_toArray, List.getElem?_cons_zero, List.getElem?_cons_succ]; rfl) (by kernel_rfl) (by kernel_rfl) (by kernel_rfl) (by exact fun _ _ _ h => h) (Or.inl ⟨by rfl, ?_⟩) (by assumption) ?_
          rotate_left
          · (intro w hSw; (try dsimp only at hSw); go_simp; (try with_reducible rfl))
          try simp only [Act.put, List.setIfInBounds_toArray, List.set_cons_zero, List.set_cons_succ]
          refine wpAnyH_done (by kernel_rfl) ?_ _
          go_wp2_with fail
          go_ret
          exact ⟨_, rfl, ⟨_, _, _, X23, hz23, own_below O9 T23, own_below O15 T23, own_below O21 T23, nac⟩, hHeld⟩
        refine AllReadyH.cons (by simp only [List.getElem?_toArray, List.getElem?_cons_zero, List.getElem?_cons_succ]; rfl) (fun K hK => ?_) AllReadyH.nil
        refine st_sl0 23 25 rfl rfl Try.underlying23 size25 ?_
        intro w16 X16 T16
        have nac := own_newR E10 (n' := 0) (c' := 0) (Nat.le_refl _)
        have E16 := own_empty (α := Cv) (s := 3) (f := fC) X16 hHeld.size
        replace O9 := own_below O9 T16
        replace E10 := own_below E10 T16
        refine hK.out _ _ (ups hHeld T16 hHeld.size) (fun hHeld => ?_)
        clear hK K
        try simp only [Act.put, List.setIfInBounds_toArray, List.set_cons_zero, List.set_cons_succ]
        refine wpAnyH_ready (rs := [15]) (by kernel_rfl) (by simp) ?_
        refine AllReadyH.cons (by simp only [List.getElem?_toArray, List.getElem?_cons_zero, List.getElem?_cons_succ]; rfl) (fun K hK => ?_) AllReadyH.nil
        refine step_joinN rowCv cellsC rfl _ _ rfl w.heap.size 0 _ v2 [] (cvsK b.L) 0 b.L.length rfl hl2h.out rfl E10 rfl (own_mono (own_below h.r2 hHeld) (Nat.zero_le _)) (by omega) hHeld.size ?_
        intro v115 w15 O15 G15 N15
        rw [List.nil_append, Nat.zero_add] at O15
        have nac2 := own_apL N15 nac E16
        replace O9 := O9.grown' G15 (own_own E10 O9 (by decide))
        replace E16 := E16.grown' G15 (fun q e e2 => nac q e2 e)
        clear nac
        have nac := nac2
        clear nac2
        refine hK.out _ _ (hHeld.grown G15 hHeld.size (fun g e => (E10.lt g e).1)) (fun hHeld => ?_)
        clear hK K
        try simp only [Act.put, List.setIfInBounds_toArray, List.set_cons_zero, List.set_cons_succ]
        refine wpAnyH_ready (rs := [21]) (by kernel_rfl) (by simp) ?_
        refine AllReadyH.cons (by simp only [List.getElem?_toArray, List.getElem?_cons_zero, List.getElem?_cons_succ]; rfl) (fun K hK => ?_) AllReadyH.nil
        refine step_joinN rowCv cellsC rfl _ _ rfl w.heap.size 0 _ v3 [] (b.G) 0 b.G.length rfl rfl rfl E16 rfl (own_mono (own_below h.r3 hHeld) (Nat.zero_le _)) (by omega) hHeld.size ?_
        intro v121 w21 O21 G21 N21
        rw [List.nil_append, Nat.zero_add] at O21
        have nac2 := own_apR N21 nac O15
        replace O9 := O9.grown' G21 (own_own E16 O9 (by decide))
        replace O15 := O15.grown' G21 (fun q e e2 => nac q e e2)
        clear nac
        have nac := nac2
        clear nac2
        refine hK.out _ _ (hHeld.grown G21 hHeld.size (fun g e => (E16.lt g e).1)) (fun hHeld => ?_)
        clear hK K
        try simp only [Act.put, List.setIfInBounds_toArray, List.set_cons_zero, List.set_cons_succ]
        obtain ⟨a9, c9, rfl, _⟩ := own_len O9
        obtain ⟨a15, c15, rfl, _⟩ := own_len O15
        obtain ⟨a21, c21, rfl, _⟩ := own_len O21
        refine wpAnyH_take (i := 22) (v := .agg (rA b.R (.slice a9 b.L.length c9) (.slice a15 b.L.length c15) (.slice a21 b.G.length c21))) (by simp only [List.getElem?_toArray, List.getElem?_cons_zero, List.getElem?_cons_succ]; rfl) (by kernel_rfl) (by kernel_rfl) (by kernel_rfl) (by exact fun _ _ _ h => h) (Or.inl ⟨by rfl, fun w hSw => xl_build 60 (parts := [(0, .tmp 6), (1, .tmp 12), (2, .tmp 18), (3, .tmp 24)]) (hbl _ _ _ _ _ _) rfl⟩) (by assumption) ?_
        try simp only [Act.put, List.setIfInBounds_toArray, List.set_cons_zero, List.set_cons_succ]
        refine wpAnyH_ready (rs := [23]) (by kernel_rfl) (by simp) ?_
        refine AllReadyH.cons (by simp only [List.getElem?_toArray, List.getElem?_cons_zero, List.getElem?_cons_succ]; rfl) (fun K hK => ?_) AllReadyH.nil
        refine st_box 60 rfl rfl rfl ?_
        intro w23 X23 T23
        have hz23 := hHeld.size
        refine hK.out _ _ (ups hHeld T23 hHeld.size) (fun hHeld => ?_)
        clear hK K
        try simp only [Act.put, List.setIfInBounds_toArray, List.set_cons_zero, List.set_cons_succ]
        refine wpAnyH_take (i := 24) (v := ?_) (by simp only [List.getElem?_toArray, List.getElem?_cons_zero, List.getElem?_cons_succ]; rfl) (by kernel_rfl) (by kernel_rfl) (by kernel_rfl) (by exact fun _ _ _ h => h) (Or.inl ⟨by rfl, ?_⟩) (by assumption) ?_
        rotate_left
        · (intro w hSw; (try dsimp only at hSw); go_simp; (try with_reducible rfl))
        try simp only [Act.put, List.setIfInBounds_toArray, List.set_cons_zero, List.set_cons_succ]
        refine wpAnyH_done (by kernel_rfl) ?_ _
        go_wp2_with fail
        go_ret
        exact ⟨_, rfl, ⟨_, _, _, X23, hz23, own_below O9 T23, own_below O15 T23, own_below O21 T23, nac⟩, hHeld⟩
      refine AllReadyH.cons (by simp only [List.getElem?_toArray, List.getElem?_cons_zero, List.getElem?_cons_succ]; rfl) (fun K hK => ?_) AllReadyH.nil
      refine st_sl0 23 25 rfl rfl Try.underlying23 size25 ?_
      intro w16 X16 T16
      have nac := own_newR E10 (n' := 0) (c' := 0) (Nat.le_refl _)
      have E16 := own_empty (α := Cv) (s := 3) (f := fC) X16 hHeld.size
      replace E4 := own_below E4 T16
      replace E10 := own_below E10 T16
      refine hK.out _ _ (ups hHeld T16 hHeld.size) (fun hHeld => ?_)
      clear hK K
      try simp only [Act.put, List.setIfInBounds_toArray, List.set_cons_zero, List.set_cons_succ]
      refine wpAnyH_ready (rs := [9]) (by kernel_rfl) (by simp) ?_
      refine AllReadyH.cons (by simp only [List.getElem?_toArray, List.getElem?_cons_zero, List.getElem?_cons_succ]; rfl) (fun K hK => ?_) AllReadyH.nil
      refine step_joinN rowI cellsI rfl _ _ rfl w.heap.size 0 _ v1 [] (idsK b.L) 0 b.L.length rfl hl1h.out rfl E4 rfl (own_mono (own_below h.r1 hHeld) (Nat.zero_le _)) (by omega) hHeld.size ?_
      intro v109 w9 O9 G9 N9
      rw [List.nil_append, Nat.zero_add] at O9
      replace E10 := E10.grown' G9 (own_own E4 E10 (by decide))
      replace E16 := E16.grown' G9 (own_own E4 E16 (by decide))
      refine hK.out _ _ (hHeld.grown G9 hHeld.size (fun g e => (E4.lt g e).1)) (fun hHeld => ?_)
      clear hK K
      try simp only [Act.put, List.setIfInBounds_toArray, List.set_cons_zero, List.set_cons_succ]
      refine wpAnyH_ready (rs := [15]) (by kernel_rfl) (by simp) ?_
      refine AllReadyH.cons (by simp only [List.getElem?_toArray, List.getElem?_cons_zero, List.getElem?_cons_succ]; rfl) (fun K hK => ?_) AllReadyH.nil
      refine step_joinN rowCv cellsC rfl _ _ rfl w.heap.size 0 _ v2 [] (cvsK b.L) 0 b.L.length rfl hl2h.out rfl E10 rfl (own_mono (own_below h.r2 hHeld) (Nat.zero_le _)) (by omega) hHeld.size ?_
      intro v115 w15 O15 G15 N15
      rw [List.nil_append, Nat.zero_add] at O15
      have nac2 := own_apL N15 nac E16
      replace O9 := O9.grown' G15 (own_own E10 O9 (by decide))
      replace E16 := E16.grown' G15 (fun q e e2 => nac q e2 e)
      clear nac
      have nac := nac2
      clear nac2
      refine hK.out _ _ (hHeld.grown G15 hHeld.size (fun g e => (E10.lt g e).1)) (fun hHeld => ?_)
      clear hK K
      try simp only [Act.put, List.setIfInBounds_toArray, List.set_cons_zero, List.set_cons_succ]
      refine wpAnyH_ready (rs := [21]) (by kernel_rfl) (by simp) ?_
      refine AllReadyH.cons (by simp only [List.getElem?_toArray, List.getElem?_cons_zero, List.getElem?_cons_succ]; rfl) (fun K hK => ?_) AllReadyH.nil
      refine step_joinN rowCv cellsC rfl _ _ rfl w.heap.size 0 _ v3 [] (b.G) 0 b.G.length rfl rfl rfl E16 rfl (own_mono (own_below h.r3 hHeld) (Nat.zero_le _)) (by omega) hHeld.size ?_
      intro v121 w21 O21 G21 N21
      rw [List.nil_append, Nat.zero_add] at O21
      have nac2 := own_apR N21 nac O15
      replace O9 := O9.grown' G21 (own_own E16 O9 (by decide))
      replace O15 := O15.grown' G21 (fun q e e2 => nac q e e2)
      clear nac
      have nac := nac2
      clear nac2
      refine hK.out _ _ (hHeld.grown G21 hHeld.size (fun g e => (E16.lt g e).1)) (fun hHeld => ?_)
      clear hK K
      try simp only [Act.put, List.setIfInBounds_toArray, List.set_cons_zero, List.set_cons_succ]
      obtain ⟨a9, c9, rfl, _⟩ := own_len O9
      obtain ⟨a15, c15, rfl, _⟩ := own_len O15
      obtain ⟨a21, c21, rfl, _⟩ := own_len O21
      refine wpAnyH_take (i := 22) (v := .agg (rA b.R (.slice a9 b.L.length c9) (.slice a15 b.L.length c15) (.slice a21 b.G.length c21))) (by simp only [List.getElem?_toArray, List.getElem?_cons_zero, List.getElem?_cons_succ]; rfl) (by kernel_rfl) (by kernel_rfl) (by kernel_rfl) (by exact fun _ _ _ h => h) (Or.inl ⟨by rfl, fun w hSw => xl_build 60 (parts := [(0, .tmp 6), (1, .tmp 12), (2, .tmp 18), (3, .tmp 24)]) (hbl _ _ _ _ _ _) rfl⟩) (by assumption) ?_
      try simp only [Act.put, List.setIfInBounds_toArray, List.set_cons_zero, List.set_cons_succ]
      refine wpAnyH_ready (rs := [23]) (by kernel_rfl) (by simp) ?_
      refine AllReadyH.cons (by simp only [List.getElem?_toArray, List.getElem?_cons_zero, List.getElem?_cons_succ]; rfl) (fun K hK => ?_) AllReadyH.nil
      refine st_box 60 rfl rfl rfl ?_
      intro w23 X23 T23
      have hz23 := hHeld.size
      refine hK.out _ _ (ups hHeld T23 hHeld.size) (fun hHeld => ?_)
      clear hK K
      try simp only [Act.put, List.setIfInBounds_toArray, List.set_cons_zero, List.set_cons_succ]
      refine wpAnyH_take (i := 24) (v := ?_) (by simp only [List.getElem?_toArray, List.getElem?_cons_zero, List.getElem?_cons_succ]; rfl) (by kernel_rfl) (by kernel_rfl) (by kernel_rfl) (by exact fun _ _ _ h => h) (Or.inl ⟨by rfl, ?_⟩) (by assumption) ?_
      rotate_left
      · (intro w hSw; (try dsimp only at hSw); go_simp; (try with_reducible rfl))
      try simp only [Act.put, List.setIfInBounds_toArray, List.set_cons_zero, List.set_cons_succ]
      refine wpAnyH_done (by kernel_rfl) ?_ _
      go_wp2_with fail
      go_ret
      exact ⟨_, rfl, ⟨_, _, _, X23, hz23, own_below O9 T23, own_below O15 T23, own_below O21 T23, nac⟩, hHeld⟩
    refine AllReadyH.cons (by simp only [List.getElem?_toArray, List.getElem?_cons_zero, List.getElem?_cons_succ]; rfl) (fun K hK => ?_) AllReadyH.nil
    refine st_sl0 23 25 rfl rfl Try.underlying23 size25 ?_
    intro w16 X16 T16
    have nac := own_newR E10 (n' := 0) (c' := 0) (Nat.le_refl _)
    have E16 := own_empty (α := Cv) (s := 3) (f := fC) X16 hHeld.size
    replace E10 := own_below E10 T16
    refine hK.out _ _ (ups hHeld T16 hHeld.size) (fun hHeld => ?_)
    clear hK K
    try simp only [Act.put, List.setIfInBounds_toArray, List.set_cons_zero, List.set_cons_succ]
    refine wpAnyH_ready (rs := [4]) (by kernel_rfl) (by simp) ?_
    refine AllReadyH.cons (by simp only [List.getElem?_toArray, List.getElem?_cons_zero, List.getElem?_cons_succ]; rfl) (fun K hK => ?_) AllReadyH.nil
    refine st_sl0 48 3 rfl rfl Try.underlying48 size3 ?_
    intro w4 X4 T4
    have E4 := own_empty (α := Int) (s := 1) (f := fI) X4 hHeld.size
    replace E10 := own_below E10 T4
    replace E16 := own_below E16 T4
    refine hK.out _ _ (ups hHeld T4 hHeld.size) (fun hHeld => ?_)
    clear hK K
    try simp only [Act.put, List.setIfInBounds_toArray, List.set_cons_zero, List.set_cons_succ]
    refine wpAnyH_ready (rs := [9]) (by kernel_rfl) (by simp) ?_
    refine AllReadyH.cons (by simp only [List.getElem?_toArray, List.getElem?_cons_zero, List.getElem?_cons_succ]; rfl) (fun K hK => ?_) AllReadyH.nil
    refine step_joinN rowI cellsI rfl _ _ rfl w.heap.size 0 _ v1 [] (idsK b.L) 0 b.L.length rfl hl1h.out rfl E4 rfl (own_mono (own_below h.r1 hHeld) (Nat.zero_le _)) (by omega) hHeld.size ?_
    intro v109 w9 O9 G9 N9
    rw [List.nil_append, Nat.zero_add] at O9
    replace E10 := E10.grown' G9 (own_own E4 E10 (by decide))
    replace E16 := E16.grown' G9 (own_own E4 E16 (by decide))
    refine hK.out _ _ (hHeld.grown G9 hHeld.size (fun g e => (E4.lt g e).1)) (fun hHeld => ?_)
    clear hK K
    try simp only [Act.put, List.setIfInBounds_toArray, List.set_cons_zero, List.set_cons_succ]
    refine wpAnyH_ready (rs := [15]) (by kernel_rfl) (by simp) ?_
    refine AllReadyH.cons (by simp only [List.getElem?_toArray, List.getElem?_cons_zero, List.getElem?_cons_succ]; rfl) (fun K hK => ?_) AllReadyH.nil
    refine step_joinN rowCv cellsC rfl _ _ rfl w.heap.size 0 _ v2 [] (cvsK b.L) 0 b.L.length rfl hl2h.out rfl E10 rfl (own_mono (own_below h.r2 hHeld) (Nat.zero_le _)) (by omega) hHeld.size ?_
    intro v115 w15 O15 G15 N15
    rw [List.nil_append, Nat.zero_add] at O15
    have nac2 := own_apL N15 nac E16
    replace O9 := O9.grown' G15 (own_own E10 O9 (by decide))
    replace E16 := E16.grown' G15 (fun q e e2 => nac q e2 e)
    clear nac
    have nac := nac2
    clear nac2
    refine hK.out _ _ (hHeld.grown G15 hHeld.size (fun g e => (E10.lt g e).1)) (fun hHeld => ?_)
    clear hK K
    try simp only [Act.put, List.setIfInBounds_toArray, List.set_cons_zero, List.set_cons_succ]
    refine wpAnyH_ready (rs := [21]) (by kernel_rfl) (by simp) ?_
    refine AllReadyH.cons (by simp only [List.getElem?_toArray, List.getElem?_cons_zero, List.getElem?_cons_succ]; rfl) (fun K hK => ?_) AllReadyH.nil
    refine step_joinN rowCv cellsC rfl _ _ rfl w.heap.size 0 _ v3 [] (b.G) 0 b.G.length rfl rfl rfl E16 rfl (own_mono (own_below h.r3 hHeld) (Nat.zero_le _)) (by omega) hHeld.size ?_
    intro v121 w21 O21 G21 N21
    rw [List.nil_append, Nat.zero_add] at O21
    have nac2 := own_apR N21 nac O15
    replace O9 := O9.grown' G21 (own_own E16 O9 (by decide))
    replace O15 := O15.grown' G21 (fun q e e2 => nac q e e2)
    clear nac
    have nac := nac2
    clear nac2
    refine hK.out _ _ (hHeld.grown G21 hHeld.size (fun g e => (E16.lt g e).1)) (fun hHeld => ?_)
    clear hK K
    try simp only [Act.put, List.setIfInBounds_toArray, List.set_cons_zero, List.set_cons_succ]
    obtain ⟨a9, c9, rfl, _⟩ := own_len O9
    obtain ⟨a15, c15, rfl, _⟩ := own_len O15
    obtain ⟨a21, c21, rfl, _⟩ := own_len O21
    refine wpAnyH_take (i := 22) (v := .agg (rA b.R (.slice a9 b.L.length c9) (.slice a15 b.L.length c15) (.slice a21 b.G.length c21))) (by simp only [List.getElem?_toArray, List.getElem?_cons_zero, List.getElem?_cons_succ]; rfl) (by kernel_rfl) (by kernel_rfl) (by kernel_rfl) (by exact fun _ _ _ h => h) (Or.inl ⟨by rfl, fun w hSw => xl_build 60 (parts := [(0, .tmp 6), (1, .tmp 12), (2, .tmp 18), (3, .tmp 24)]) (hbl _ _ _ _ _ _) rfl⟩) (by assumption) ?_
    try simp only [Act.put, List.setIfInBounds_toArray, List.set_cons_zero, List.set_cons_succ]
    refine wpAnyH_ready (rs := [23]) (by kernel_rfl) (by simp) ?_
    refine AllReadyH.cons (by simp only [List.getElem?_toArray, List.getElem?_cons_zero, List.getElem?_cons_succ]; rfl) (fun K hK => ?_) AllReadyH.nil
    refine st_box 60 rfl rfl rfl ?_
    intro w23 X23 T23
    have hz23 := hHeld.size
    refine hK.out _ _ (ups hHeld T23 hHeld.size) (fun hHeld => ?_)
    clear hK K
    try simp only [Act.put, List.setIfInBounds_toArray, List.set_cons_zero, List.set_cons_succ]
    refine wpAnyH_take (i := 24) (v := ?_) (by simp only [List.getElem?_toArray, List.getElem?_cons_zero, List.getElem?_cons_succ]; rfl) (by kernel_rfl) (by kernel_rfl) (by kernel_rfl) (by exact fun _ _ _ h => h) (Or.inl ⟨by rfl, ?_⟩) (by assumption) ?_
    rotate_left
    · (intro w hSw; (try dsimp only at hSw); go_simp; (try with_reducible rfl))
    try simp only [Act.put, List.setIfInBounds_toArray, List.set_cons_zero, List.set_cons_succ]
    refine wpAnyH_done (by kernel_rfl) ?_ _
    go_wp2_with fail
    go_ret
    exact ⟨_, rfl, ⟨_, _, _, X23, hz23, own_below O9 T23, own_below O15 T23, own_below O21 T23, nac⟩, hHeld⟩
  refine AllReadyH.cons (by simp only [List.getElem?_toArray, List.getElem?_cons_zero, List.getElem?_cons_succ]; rfl) (fun K hK => ?_) AllReadyH.nil
  refine st_sl0 23 25 rfl rfl Try.underlying23 size25 ?_
  intro w16 X16 T16
  have E16 := own_empty (α := Cv) (s := 3) (f := fC) X16 hHeld.size
  refine hK.out _ _ (ups hHeld T16 hHeld.size) (fun hHeld => ?_)
  clear hK K
  try simp only [Act.put, List.setIfInBounds_toArray, List.set_cons_zero, List.set_cons_succ]
  refine wpAnyH_ready (rs := [4, 10]) (by kernel_rfl) (by simp) ?_
  refine AllReadyH.cons (by simp only [List.getElem?_toArray, List.getElem?_cons_zero, List.getElem?_cons_succ]; rfl) (fun K hK => ?_) ?_
  · refine st_sl0 48 3 rfl rfl Try.underlying48 size3 ?_
    intro w4 X4 T4
    have E4 := own_empty (α := Int) (s := 1) (f := fI) X4 hHeld.size
    replace E16 := own_below E16 T4
    refine hK.out _ _ (ups hHeld T4 hHeld.size) (fun hHeld => ?_)
    clear hK K
    try simp only [Act.put, List.setIfInBounds_toArray, List.set_cons_zero, List.set_cons_succ]
    refine wpAnyH_ready (rs := [9, 10]) (by kernel_rfl) (by simp) ?_
    refine AllReadyH.cons (by simp only [List.getElem?_toArray, List.getElem?_cons_zero, List.getElem?_cons_succ]; rfl) (fun K hK => ?_) ?_
    · refine step_joinN rowI cellsI rfl _ _ rfl w.heap.size 0 _ v1 [] (idsK b.L) 0 b.L.length rfl hl1h.out rfl E4 rfl (own_mono (own_below h.r1 hHeld) (Nat.zero_le _)) (by omega) hHeld.size ?_
      intro v109 w9 O9 G9 N9
      rw [List.nil_append, Nat.zero_add] at O9
      replace E16 := E16.grown' G9 (own_own E4 E16 (by decide))
      refine hK.out _ _ (hHeld.grown G9 hHeld.size (fun g e => (E4.lt g e).1)) (fun hHeld => ?_)
      clear hK K
      try simp only [Act.put, List.setIfInBounds_toArray, List.set_cons_zero, List.set_cons_succ]
      refine wpAnyH_ready (rs := [10]) (by kernel_rfl) (by simp) ?_
      refine AllReadyH.cons (by simp only [List.getElem?_toArray, List.getElem?_cons_zero, List.getElem?_cons_succ]; rfl) (fun K hK => ?_) AllReadyH.nil
      refine st_sl0 23 25 rfl rfl Try.underlying23 size25 ?_
      intro w10 X10 T10
      have nac := own_newL E16 (n' := 0) (c' := 0) (Nat.le_refl _)
      have E10 := own_empty (α := Cv) (s := 3) (f := fC) X10 hHeld.size
      replace O9 := own_below O9 T10
      replace E16 := own_below E16 T10
      refine hK.out _ _ (ups hHeld T10 hHeld.size) (fun hHeld => ?_)
      clear hK K
      try simp only [Act.put, List.setIfInBounds_toArray, List.set_cons_zero, List.set_cons_succ]
      refine wpAnyH_ready (rs := [15]) (by kernel_rfl) (by simp) ?_
      refine AllReadyH.cons (by simp only [List.getElem?_toArray, List.getElem?_cons_zero, List.getElem?_cons_succ]; rfl) (fun K hK => ?_) AllReadyH.nil
      refine step_joinN rowCv cellsC rfl _ _ rfl w.heap.size 0 _ v2 [] (cvsK b.L) 0 b.L.length rfl hl2h.out rfl E10 rfl (own_mono (own_below h.r2 hHeld) (Nat.zero_le _)) (by omega) hHeld.size ?_
      intro v115 w15 O15 G15 N15
      rw [List.nil_append, Nat.zero_add] at O15
      have nac2 := own_apL N15 nac E16
      replace O9 := O9.grown' G15 (own_own E10 O9 (by decide))
      replace E16 := E16.grown' G15 (fun q e e2 => nac q e2 e)
      clear nac
      have nac := nac2
      clear nac2
      refine hK.out _ _ (hHeld.grown G15 hHeld.size (fun g e => (E10.lt g e).1)) (fun hHeld => ?_)
      clear hK K
      try simp only [Act.put, List.setIfInBounds_toArray, List.set_cons_zero, List.set_cons_succ]
      refine wpAnyH_ready (rs := [21]) (by kernel_rfl) (by simp) ?_
      refine AllReadyH.cons (by simp only [List.getElem?_toArray, List.getElem?_cons_zero, List.getElem?_cons_succ]; rfl) (fun K hK => ?_) AllReadyH.nil
      refine step_joinN rowCv cellsC rfl _ _ rfl w.heap.size 0 _ v3 [] (b.G) 0 b.G.length rfl rfl rfl E16 rfl (own_mono (own_below h.r3 hHeld) (Nat.zero_le _)) (by omega) hHeld.size ?_
      intro v121 w21 O21 G21 N21
      rw [List.nil_append, Nat.zero_add] at O21
      have nac2 := own_apR N21 nac O15
      replace O9 := O9.grown' G21 (own_own E16 O9 (by decide))
      replace O15 := O15.grown' G21 (fun q e e2 => nac q e e2)
      clear nac
      have nac := nac2
      clear nac2
      refine hK.out _ _ (hHeld.grown G21 hHeld.size (fun g e => (E16.lt g e).1)) (fun hHeld => ?_)
      clear hK K
      try simp only [Act.put, List.setIfInBounds_toArray, List.set_cons_zero, List.set_cons_succ]
      obtain ⟨a9, c9, rfl, _⟩ := own_len O9
      obtain ⟨a15, c15, rfl, _⟩ := own_len O15
      obtain ⟨a21, c21, rfl, _⟩ := own_len O21
      refine wpAnyH_take (i := 22) (v := .agg (rA b.R (.slice a9 b.L.length c9) (.slice a15 b.L.length c15) (.slice a21 b.G.length c21))) (by simp only [List.getElem?_toArray, List.getElem?_cons_zero, List.getElem?_cons_succ]; rfl) (by kernel_rfl) (by kernel_rfl) (by kernel_rfl) (by exact fun _ _ _ h => h) (Or.inl ⟨by rfl, fun w hSw => xl_build 60 (parts := [(0, .tmp 6), (1, .tmp 12), (2, .tmp 18), (3, .tmp 24)]) (hbl _ _ _ _ _ _) rfl⟩) (by assumption) ?_
      try simp only [Act.put, List.setIfInBounds_toArray, List.set_cons_zero, List.set_cons_succ]
      refine wpAnyH_ready (rs := [23]) (by kernel_rfl) (by simp) ?_
      refine AllReadyH.cons (by simp only [List.getElem?_toArray, List.getElem?_cons_zero, List.getElem?_cons_succ]; rfl) (fun K hK => ?_) AllReadyH.nil
      refine st_box 60 rfl rfl rfl ?_
      intro w23 X23 T23
      have hz23 := hHeld.size
      refine hK.out _ _ (ups hHeld T23 hHeld.size) (fun hHeld => ?_)
      clear hK K
      try simp only [Act.put, List.setIfInBounds_toArray, List.set_cons_zero, List.set_cons_succ]
      refine wpAnyH_take (i := 24) (v := ?_) (by simp only [List.getElem?_toArray, List.getElem?_cons_zero, List.getElem?_cons_succ]; rfl) (by kernel_rfl) (by kernel_rfl) (by kernel_rfl) (by exact fun _ _ _ h => h) (Or.inl ⟨by rfl, ?_⟩) (by assumption) ?_
      rotate_left
      · (intro w hSw; (try dsimp only at hSw); go_simp; (try with_reducible rfl))
      try simp only [Act.put, List.setIfInBounds_toArray, List.set_cons_zero, List.set_cons_succ]
      refine wpAnyH_done (by kernel_rfl) ?_ _
      go_wp2_with fail
      go_ret
      exact ⟨_, rfl, ⟨_, _, _, X23, hz23, own_below O9 T23, own_below O15 T23, own_below O21 T23, nac⟩, hHeld⟩
    refine AllReadyH.cons (by simp only [List.getElem?_toArray, List.getElem?_cons_zero, List.getElem?_cons_succ]; rfl) (fun K hK => ?_) AllReadyH.nil
    refine st_sl0 23 25 rfl rfl Try.underlying23 size25 ?_
    intro w10 X10 T10
    have nac := own_newL E16 (n' := 0) (c' := 0) (Nat.le_refl _)
    have E10 := own_empty (α := Cv) (s := 3) (f := fC) X10 hHeld.size
    replace E4 := own_below E4 T10
    replace E16 := own_below E16 T10
    refine hK.out _ _ (ups hHeld T10 hHeld.size) (fun hHeld => ?_)
    clear hK K
    try simp only [Act.put, List.setIfInBounds_toArray, List.set_cons_zero, List.set_cons_succ]
    refine wpAnyH_ready (rs := [9]) (by kernel_rfl) (by simp) ?_
    refine AllReadyH.cons (by simp only [List.getElem?_toArray, List.getElem?_cons_zero, List.getElem?_cons_succ]; rfl) (fun K hK => ?_) AllReadyH.nil
    refine step_joinN rowI cellsI rfl _ _ rfl w.heap.size 0 _ v1 [] (idsK b.L) 0 b.L.length rfl hl1h.out rfl E4 rfl (own_mono (own_below h.r1 hHeld) (Nat.zero_le _)) (by omega) hHeld.size ?_
    intro v109 w9 O9 G9 N9
    rw [List.nil_append, Nat.zero_add] at O9
    replace E10 := E10.grown' G9 (own_own E4 E10 (by decide))
    replace E16 := E16.grown' G9 (own_own E4 E16 (by decide))
    refine hK.out _ _ (hHeld.grown G9 hHeld.size (fun g e => (E4.lt g e).1)) (fun hHeld => ?_)
    clear hK K
    try simp only [Act.put, List.setIfInBounds_toArray, List.set_cons_zero, List.set_cons_succ]
    refine wpAnyH_ready (rs := [15]) (by kernel_rfl) (by simp) ?_
    refine AllReadyH.cons (by simp only [List.getElem?_toArray, List.getElem?_cons_zero, List.getElem?_cons_succ]; rfl) (fun K hK => ?_) AllReadyH.nil
    refine step_joinN rowCv cellsC rfl _ _ rfl w.heap.size 0 _ v2 [] (cvsK b.L) 0 b.L.length rfl hl2h.out rfl E10 rfl (own_mono (own_below h.r2 hHeld) (Nat.zero_le _)) (by omega) hHeld.size ?_
    intro v115 w15 O15 G15 N15
    rw [List.nil_append, Nat.zero_add] at O15
    have nac2 := own_apL N15 nac E16
    replace O9 := O9.grown' G15 (own_own E10 O9 (by decide))
    replace E16 := E16.grown' G15 (fun q e e2 => nac q e2 e)
    clear nac
    have nac := nac2
    clear nac2
    refine hK.out _ _ (hHeld.grown G15 hHeld.size (fun g e => (E10.lt g e).1)) (fun hHeld => ?_)
    clear hK K
    try simp only [Act.put, List.setIfInBounds_toArray, List.set_cons_zero, List.set_cons_succ]
    refine wpAnyH_ready (rs := [21]) (by kernel_rfl) (by simp) ?_
    refine AllReadyH.cons (by simp only [List.getElem?_toArray, List.getElem?_cons_zero, List.getElem?_cons_succ]; rfl) (fun K hK => ?_) AllReadyH.nil
    refine step_joinN rowCv cellsC rfl _ _ rfl w.heap.size 0 _ v3 [] (b.G) 0 b.G.length rfl rfl rfl E16 rfl (own_mono (own_below h.r3 hHeld) (Nat.zero_le _)) (by omega) hHeld.size ?_
    intro v121 w21 O21 G21 N21
    rw [List.nil_append, Nat.zero_add] at O21
    have nac2 := own_apR N21 nac O15
    replace O9 := O9.grown' G21 (own_own E16 O9 (by decide))
    replace O15 := O15.grown' G21 (fun q e e2 => nac q e e2)
    clear nac
    have nac := nac2
    clear nac2
    refine hK.out _ _ (hHeld.grown G21 hHeld.size (fun g e => (E16.lt g e).1)) (fun hHeld => ?_)
    clear hK K
    try simp only [Act.put, List.setIfInBounds_toArray, List.set_cons_zero, List.set_cons_succ]
    obtain ⟨a9, c9, rfl, _⟩ := own_len O9
    obtain ⟨a15, c15, rfl, _⟩ := own_len O15
    obtain ⟨a21, c21, rfl, _⟩ := own_len O21
    refine wpAnyH_take (i := 22) (v := .agg (rA b.R (.slice a9 b.L.length c9) (.slice a15 b.L.length c15) (.slice a21 b.G.length c21))) (by simp only [List.getElem?_toArray, List.getElem?_cons_zero, List.getElem?_cons_succ]; rfl) (by kernel_rfl) (by kernel_rfl) (by kernel_rfl) (by exact fun _ _ _ h => h) (Or.inl ⟨by rfl, fun w hSw => xl_build 60 (parts := [(0, .tmp 6), (1, .tmp 12), (2, .tmp 18), (3, .tmp 24)]) (hbl _ _ _ _ _ _) rfl⟩) (by assumption) ?_
    try simp only [Act.put, List.setIfInBounds_toArray, List.set_cons_zero, List.set_cons_succ]
    refine wpAnyH_ready (rs := [23]) (by kernel_rfl) (by simp) ?_
    refine AllReadyH.cons (by simp only [List.getElem?_toArray, List.getElem?_cons_zero, List.getElem?_cons_succ]; rfl) (fun K hK => ?_) AllReadyH.nil
    refine st_box 60 rfl rfl rfl ?_
    intro w23 X23 T23
    have hz23 := hHeld.size
    refine hK.out _ _ (ups hHeld T23 hHeld.size) (fun hHeld => ?_)
    clear hK K
    try simp only [Act.put, List.setIfInBounds_toArray, List.set_cons_zero, List.set_cons_succ]
    refine wpAnyH_take (i := 24) (v := ?_) (by simp only [List.getElem?_toArray, List.getElem?_cons_zero, List.getElem?_cons_succ]; rfl) (by kernel_rfl) (by kernel_rfl) (by kernel_rfl) (by exact fun _ _ _ h => h) (Or.inl ⟨by rfl, ?_⟩) (by assumption) ?_
    rotate_left
    · (intro w hSw; (try dsimp only at hSw); go_simp; (try with_reducible rfl))
    try simp only [Act.put, List.setIfInBounds_toArray, List.set_cons_zero, List.set_cons_succ]
    refine wpAnyH_done (by kernel_rfl) ?_ _
    go_wp2_with fail
    go_ret
    exact ⟨_, rfl, ⟨_, _, _, X23, hz23, own_below O9 T23, own_below O15 T23, own_below O21 T23, nac⟩, hHeld⟩
  refine AllReadyH.cons (by simp only [List.getElem?_toArray, List.getElem?_cons_zero, List.getElem?_cons_succ]; rfl) (fun K hK => ?_) AllReadyH.nil
  refine st_sl0 23 25 rfl rfl Try.underlying23 size25 ?_
  intro w10 X10 T10
  have nac := own_newL E16 (n' := 0) (c' := 0) (Nat.le_refl _)
  have E10 := own_empty (α := Cv) (s := 3) (f := fC) X10 hHeld.size
  replace E16 := own_below E16 T10
  refine hK.out _ _ (ups hHeld T10 hHeld.size) (fun hHeld => ?_)
  clear hK K
  try simp only [Act.put, List.setIfInBounds_toArray, List.set_cons_zero, List.set_cons_succ]
  refine wpAnyH_ready (rs := [4]) (by kernel_rfl) (by simp) ?_
  refine AllReadyH.cons (by simp only [List.getElem?_toArray, List.getElem?_cons_zero, List.getElem?_cons_succ]; rfl) (fun K hK => ?_) AllReadyH.nil
  refine st_sl0 48 3 rfl rfl Try.underlying48 size3 ?_
  intro w4 X4 T4
  have E4 := own_empty (α := Int) (s := 1) (f := fI) X4 hHeld.size
  replace E10 := own_below E10 T4
  replace E16 := own_below E16 T4
  refine hK.out _ _ (ups hHeld T4 hHeld.size) (fun hHeld => ?_)
  clear hK K
  try simp only [Act.put, List.setIfInBounds_toArray, List.set_cons_zero, List.set_cons_succ]
  refine wpAnyH_ready (rs := [9]) (by kernel_rfl) (by simp) ?_
  refine AllReadyH.cons (by simp only [List.getElem?_toArray, List.getElem?_cons_zero, List.getElem?_cons_succ]; rfl) (fun K hK => ?_) AllReadyH.nil
  refine step_joinN rowI cellsI rfl _ _ rfl w.heap.size 0 _ v1 [] (idsK b.L) 0 b.L.length rfl hl1h.out rfl E4 rfl (own_mono (own_below h.r1 hHeld) (Nat.zero_le _)) (by omega) hHeld.size ?_
  intro v109 w9 O9 G9 N9
  rw [List.nil_append, Nat.zero_add] at O9
  replace E10 := E10.grown' G9 (own_own E4 E10 (by decide))
  replace E16 := E16.grown' G9 (own_own E4 E16 (by decide))
  refine hK.out _ _ (hHeld.grown G9 hHeld.size (fun g e => (E4.lt g e).1)) (fun hHeld => ?_)
  clear hK K
  try simp only [Act.put, List.setIfInBounds_toArray, List.set_cons_zero, List.set_cons_succ]
  refine wpAnyH_ready (rs := [15]) (by kernel_rfl) (by simp) ?_
  refine AllReadyH.cons (by simp only [List.getElem?_toArray, List.getElem?_cons_zero, List.getElem?_cons_succ]; rfl) (fun K hK => ?_) AllReadyH.nil
  refine step_joinN rowCv cellsC rfl _ _ rfl w.heap.size 0 _ v2 [] (cvsK b.L) 0 b.L.length rfl hl2h.out rfl E10 rfl (own_mono (own_below h.r2 hHeld) (Nat.zero_le _)) (by omega) hHeld.size ?_
  intro v115 w15 O15 G15 N15
  rw [List.nil_append, Nat.zero_add] at O15
  have nac2 := own_apL N15 nac E16
  replace O9 := O9.grown' G15 (own_own E10 O9 (by decide))
  replace E16 := E16.grown' G15 (fun q e e2 => nac q e2 e)
  clear nac
  have nac := nac2
  clear nac2
  refine hK.out _ _ (hHeld.grown G15 hHeld.size (fun g e => (E10.lt g e).1)) (fun hHeld => ?_)
  clear hK K
  try simp only [Act.put, List.setIfInBounds_toArray, List.set_cons_zero, List.set_cons_succ]
  refine wpAnyH_ready (rs := [21]) (by kernel_rfl) (by simp) ?_
  refine AllReadyH.cons (by simp only [List.getElem?_toArray, List.getElem?_cons_zero, List.getElem?_cons_succ]; rfl) (fun K hK => ?_) AllReadyH.nil
  refine step_joinN rowCv cellsC rfl _ _ rfl w.heap.size 0 _ v3 [] (b.G) 0 b.G.length rfl rfl rfl E16 rfl (own_mono (own_below h.r3 hHeld) (Nat.zero_le _)) (by omega) hHeld.size ?_
  intro v121 w21 O21 G21 N21
  rw [List.nil_append, Nat.zero_add] at O21
  have nac2 := own_apR N21 nac O15
  replace O9 := O9.grown' G21 (own_own E16 O9 (by decide))
  replace O15 := O15.grown' G21 (fun q e e2 => nac q e e2)
  clear nac
  have nac := nac2
  clear nac2
  refine hK.out _ _ (hHeld.grown G21 hHeld.size (fun g e => (E16.lt g e).1)) (fun hHeld => ?_)
  clear hK K
  try simp only [Act.put, List.setIfInBounds_toArray, List.set_cons_zero, List.set_cons_succ]
  obtain ⟨a9, c9, rfl, _⟩ := own_len O9
  obtain ⟨a15, c15, rfl, _⟩ := own_len O15
  obtain ⟨a21, c21, rfl, _⟩ := own_len O21
  refine wpAnyH_take (i := 22) (v := .agg (rA b.R (.slice a9 b.L.length c9) (.slice a15 b.L.length c15) (.slice a21 b.G.length c21))) (by simp only [List.getElem?_toArray, List.getElem?_cons_zero, List.getElem?_cons_succ]; rfl) (by kernel_rfl) (by kernel_rfl) (by kernel_rfl) (by exact fun _ _ _ h => h) (Or.inl ⟨by rfl, fun w hSw => xl_build 60 (parts := [(0, .tmp 6), (1, .tmp 12), (2, .tmp 18), (3, .tmp 24)]) (hbl _ _ _ _ _ _) rfl⟩) (by assumption) ?_
  try simp only [Act.put, List.setIfInBounds_toArray, List.set_cons_zero, List.set_cons_succ]
  refine wpAnyH_ready (rs := [23]) (by kernel_rfl) (by simp) ?_
  refine AllReadyH.cons (by simp only [List.getElem?_toArray, List.getElem?_cons_zero, List.getElem?_cons_succ]; rfl) (fun K hK => ?_) AllReadyH.nil
  refine st_box 60 rfl rfl rfl ?_
  intro w23 X23 T23
  have hz23 := hHeld.size
  refine hK.out _ _ (ups hHeld T23 hHeld.size) (fun hHeld => ?_)
  clear hK K
  try simp only [Act.put, List.setIfInBounds_toArray, List.set_cons_zero, List.set_cons_succ]
  refine wpAnyH_take (i := 24) (v := ?_) (by simp only [List.getElem?_toArray, List.getElem?_cons_zero, List.getElem?_cons_succ]; rfl) (by kernel_rfl) (by kernel_rfl) (by kernel_rfl) (by exact fun _ _ _ h => h) (Or.inl ⟨by rfl, ?_⟩) (by assumption) ?_
  rotate_left
  · (intro w hSw; (try dsimp only at hSw); go_simp; (try with_reducible rfl))
  try simp only [Act.put, List.setIfInBounds_toArray, List.set_cons_zero, List.set_cons_succ]
  refine wpAnyH_done (by kernel_rfl) ?_ _
  go_wp2_with fail
  go_ret
  exact ⟨_, rfl, ⟨_, _, _, X23, hz23, own_below O9 T23, own_below O15 T23, own_below O21 T23, nac⟩, hHeld⟩
end
end Go.Proofs.Ytjbpaapglamilaa.H
