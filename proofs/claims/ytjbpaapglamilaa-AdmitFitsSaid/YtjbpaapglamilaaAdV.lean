/- A book is asked, put to, swapped, dropped from, copied. No condition but words, and how much there is. -/
import Derived.Test.YtjbpaapglamilaaAdU
import Derived.Test.YtjbpaapglamilaaLtU
import Derived.Test.YtjbpaapglamilaaSoU
namespace Go.Proofs.Ytjbpaapglamilaa.H
open Go.ChangeShapes Go.WideShapes Go.Deep Go.RowKit W
set_option linter.unusedVariables false
set_option linter.unusedSimpArgs false
section
variable {P : Program} {ops : Array Oper} {o : Oper} {a : Act} {w : World} {Q : Exit → Act → World → Prop} {K : Act → World → Prop} {E : Prop}
/-- In a region: one cell is stored in a block. -/
theorem st_put (ty : TypeId) {x y : Operand} {B k : Nat} {c c' : Array Value} {t : TypeId} {v : Value} (hB : Box w B c t) (hw : Region.wanted o (yielded ops a.tmps) = true) (ho : o.op = .store ty x y) (hx : a.eval x = .pointer (some ⟨B, k, none⟩)) (hy : a.eval y = v)
    (hv : v.cells = #[v]) (h1 : v.oneCell' = true) (hi : (P.info? ty).map (·.size) = some 1) (hs : k < c.size) (hc : c.setIfInBounds k v = c')
    (h : ∀ w', Box w' B c' t → But B w w' → K (a.put o.dst undef) w') : if Region.wanted o (yielded ops a.tmps) = true then Oper.wp P o a w K Q else E := by
  rw [if_pos hw]
  have hst : (storeVar ty ⟨B, k, none⟩ v).run P w = .ok () (w.setCell ⟨B, k, none⟩ v) := by
    have := run_storeCells_cells (P := P) B k [v] 0 w (fun j hj => by simpa using ((hB.there (o := k) (n := 1) (by omega)) j (by simpa using hj)).1) (fun j hj => by simpa using ((hB.there (o := k) (n := 1) (by omega)) j (by simpa using hj)).2)
      (fun u hu => by
        have e : u = v := by simpa using hu
        rw [e]; exact h1)
    cases hq : P.info? ty with
    | none => simp [hq] at hi
    | some i =>
      have hs : i.size = 1 := by simpa [hq] using hi
      simp only [Nat.add_zero] at this
      simp [storeVar, sizeOf, typeInfo, hq, hv, hs, this, World.setCells]
  unfold Oper.wp execOp
  simp only [ho, hx, hy, Instr.storeAt, Instr.sureAddr, Sem.run_bind, Sem.run_pure, Result.andThen_ok, hst]
  exact h _ (by rw [← hc]; exact hB.set k v) ((But.refl B w).set k v)
/-- In a region: a new variable of one cell that holds zero. -/
theorem st_alloc1 (t : TypeId) {v : Value} (hw : Region.wanted o (yielded ops a.tmps) = true) (ho : o.op = .alloc t) (hz : (P.info? t).map (fun i => i.zero) = some (some v)) (hv : v.cells = #[v])
    (h : ∀ w', Box w' w.heap.size #[v] t → Below w.heap.size w w' → K (a.put o.dst (.pointer (some ⟨w.heap.size, 0, none⟩))) w') : if Region.wanted o (yielded ops a.tmps) = true then Oper.wp P o a w K Q else E := by
  rw [if_pos hw]
  cases hq : P.info? t with
  | none => simp [hq] at hz
  | some i =>
    have hz' : i.zero = some v := by simpa [hq] using hz
    unfold Oper.wp execOp
    simp only [ho, Sem.run_bind, Instr.alloc, zeroValue, typeInfo, hq, hz', newVar, newRow, run_newObj_alloc, Sem.run_pure, Result.andThen_ok, hv, run_program]
    exact h _ (Box.new w t #[v]) (up1 w _)
end
theorem size27 : (Try.prog.info? 26).map (·.size) = some 1 := by kernel_rfl
theorem size63 : (Try.prog.info? 38).map (·.size) = some 1 := by kernel_rfl
section
variable {w w' : World} {χ χ' : Nat → Nat} {c d B bm n : Nat} {v : Value} {b : Bk}
set_option maxHeartbeats 4000000 in
set_option maxRecDepth 100000 in
theorem asked_any {q5 q2 : Nat} {a : Option Addr} {cap base : Nat} {u : Value} {R : Int} {ys : List Cv} {k : Cv} {bb : Bool} (h5 : Box w q5 #[.slice a ys.length cap] 23) (h2 : Box w q2 #[ptr B] 26) (hB : Box w B (bA R bm u) 40)
    (hO : w.ownsRow base 25 3 (.slice a ys.length cap) ys.length (rowC fC ys)) (hb : base ≤ w.heap.size) (hy : ∀ x ∈ ys, x.word) (hk : k.word) (hR : Word R) (hl : ys.length ≤ 300) (hbb : kB (ys ++ [k]) R = bb) :
    Calls Try.prog 44 #[.agg (cA k), ptr q5, ptr q2] w fun e w' => e = .returned (.bool bb) ∧ Below base w w' := by
  have hw : ∀ x ∈ ys ++ [k], x.word := fun x hx => by
    rcases List.mem_append.1 hx with hx | hx
    · exact hy x hx
    · obtain rfl : x = k := by simpa using hx
      exact hk
  have hll : (ys ++ [k]).length = ys.length + 1 := by simp
  have hKp := fun (a : Option Addr) (k0 c0 : Nat) (W : World) (h : IsCvs W a k0 c0 (ys ++ [k])) => keptP_any 1000 (sortU 1000 (by omega)) (ys ++ [k]) hw (by omega) (by omega) R bb hR a k0 c0 W h (by rw [← hbb, kB_iff])
  have hKk := Lib.hid hKp
  have n5 : ∀ g, (Value.slice a ys.length cap).ownBlock = some g → g ≠ q5 ∧ g ≠ q2 ∧ g ≠ B ∧ g < w.heap.size ∧ base ≤ g := fun g e => by
    have hlt := hO.lt g e
    rcases hO.2 with ⟨e3, _⟩ | ⟨g', cap', cur, e3, _, hb, _⟩
    · rw [e3] at e; cases e
    · rw [e3] at e
      have e' : g' = g := by simpa [Value.ownBlock] using e
      subst e'
      have hq : Box w g' cur 25 := hb
      exact ⟨fun e => box_ne (e ▸ hq : Box w q5 cur 25) h5 (by decide) rfl, fun e => box_ne (e ▸ hq : Box w q2 cur 25) h2 (by decide) rfl, fun e => box_ne (e ▸ hq : Box w B cur 25) hB (by decide) rfl, hlt.2, hlt.1⟩
  have hne := Lib.hid n5
  clear n5 hKp hw hbb hll
  go_enter Try.func44, Try.ntmps44
  go_upto_region 1 with (first
    | (refine wl_box 25 rfl rfl rfl ?_; intro w1 X1 T1))
  have Y1 := h5.below T1
  have Z1 := h2.below T1
  have B1 := hB.below T1
  have O1 := own_below hO T1
  have hT1 := T1.size
  refine wp_region_held_drew (S := fun W => Box W q5 #[.slice a ys.length cap] 23 ∧ Box W w.heap.size (cA k) 25 ∧ Box W q2 #[ptr B] 26 ∧ Box W B (bA R bm u) 40) (by kernel_rfl) ⟨Y1.drew, X1.drew, Z1.drew, B1.drew⟩ (fun hHeld => ?_)
  refine wpAnyH_take (i := 0) (v := .slice a ys.length cap) (by simp only [List.getElem?_toArray, List.getElem?_cons_zero]; rfl) (by kernel_rfl) (by kernel_rfl) (by kernel_rfl) (by exact fun _ _ _ h => h) (Or.inl ⟨by rfl, fun w hSw => xl_cell 23 hSw.1 rfl rfl Try.underlying23 rfl rfl⟩) (by assumption) ?_
  try simp only [Act.put, List.setIfInBounds_toArray, List.set_cons_zero, List.set_cons_succ]
  refine wpAnyH_take (i := 1) (v := .agg (cA k)) (by simp only [List.getElem?_toArray, List.getElem?_cons_zero, List.getElem?_cons_succ]; rfl) (by kernel_rfl) (by kernel_rfl) (by kernel_rfl) (by exact fun _ _ _ h => h) (Or.inl ⟨by rfl, fun w hSw => xl_load 25 hSw.2.1 rfl rfl Try.underlying25 rfl size25 (by omega : 0 + 3 ≤ 3) (cA_all _)⟩) (by assumption) ?_
  try simp only [Act.put, List.setIfInBounds_toArray, List.set_cons_zero, List.set_cons_succ]
  refine wpAnyH_take (i := 4) (v := ptr B) (by simp only [List.getElem?_toArray, List.getElem?_cons_zero, List.getElem?_cons_succ]; rfl) (by kernel_rfl) (by kernel_rfl) (by kernel_rfl) (by exact fun _ _ _ h => h) (Or.inl ⟨by rfl, fun w hSw => xl_cell 26 hSw.2.2.1 rfl rfl Try.underlying26 rfl rfl⟩) (by assumption) ?_
  try simp only [Act.put, List.setIfInBounds_toArray, List.set_cons_zero, List.set_cons_succ]
  refine wpAnyH_take (i := 5) (v := ?_) (by simp only [List.getElem?_toArray, List.getElem?_cons_zero, List.getElem?_cons_succ]; rfl) (by kernel_rfl) (by kernel_rfl) (by kernel_rfl) (by exact fun _ _ _ h => h) (Or.inl ⟨by rfl, ?_⟩) (by assumption) ?_
  rotate_left
  · (intro w hSw; (try dsimp only at hSw); go_simp; (try with_reducible rfl))
  try simp only [Act.put, List.setIfInBounds_toArray, List.set_cons_zero, List.set_cons_succ]
  refine wpAnyH_take (i := 6) (v := ?_) (by simp only [List.getElem?_toArray, List.getElem?_cons_zero, List.getElem?_cons_succ]; rfl) (by kernel_rfl) (by kernel_rfl) (by kernel_rfl) (by exact fun _ _ _ h => h) (Or.inl ⟨by rfl, ?_⟩) (by assumption) ?_
  rotate_left
  · (intro w hSw; (try dsimp only at hSw); go_simp; (try with_reducible rfl))
  try simp only [Act.put, List.setIfInBounds_toArray, List.set_cons_zero, List.set_cons_succ]
  refine wpAnyH_take (i := 7) (v := eU R) (by simp only [List.getElem?_toArray, List.getElem?_cons_zero, List.getElem?_cons_succ]; rfl) (by kernel_rfl) (by kernel_rfl) (by kernel_rfl) (by exact fun _ _ _ h => h) (Or.inl ⟨by rfl, fun w hSw => xl_cell 22 hSw.2.2.2 rfl rfl Try.underlying22 rfl rfl⟩) (by assumption) ?_
  try simp only [Act.put, List.setIfInBounds_toArray, List.set_cons_zero, List.set_cons_succ]
  refine wpAnyH_ready (rs := [2]) (by kernel_rfl) (by simp) ?_
  refine AllReadyH.cons (by simp only [List.getElem?_toArray, List.getElem?_cons_zero, List.getElem?_cons_succ]; rfl) (fun K hK => ?_) AllReadyH.nil
  refine st_sl 23 25 rfl rfl rfl Try.underlying23 (bslC _) ?_
  intro w3 X3 T3
  have T3' : Below w1.heap.size w1 w3 := undrew T3
  have O3 := own_below O1 T3'
  have F3 := flat_new (f := fC) (x := k) X3 rfl
  refine hK.out _ _ ⟨hHeld.1.below T3, hHeld.2.1.below T3, hHeld.2.2.1.below T3, hHeld.2.2.2.below T3⟩ (fun hHeld => ?_)
  clear hK K
  try simp only [Act.put, List.setIfInBounds_toArray, List.set_cons_zero, List.set_cons_succ]
  refine wpAnyH_ready (rs := [3]) (by kernel_rfl) (by simp) ?_
  refine AllReadyH.cons (by simp only [List.getElem?_toArray, List.getElem?_cons_zero, List.getElem?_cons_succ]; rfl) (fun K hK => ?_) AllReadyH.nil
  refine step_more rowCv cellsC rfl _ _ rfl base (.slice a ys.length cap) ys [k] ys.length 1 rfl rfl rfl O3 _ 1 rfl F3 (by omega) (by have := T3'.size; omega) ?_
  intro v4 w4 O4 G4 N4 _
  have hg4 : ∀ g, (Value.slice a ys.length cap).ownBlock = some g → base ≤ g := fun g e => (hne.out g e).2.2.2.2
  refine hK.out _ _ ⟨hHeld.1.grown G4 (fun e => (hne.out _ e.symm).1 rfl), hHeld.2.1.grown G4 (fun e => by have := (hne.out _ e.symm).2.2.2.1; omega), hHeld.2.2.1.grown G4 (fun e => (hne.out _ e.symm).2.1 rfl), hHeld.2.2.2.grown G4 (fun e => (hne.out _ e.symm).2.2.1 rfl)⟩ (fun hHeld => ?_)
  clear hK K
  try simp only [Act.put, List.setIfInBounds_toArray, List.set_cons_zero, List.set_cons_succ]
  obtain ⟨a4, c4, rfl, _⟩ := own_len O4
  have hC := hKk.out a4 _ c4 w4 (own_cvs O4)
  refine wpAnyH_ready (rs := [8]) (by kernel_rfl) (by simp) ?_
  refine AllReadyH.cons (by simp only [List.getElem?_toArray, List.getElem?_cons_zero, List.getElem?_cons_succ]; rfl) (fun K hK => ?_) AllReadyH.nil
  go_simp
  go_at_call 45
  (with_reducible refine hC.mono ?_)
  rintro e w5 ⟨rfl, T5⟩
  refine hK.out _ _ ⟨hHeld.1.below T5, hHeld.2.1.below T5, hHeld.2.2.1.below T5, hHeld.2.2.2.below T5⟩ (fun hHeld => ?_)
  clear hK K
  try simp only [Act.put, List.setIfInBounds_toArray, List.set_cons_zero, List.set_cons_succ]
  refine wpAnyH_take (i := 9) (v := ?_) (by simp only [List.getElem?_toArray, List.getElem?_cons_zero, List.getElem?_cons_succ]; rfl) (by kernel_rfl) (by kernel_rfl) (by kernel_rfl) (by exact fun _ _ _ h => h) (Or.inl ⟨by rfl, ?_⟩) (by assumption) ?_
  rotate_left
  · (intro w hSw; (try dsimp only at hSw); go_simp; (try with_reducible rfl))
  try simp only [Act.put, List.setIfInBounds_toArray, List.set_cons_zero, List.set_cons_succ]
  refine wpAnyH_done (by kernel_rfl) ?_ _
  clear hHeld
  go_wp2_with fail
  go_ret
  refine ⟨rfl, ?_⟩
  have A1 : Below base w w3 := (T1.mono hb).trans (T3'.mono (by omega))
  have A2 : Below base w w4 := A1.grown G4 (Nat.le_trans hb A1.size) (fun g e => by exact hg4 g e)
  exact A2.trans (T5.mono (by have := G4.size; have := T3'.size; omega))
section
variable {P : Program} {sl el : TypeId} {α : Type} {f : α → List Value} {s : Nat}
/-- One owned row appended to another. -/
theorem step_join (T : RowTy P sl el s) (hf : Cells f s) {w : World} {ops : Array Oper} {o : Oper} {a : Act} {K : Act → World → Prop} {Q : Exit → Act → World → Prop} {E : Prop} (hw : Region.wanted o (yielded ops a.tmps) = true) (q x : Operand)
    (ho : o.op = .call { callee := .builtin .append, args := #[q, x], argTypes := #[sl, sl] })
    (m m2 : Nat) (v u : Value) (X Y : List α) (n k : Nat) (hn : X.length = n) (hk : Y.length = k) (hs : a.eval q = v) (hown : w.ownsRow m el s v n (rowC f X)) (hx : a.eval x = u) (hown2 : w.ownsRow m2 el s u k (rowC f Y)) (hl : n + k ≤ 1000000) (hm : m ≤ w.heap.size)
    (h : ∀ v' w', w'.ownsRow m el s v' (n + k) (rowC f (X ++ Y)) → w.grownBy w' v.ownBlock → K (a.put o.dst v') w') :
    if Region.wanted o (yielded ops a.tmps) = true then Oper.wp P o a w K Q else E := by
  rcases own_form hown2 with ⟨rfl, e⟩ | ⟨g, cap, rfl, _⟩
  · have e0 : Y = [] := List.eq_nil_of_length_eq_zero (by omega)
    subst e0
    subst e
    refine step_nomore T hw q x ho m n v (rowC f X) hs hown hx (h _ _ ?_ (World.grownBy.refl _ _))
    rw [List.append_nil, Nat.add_zero]
    exact hown
  · exact step_more T hf hw q x ho m v X Y n k hn hk hs hown ⟨g, 0, none⟩ cap hx (hown2.cells rfl) hl hm (fun v' w' h1 h2 _ _ => h v' w' h1 h2)
end
theorem drew_below (w : World) : Below w.heap.size w w.drew := (Below.refl _ w).trans ⟨rfl, rfl, rfl, Nat.le_refl _, fun _ _ => rfl⟩
/-- What a closure 'beside' holds: others, in whatever order, and the book. -/
def Asks (w0 w : World) (B : Nat) (want : List Cv) (e : Value) : Prop :=
  ∃ q5 q2 a cap ys, e = .func (.func 44) #[] #[ptr q5, ptr q2] ∧ List.Perm ys want ∧ Box w q5 #[.slice a ys.length cap] 23 ∧ Box w q2 #[ptr B] 26 ∧ w.ownsRow w0.heap.size 25 3 (.slice a ys.length cap) ys.length (rowC fC ys) ∧ Below w0.heap.size w0 w
set_option maxHeartbeats 4000000 in
set_option maxRecDepth 100000 in
theorem beside_any {fv : Value} {want : List Cv} (h : B0 w χ c B bm v b) (hF : b.Fit n) (hn : n ≤ 200) (hwl : want.length ≤ 200)
    (hOf : ∀ W, Below w.heap.size w W → Calls Try.prog 43 #[.map (some bm), fv] W fun e w' => ∃ v ys, e = .returned v ∧ List.Perm ys want ∧ w'.ownsRow W.heap.size 25 3 v ys.length (rowC fC ys) ∧ Below W.heap.size W w') :
    Calls Try.prog 31 #[ptr B, fv] w fun e w' => ∃ u, e = .returned u ∧ Asks w w' B (b.G ++ want) u := by
  have hOh := Lib.hid hOf
  have hGh := Lib.hid (fun W (hW : Below w.heap.size w W) => ghosts_any (⟨⟨bm, v, h.below hW⟩, hF⟩ : Bo W χ c B n b) (by omega))
  have hfew := hF.few
  have hBx := h.box
  clear hOf h hF
  go_enter Try.func31, Try.ntmps31
  go_upto_region 1 with (first
    | (refine wl_box1 26 rfl rfl rfl rfl ?_; intro w1 Z1 T1))
  have B1 := hBx.below T1
  have fin : ∀ (w5 : World) (x : Nat) (a4 : Option Addr) (c4 : Nat) (ys2 : List Cv), List.Perm ys2 want → w5.ownsRow w1.heap.size 25 3 (.slice a4 (b.G.length + ys2.length) c4) (b.G.length + ys2.length) (rowC fC (b.G ++ ys2)) → Box w5 x #[.slice a4 (b.G.length + ys2.length) c4] 23 → Below w1.heap.size w1 w5 →
      ∃ u, Value.func (.func 44) #[] #[ptr x, ptr w.heap.size] = u ∧ Asks w w5 B (b.G ++ want) u := fun w5 x a4 c4 ys2 p O X S => by
    have e : b.G.length + ys2.length = (b.G ++ ys2).length := List.length_append.symm
    rw [e] at O X
    exact ⟨_, rfl, x, w.heap.size, a4, c4, b.G ++ ys2, rfl, List.Perm.append_left _ p, X, Z1.below S, own_mono O T1.size, ups T1 S T1.size⟩
  have hfin := Lib.hid (fun w5 x a4 c4 ys2 h1 h2 h3 h4 => by
    obtain ⟨u, e, h⟩ := fin w5 x a4 c4 ys2 h1 h2 h3 h4
    exact (⟨u, by rw [e], h⟩ : ∃ u, Ending.returned (.func (.func 44) #[] #[ptr x, ptr w.heap.size]) = .returned u ∧ Asks w w5 B (b.G ++ want) u))
  clear fin hBx
  refine wp_region_held_drew (S := fun W => Below w1.heap.size w1 W) (by kernel_rfl) (drew_below w1) (fun hHeld => ?_)
  refine wpAnyH_take (i := 0) (v := ptr B) (by simp only [List.getElem?_toArray, List.getElem?_cons_zero]; rfl) (by kernel_rfl) (by kernel_rfl) (by kernel_rfl) (by exact fun _ _ _ h => h) (Or.inl ⟨by rfl, fun w hSw => xl_cell 26 (Z1.below hSw) rfl rfl Try.underlying26 rfl rfl⟩) (by assumption) ?_
  try simp only [Act.put, List.setIfInBounds_toArray, List.set_cons_zero, List.set_cons_succ]
  refine wpAnyH_take (i := 2) (v := ptr B) (by simp only [List.getElem?_toArray, List.getElem?_cons_zero, List.getElem?_cons_succ]; rfl) (by kernel_rfl) (by kernel_rfl) (by kernel_rfl) (by exact fun _ _ _ h => h) (Or.inl ⟨by rfl, fun w hSw => xl_cell 26 (Z1.below hSw) rfl rfl Try.underlying26 rfl rfl⟩) (by assumption) ?_
  try simp only [Act.put, List.setIfInBounds_toArray, List.set_cons_zero, List.set_cons_succ]
  refine wpAnyH_take (i := 3) (v := ?_) (by simp only [List.getElem?_toArray, List.getElem?_cons_zero, List.getElem?_cons_succ]; rfl) (by kernel_rfl) (by kernel_rfl) (by kernel_rfl) (by exact fun _ _ _ h => h) (Or.inl ⟨by rfl, ?_⟩) (by assumption) ?_
  rotate_left
  · (intro w hSw; (try dsimp only at hSw); go_simp; (try with_reducible rfl))
  try simp only [Act.put, List.setIfInBounds_toArray, List.set_cons_zero, List.set_cons_succ]
  refine wpAnyH_take (i := 4) (v := ?_) (by simp only [List.getElem?_toArray, List.getElem?_cons_zero, List.getElem?_cons_succ]; rfl) (by kernel_rfl) (by kernel_rfl) (by kernel_rfl) (by exact fun _ _ _ h => h) (Or.inl ⟨by rfl, ?_⟩) (by assumption) ?_
  rotate_left
  · (intro w hSw; (try dsimp only at hSw); go_simp; (try with_reducible rfl))
  try simp only [Act.put, List.setIfInBounds_toArray, List.set_cons_zero, List.set_cons_succ]
  refine wpAnyH_take (i := 5) (v := .map (some bm)) (by simp only [List.getElem?_toArray, List.getElem?_cons_zero, List.getElem?_cons_succ]; rfl) (by kernel_rfl) (by kernel_rfl) (by kernel_rfl) (by exact fun _ _ _ h => h) (Or.inl ⟨by rfl, fun w hSw => xl_cell 38 (B1.below hSw) rfl rfl Try.underlying38 rfl rfl⟩) (by assumption) ?_
  try simp only [Act.put, List.setIfInBounds_toArray, List.set_cons_zero, List.set_cons_succ]
  refine wpAnyH_take (i := 6) (v := ?_) (by simp only [List.getElem?_toArray, List.getElem?_cons_zero, List.getElem?_cons_succ]; rfl) (by kernel_rfl) (by kernel_rfl) (by kernel_rfl) (by exact fun _ _ _ h => h) (Or.inl ⟨by rfl, ?_⟩) (by assumption) ?_
  rotate_left
  · (intro w hSw; (try dsimp only at hSw); go_simp; (try with_reducible rfl))
  try simp only [Act.put, List.setIfInBounds_toArray, List.set_cons_zero, List.set_cons_succ]
  refine wpAnyH_ready (rs := [1, 9]) (by kernel_rfl) (by simp) ?_
  refine AllReadyH.cons (by simp only [List.getElem?_toArray, List.getElem?_cons_zero, List.getElem?_cons_succ]; rfl) (fun K hK => ?_) ?_
  · go_simp
    go_at_call 18
    (with_reducible refine (hGh.out _ (ups T1 hHeld T1.size)).mono ?_)
    rintro e wa ⟨v1, rfl, O1, Ta⟩
    replace O1 := own_mono O1 hHeld.size
    refine hK.out _ _ (ups hHeld Ta hHeld.size) (fun hHeld => ?_)
    clear hK K
    try simp only [Act.put, List.setIfInBounds_toArray, List.set_cons_zero, List.set_cons_succ]
    refine wpAnyH_ready (rs := [7, 9]) (by kernel_rfl) (by simp) ?_
    refine AllReadyH.cons (by simp only [List.getElem?_toArray, List.getElem?_cons_zero, List.getElem?_cons_succ]; rfl) (fun K hK => ?_) ?_
    · go_simp
      go_at_call 43
      (with_reducible refine (hOh.out _ (ups T1 hHeld T1.size)).mono ?_)
      rintro e wb ⟨v2, ys2, rfl, P2, O2, Tb⟩
      replace O1 := own_below O1 Tb
      refine hK.out _ _ (ups hHeld Tb hHeld.size) (fun hHeld => ?_)
      clear hK K
      try simp only [Act.put, List.setIfInBounds_toArray, List.set_cons_zero, List.set_cons_succ]
      refine wpAnyH_ready (rs := [8, 9]) (by kernel_rfl) (by simp) ?_
      refine AllReadyH.cons (by simp only [List.getElem?_toArray, List.getElem?_cons_zero, List.getElem?_cons_succ]; rfl) (fun K hK => ?_) ?_
      · have l2 := own_lenC O2
        have hy2 := P2.length_eq
        refine step_join rowCv cellsC rfl _ _ rfl w1.heap.size _ v1 v2 b.G ys2 b.G.length ys2.length rfl rfl rfl O1 rfl O2 (by omega) hHeld.size ?_
        intro v4 w4 O4 G4
        refine hK.out _ _ (hHeld.grown G4 hHeld.size (fun g e => (O1.lt g e).1)) (fun hHeld => ?_)
        clear hK K
        try simp only [Act.put, List.setIfInBounds_toArray, List.set_cons_zero, List.set_cons_succ]
        refine wpAnyH_ready (rs := [9]) (by kernel_rfl) (by simp) ?_
        refine AllReadyH.cons (by simp only [List.getElem?_toArray, List.getElem?_cons_zero, List.getElem?_cons_succ]; rfl) (fun K hK => ?_) AllReadyH.nil
        refine st_alloc1 23 rfl rfl zero45 rfl ?_
        intro wx X9 Tx
        have hx9 := hHeld.size
        replace O4 := own_below O4 Tx
        refine hK.out _ _ (ups hHeld Tx hHeld.size) (fun hHeld => ?_)
        clear hK K
        try simp only [Act.put, List.setIfInBounds_toArray, List.set_cons_zero, List.set_cons_succ]
        have hq4 := own_not O4 X9 (by decide)
        obtain ⟨a4, c4, rfl, hc4, hm4⟩ := own_len O4
        refine wpAnyH_ready (rs := [10]) (by kernel_rfl) (by simp) ?_
        refine AllReadyH.cons (by simp only [List.getElem?_toArray, List.getElem?_cons_zero, List.getElem?_cons_succ]; rfl) (fun K hK => ?_) AllReadyH.nil
        refine st_put 23 (v := .slice a4 (b.G.length + ys2.length) c4) X9 rfl rfl rfl rfl rfl rfl size45 (by simp) rfl ?_
        intro w5 X5 K5
        refine hK.out _ _ (K5.up hHeld hx9) (fun hHeld => ?_)
        clear hK K
        try simp only [Act.put, List.setIfInBounds_toArray, List.set_cons_zero, List.set_cons_succ]
        refine wpAnyH_done (by kernel_rfl) ?_ _
        have O5 := own_but O4 K5 hq4
        go_wp2_with fail
        go_ret
        exact hfin.out w5 _ a4 c4 ys2 P2 O5 X5 hHeld
      refine AllReadyH.cons (by simp only [List.getElem?_toArray, List.getElem?_cons_zero, List.getElem?_cons_succ]; rfl) (fun K hK => ?_) AllReadyH.nil
      refine st_alloc1 23 rfl rfl zero45 rfl ?_
      intro wx X9 Tx
      have hx9 := hHeld.size
      replace O1 := own_below O1 Tx
      replace O2 := own_below O2 Tx
      refine hK.out _ _ (ups hHeld Tx hHeld.size) (fun hHeld => ?_)
      clear hK K
      try simp only [Act.put, List.setIfInBounds_toArray, List.set_cons_zero, List.set_cons_succ]
      refine wpAnyH_ready (rs := [8]) (by kernel_rfl) (by simp) ?_
      refine AllReadyH.cons (by simp only [List.getElem?_toArray, List.getElem?_cons_zero, List.getElem?_cons_succ]; rfl) (fun K hK => ?_) AllReadyH.nil
      have l2 := own_lenC O2
      have hy2 := P2.length_eq
      have hq := own_not O1 X9 (by decide)
      refine step_join rowCv cellsC rfl _ _ rfl w1.heap.size _ v1 v2 b.G ys2 b.G.length ys2.length rfl rfl rfl O1 rfl O2 (by omega) hHeld.size ?_
      intro v4 w4 O4 G4
      replace X9 := X9.grown G4 hq.symm
      refine hK.out _ _ (hHeld.grown G4 hHeld.size (fun g e => (O1.lt g e).1)) (fun hHeld => ?_)
      clear hK K
      try simp only [Act.put, List.setIfInBounds_toArray, List.set_cons_zero, List.set_cons_succ]
      have hq4 := own_not O4 X9 (by decide)
      obtain ⟨a4, c4, rfl, hc4, hm4⟩ := own_len O4
      refine wpAnyH_ready (rs := [10]) (by kernel_rfl) (by simp) ?_
      refine AllReadyH.cons (by simp only [List.getElem?_toArray, List.getElem?_cons_zero, List.getElem?_cons_succ]; rfl) (fun K hK => ?_) AllReadyH.nil
      refine st_put 23 (v := .slice a4 (b.G.length + ys2.length) c4) X9 rfl rfl rfl rfl rfl rfl size45 (by simp) rfl ?_
      intro w5 X5 K5
      refine hK.out _ _ (K5.up hHeld hx9) (fun hHeld => ?_)
      clear hK K
      try simp only [Act.put, List.setIfInBounds_toArray, List.set_cons_zero, List.set_cons_succ]
      refine wpAnyH_done (by kernel_rfl) ?_ _
      have O5 := own_but O4 K5 hq4
      go_wp2_with fail
      go_ret
      exact hfin.out w5 _ a4 c4 ys2 P2 O5 X5 hHeld
    refine AllReadyH.cons (by simp only [List.getElem?_toArray, List.getElem?_cons_zero, List.getElem?_cons_succ]; rfl) (fun K hK => ?_) AllReadyH.nil
    refine st_alloc1 23 rfl rfl zero45 rfl ?_
    intro wx X9 Tx
    have hx9 := hHeld.size
    replace O1 := own_below O1 Tx
    refine hK.out _ _ (ups hHeld Tx hHeld.size) (fun hHeld => ?_)
    clear hK K
    try simp only [Act.put, List.setIfInBounds_toArray, List.set_cons_zero, List.set_cons_succ]
    refine wpAnyH_ready (rs := [7]) (by kernel_rfl) (by simp) ?_
    refine AllReadyH.cons (by simp only [List.getElem?_toArray, List.getElem?_cons_zero, List.getElem?_cons_succ]; rfl) (fun K hK => ?_) AllReadyH.nil
    go_simp
    go_at_call 43
    (with_reducible refine (hOh.out _ (ups T1 hHeld T1.size)).mono ?_)
    rintro e wb ⟨v2, ys2, rfl, P2, O2, Tb⟩
    replace O1 := own_below O1 Tb
    replace X9 := X9.below Tb
    refine hK.out _ _ (ups hHeld Tb hHeld.size) (fun hHeld => ?_)
    clear hK K
    try simp only [Act.put, List.setIfInBounds_toArray, List.set_cons_zero, List.set_cons_succ]
    refine wpAnyH_ready (rs := [8]) (by kernel_rfl) (by simp) ?_
    refine AllReadyH.cons (by simp only [List.getElem?_toArray, List.getElem?_cons_zero, List.getElem?_cons_succ]; rfl) (fun K hK => ?_) AllReadyH.nil
    have l2 := own_lenC O2
    have hy2 := P2.length_eq
    have hq := own_not O1 X9 (by decide)
    refine step_join rowCv cellsC rfl _ _ rfl w1.heap.size _ v1 v2 b.G ys2 b.G.length ys2.length rfl rfl rfl O1 rfl O2 (by omega) hHeld.size ?_
    intro v4 w4 O4 G4
    replace X9 := X9.grown G4 hq.symm
    refine hK.out _ _ (hHeld.grown G4 hHeld.size (fun g e => (O1.lt g e).1)) (fun hHeld => ?_)
    clear hK K
    try simp only [Act.put, List.setIfInBounds_toArray, List.set_cons_zero, List.set_cons_succ]
    have hq4 := own_not O4 X9 (by decide)
    obtain ⟨a4, c4, rfl, hc4, hm4⟩ := own_len O4
    refine wpAnyH_ready (rs := [10]) (by kernel_rfl) (by simp) ?_
    refine AllReadyH.cons (by simp only [List.getElem?_toArray, List.getElem?_cons_zero, List.getElem?_cons_succ]; rfl) (fun K hK => ?_) AllReadyH.nil
    refine st_put 23 (v := .slice a4 (b.G.length + ys2.length) c4) X9 rfl rfl rfl rfl rfl rfl size45 (by simp) rfl ?_
    intro w5 X5 K5
    refine hK.out _ _ (K5.up hHeld hx9) (fun hHeld => ?_)
    clear hK K
    try simp only [Act.put, List.setIfInBounds_toArray, List.set_cons_zero, List.set_cons_succ]
    refine wpAnyH_done (by kernel_rfl) ?_ _
    have O5 := own_but O4 K5 hq4
    go_wp2_with fail
    go_ret
    exact hfin.out w5 _ a4 c4 ys2 P2 O5 X5 hHeld
  refine AllReadyH.cons (by simp only [List.getElem?_toArray, List.getElem?_cons_zero, List.getElem?_cons_succ]; rfl) (fun K hK => ?_) AllReadyH.nil
  refine st_alloc1 23 rfl rfl zero45 rfl ?_
  intro wx X9 Tx
  have hx9 := hHeld.size
  refine hK.out _ _ (ups hHeld Tx hHeld.size) (fun hHeld => ?_)
  clear hK K
  try simp only [Act.put, List.setIfInBounds_toArray, List.set_cons_zero, List.set_cons_succ]
  refine wpAnyH_ready (rs := [1]) (by kernel_rfl) (by simp) ?_
  refine AllReadyH.cons (by simp only [List.getElem?_toArray, List.getElem?_cons_zero, List.getElem?_cons_succ]; rfl) (fun K hK => ?_) AllReadyH.nil
  go_simp
  go_at_call 18
  (with_reducible refine (hGh.out _ (ups T1 hHeld T1.size)).mono ?_)
  rintro e wa ⟨v1, rfl, O1, Ta⟩
  replace O1 := own_mono O1 hHeld.size
  replace X9 := X9.below Ta
  refine hK.out _ _ (ups hHeld Ta hHeld.size) (fun hHeld => ?_)
  clear hK K
  try simp only [Act.put, List.setIfInBounds_toArray, List.set_cons_zero, List.set_cons_succ]
  refine wpAnyH_ready (rs := [7]) (by kernel_rfl) (by simp) ?_
  refine AllReadyH.cons (by simp only [List.getElem?_toArray, List.getElem?_cons_zero, List.getElem?_cons_succ]; rfl) (fun K hK => ?_) AllReadyH.nil
  go_simp
  go_at_call 43
  (with_reducible refine (hOh.out _ (ups T1 hHeld T1.size)).mono ?_)
  rintro e wb ⟨v2, ys2, rfl, P2, O2, Tb⟩
  replace O1 := own_below O1 Tb
  replace X9 := X9.below Tb
  refine hK.out _ _ (ups hHeld Tb hHeld.size) (fun hHeld => ?_)
  clear hK K
  try simp only [Act.put, List.setIfInBounds_toArray, List.set_cons_zero, List.set_cons_succ]
  refine wpAnyH_ready (rs := [8]) (by kernel_rfl) (by simp) ?_
  refine AllReadyH.cons (by simp only [List.getElem?_toArray, List.getElem?_cons_zero, List.getElem?_cons_succ]; rfl) (fun K hK => ?_) AllReadyH.nil
  have l2 := own_lenC O2
  have hy2 := P2.length_eq
  have hq := own_not O1 X9 (by decide)
  refine step_join rowCv cellsC rfl _ _ rfl w1.heap.size _ v1 v2 b.G ys2 b.G.length ys2.length rfl rfl rfl O1 rfl O2 (by omega) hHeld.size ?_
  intro v4 w4 O4 G4
  replace X9 := X9.grown G4 hq.symm
  refine hK.out _ _ (hHeld.grown G4 hHeld.size (fun g e => (O1.lt g e).1)) (fun hHeld => ?_)
  clear hK K
  try simp only [Act.put, List.setIfInBounds_toArray, List.set_cons_zero, List.set_cons_succ]
  have hq4 := own_not O4 X9 (by decide)
  obtain ⟨a4, c4, rfl, hc4, hm4⟩ := own_len O4
  refine wpAnyH_ready (rs := [10]) (by kernel_rfl) (by simp) ?_
  refine AllReadyH.cons (by simp only [List.getElem?_toArray, List.getElem?_cons_zero, List.getElem?_cons_succ]; rfl) (fun K hK => ?_) AllReadyH.nil
  refine st_put 23 (v := .slice a4 (b.G.length + ys2.length) c4) X9 rfl rfl rfl rfl rfl rfl size45 (by simp) rfl ?_
  intro w5 X5 K5
  refine hK.out _ _ (K5.up hHeld hx9) (fun hHeld => ?_)
  clear hK K
  try simp only [Act.put, List.setIfInBounds_toArray, List.set_cons_zero, List.set_cons_succ]
  refine wpAnyH_done (by kernel_rfl) ?_ _
  have O5 := own_but O4 K5 hq4
  go_wp2_with fail
  go_ret
  exact hfin.out w5 _ a4 c4 ys2 P2 O5 X5 hHeld
end
end Go.Proofs.Ytjbpaapglamilaa.H

namespace Go.Proofs.Ytjbpaapglamilaa.H
open Go.ChangeShapes Go.WideShapes Go.Deep Go.RowKit W
set_option linter.unusedVariables false
set_option linter.unusedSimpArgs false
theorem want_all (L : Lv) : wantL L (fun _ => true) = cvsK L := by
  unfold wantL cvsK
  rw [List.filter_eq_self.2 (fun _ _ => rfl)]
theorem want_del (L : Lv) (k : Int) : wantL L (fun j => j != k) = cvsK (delK L k) := rfl
theorem want_drop {b : Bk} {n : Nat} (h : b.Fit n) (k : Int) (keep : Bool) : List.Perm (b.G ++ wantL b.L (fun j => keep || (j != k))) (b.drop k keep).all := by
  cases keep with
  | true =>
    have e : wantL b.L (fun j => true || (j != k)) = cvsK b.L := want_all b.L
    rw [e]
    cases hk : b.has k with
    | false => rw [Bk.drop_no hk]; exact .refl _
    | true =>
      have := Bk.drop_all (keep := true) h hk
      rw [if_pos rfl] at this
      exact this
  | false =>
    have e : wantL b.L (fun j => false || (j != k)) = cvsK (delK b.L k) := want_del b.L k
    rw [e]
    cases hk : b.has k with
    | false => rw [Bk.drop_no hk, delK_none (hasK_no hk)]; exact .refl _
    | true =>
      have e2 : b.drop k false = ⟨b.R, delK b.L k, b.G⟩ := by unfold Bk.drop; rw [if_pos hk]; rfl
      rw [e2]; exact .refl _
theorem want_len (L : Lv) (wn : Int → Bool) : (wantL L wn).length ≤ L.length := by unfold wantL; rw [List.length_map]; exact List.length_filter_le _ _
section
variable {w w' : World} {χ χ' : Nat → Nat} {c d B bm n : Nat} {v : Value} {b : Bk}
theorem B0.new (h : B0 w χ c B bm v b) (hb : Below w.heap.size w w') (d : Nat) : B0 w' (recol χ w.heap.size d) c B bm v b :=
  h.off (Z := fun _ => False) (Off.of hb) (fun _ _ h => h) (fun _ hk => recol_lt hk)
theorem Bo.new (h : Bo w χ c B n b) (hb : Below w.heap.size w w') (d : Nat) : Bo w' (recol χ w.heap.size d) c B n b := by
  obtain ⟨⟨bm, v, h0⟩, h1⟩ := h
  exact ⟨⟨bm, v, h0.new hb d⟩, h1⟩
theorem B0.turn (h : B0 w χ c B bm v b) {b' : Bk} {v' : Value} (E : Off (fun j => j = B ∨ j = bm ∨ v.ownBlock = some j) w w') (hbox : Box w' B (bA b'.R bm v') 40) (hM : MapV w' bm (fun k => .agg (cA (getK b'.L k))) (idsK b'.L))
    (hO : w'.ownsRow 0 25 3 v' b'.G.length (rowC fC b'.G)) (hg : ∀ q, v'.ownBlock = some q → v.ownBlock = some q ∨ w.heap.size ≤ q) : B0 w' (recol χ w.heap.size c) c B bm v' b' ∧ Col χ (recol χ w.heap.size c) c w w' := by
  refine ⟨⟨hbox, (recol_lt h.box.lt).trans h.colB, (recol_lt h.map.lt).trans h.colM, hM, hO, fun g e => ?_⟩, Col.off E (fun j hj => ?_)⟩
  · rcases hg g e with e2 | e2
    · rw [recol_lt (h.row.lt g e2).2]; exact h.colR g e2
    · exact recol_ge e2
  · rcases hj with rfl | rfl | e
    · exact h.colB
    · exact h.colM
    · exact h.colR _ e
theorem fits1_any (k : Int) (w : World) : Calls Try.prog 30 #[eI k] w fun e w' => e = .returned (.bool ((fun _ : Int => true) k)) ∧ Below w.heap.size w w' := by
  go_enter Try.func30, Try.ntmps30
  go_wp2
  go_ret
  exact ⟨rfl, Below.refl _ _⟩
theorem swap1_any {q1 q2 : Nat} {keep : Bool} {id : Int} (h1 : Box w q1 #[.bool keep] 4) (h2 : Box w q2 #[eI id] 3) (k : Int) : Calls Try.prog 33 #[eI k, ptr q1, ptr q2] w fun e w' => e = .returned (.bool (keep || (k != id))) ∧ Below w.heap.size w w' := by
  have c1 := h1.cell 0
  have c2 := h2.cell 0
  cases keep with
  | true =>
    go_enter Try.func33, Try.ntmps33
    go_wp2
    go_ret
    exact ⟨rfl, Below.refl _ _⟩
  | false =>
    go_enter Try.func33, Try.ntmps33
    go_wp2
    go_ret
    exact ⟨by simp, Below.refl _ _⟩
theorem none_any (k : Cv) (w : World) : Calls Try.prog 34 #[.agg (cA k)] w fun e w' => e = .returned (.bool (decide (k = zC))) ∧ Below w.heap.size w w' := by
  go_enter Try.func34, Try.ntmps34
  go_wp2_with (first
    | (refine wl_box 25 rfl rfl rfl ?_; intro w1 X1 T1)
    | (refine wl_run (xl_load 25 X1 rfl rfl Try.underlying25 rfl size25 (by omega : 0 + 3 ≤ 3) (cA_all _)) rfl ?_)
    | (refine wl_run (xl_build0 25 built25 rfl) rfl ?_)
    | (refine wl_run (xl_eq25 (p := k) (q := zC) rfl rfl rfl) rfl ?_))
  go_ret
  exact ⟨rfl, T1⟩
theorem ask_perm {ys want : List Cv} {k : Cv} {R : Int} (p : List.Perm ys want) : kB (ys ++ [k]) R = kB (k :: want) R :=
  kB_perm ((List.perm_append_comm).trans (p.cons k)) R
theorem B0.words (h : B0 w χ c B bm v b) (hF : b.Fit n) {ys : List Cv} {wn : Int → Bool} (p : List.Perm ys (b.G ++ wantL b.L wn)) : ∀ x ∈ ys, x.word := fun x hx => by
  rcases List.mem_append.1 (p.mem_iff.1 hx) with hx | hx
  · exact (hF.ghosts x hx).1
  · unfold wantL at hx
    obtain ⟨q, hq, rfl⟩ := List.mem_map.1 hx
    exact (hF.live q (List.mem_filter.1 hq).1).1
set_option maxHeartbeats 4000000 in
set_option maxRecDepth 100000 in
theorem fits_any (h : Bo w χ c B n b) (hn : n ≤ 200) {k : Cv} (hk : k.word) : Calls Try.prog 10 #[ptr B, .agg (cA k)] w fun e w' => e = .returned (.bool (b.fits k)) ∧ Below w.heap.size w w' := by
  obtain ⟨⟨bm, v, hb0⟩, hF⟩ := h
  have hWr : ∀ W, Below w.heap.size w W → _ := fun W hW => wrong_any (hb0.below hW) hF hk
  have hBe : ∀ W, Below w.heap.size w W → _ := fun W hW => beside_any (fv := .func (.func 30) #[] #[]) (want := wantL b.L (fun _ => true)) (hb0.below hW) hF hn (Nat.le_trans (want_len _ _) (by have := hF.few; omega)) (fun W2 hW2 => of52 (fun _ => true) (fun k W3 _ => fits1_any k W3) ((hb0.below hW).below hW2).map hF (by omega))
  have hyl : ∀ ys : List Cv, List.Perm ys (b.G ++ wantL b.L (fun _ => true)) → ys.length ≤ 300 := fun ys p => by
    have := p.length_eq
    have h2 := want_len b.L (fun _ => true)
    have := hF.few
    simp at this h2 ⊢
    rw [List.length_append] at *
    omega
  unfold Bk.fits
  cases hm : mB k with
  | false =>
    simp only [hm] at hWr
    go_enter Try.func10, Try.ntmps10
    go_upto_region 2 with (first
      | (refine wl_box 25 rfl rfl rfl ?_; intro w1 X1 T1))
    refine wp_region_held_drew (S := fun W => Below w1.heap.size w1 W) (by kernel_rfl) (drew_below w1) (fun hHeld => ?_)
    refine wpAnyH_take (i := 0) (v := ?_) (by simp only [List.getElem?_toArray, List.getElem?_cons_zero]; rfl) (by kernel_rfl) (by kernel_rfl) (by kernel_rfl) (by exact fun _ _ _ h => h) (Or.inl ⟨by rfl, ?_⟩) (by assumption) ?_
    rotate_left
    · (intro w hSw; (try dsimp only at hSw); go_simp; (try with_reducible rfl))
    try simp only [Act.put, List.setIfInBounds_toArray, List.set_cons_zero, List.set_cons_succ]
    refine wpAnyH_take (i := 1) (v := .agg (cA k)) (by simp only [List.getElem?_toArray, List.getElem?_cons_zero, List.getElem?_cons_succ]; rfl) (by kernel_rfl) (by kernel_rfl) (by kernel_rfl) (by exact fun _ _ _ h => h) (Or.inl ⟨by rfl, fun w hSw => xl_load 25 (X1.below hSw) rfl rfl Try.underlying25 rfl size25 (by omega : 0 + 3 ≤ 3) (cA_all _)⟩) (by assumption) ?_
    try simp only [Act.put, List.setIfInBounds_toArray, List.set_cons_zero, List.set_cons_succ]
    refine wpAnyH_ready (rs := [2]) (by kernel_rfl) (by simp) ?_
    refine AllReadyH.cons (by simp only [List.getElem?_toArray, List.getElem?_cons_zero, List.getElem?_cons_succ]; rfl) (fun K hK => ?_) AllReadyH.nil
    go_simp
    go_at_call 29
    (with_reducible refine (hWr _ (ups T1 (drew_below w1) T1.size)).mono ?_)
    rintro e w2 ⟨rfl, T2⟩
    refine hK.out _ _ (ups (drew_below w1) T2 (drew_below w1).size) (fun hHeld => ?_)
    clear hK K
    try simp only [Act.put, List.setIfInBounds_toArray, List.set_cons_zero, List.set_cons_succ]
    refine wpAnyH_take (i := 3) (v := .bool false) (by simp only [List.getElem?_toArray, List.getElem?_cons_zero, List.getElem?_cons_succ]; rfl) (by kernel_rfl) (by kernel_rfl) (by kernel_rfl) (by exact fun _ _ _ h => h) (Or.inl ⟨by rfl, ?_⟩) (by assumption) ?_
    · (intro w hSw; (try dsimp only at hSw); go_simp; (try with_reducible rfl))
    try simp only [Act.put, List.setIfInBounds_toArray, List.set_cons_zero, List.set_cons_succ]
    refine wpAnyH_take (i := 4) (v := .bool false) (by simp only [List.getElem?_toArray, List.getElem?_cons_zero, List.getElem?_cons_succ]; rfl) (by kernel_rfl) (by kernel_rfl) (by kernel_rfl) (by exact fun _ _ _ h => h) (Or.inl ⟨by rfl, ?_⟩) (by assumption) ?_
    · (intro w hSw; (try dsimp only at hSw); go_simp; (try with_reducible rfl))
    try simp only [Act.put, List.setIfInBounds_toArray, List.set_cons_zero, List.set_cons_succ]
    refine wpAnyH_take (i := 5) (v := undef) (by simp only [List.getElem?_toArray, List.getElem?_cons_zero, List.getElem?_cons_succ]; rfl) (by kernel_rfl) (by kernel_rfl) (by kernel_rfl) (by exact fun _ _ _ h => h) (Or.inr ⟨by rfl, rfl⟩) (by assumption) ?_
    try simp only [Act.put, List.setIfInBounds_toArray, List.set_cons_zero, List.set_cons_succ]
    refine wpAnyH_take (i := 6) (v := undef) (by simp only [List.getElem?_toArray, List.getElem?_cons_zero, List.getElem?_cons_succ]; rfl) (by kernel_rfl) (by kernel_rfl) (by kernel_rfl) (by exact fun _ _ _ h => h) (Or.inr ⟨by rfl, rfl⟩) (by assumption) ?_
    try simp only [Act.put, List.setIfInBounds_toArray, List.set_cons_zero, List.set_cons_succ]
    refine wpAnyH_take (i := 7) (v := undef) (by simp only [List.getElem?_toArray, List.getElem?_cons_zero, List.getElem?_cons_succ]; rfl) (by kernel_rfl) (by kernel_rfl) (by kernel_rfl) (by exact fun _ _ _ h => h) (Or.inr ⟨by rfl, rfl⟩) (by assumption) ?_
    try simp only [Act.put, List.setIfInBounds_toArray, List.set_cons_zero, List.set_cons_succ]
    refine wpAnyH_take (i := 8) (v := undef) (by simp only [List.getElem?_toArray, List.getElem?_cons_zero, List.getElem?_cons_succ]; rfl) (by kernel_rfl) (by kernel_rfl) (by kernel_rfl) (by exact fun _ _ _ h => h) (Or.inr ⟨by rfl, rfl⟩) (by assumption) ?_
    try simp only [Act.put, List.setIfInBounds_toArray, List.set_cons_zero, List.set_cons_succ]
    refine wpAnyH_take (i := 9) (v := undef) (by simp only [List.getElem?_toArray, List.getElem?_cons_zero, List.getElem?_cons_succ]; rfl) (by kernel_rfl) (by kernel_rfl) (by kernel_rfl) (by exact fun _ _ _ h => h) (Or.inr ⟨by rfl, rfl⟩) (by assumption) ?_
    try simp only [Act.put, List.setIfInBounds_toArray, List.set_cons_zero, List.set_cons_succ]
    refine wpAnyH_take (i := 10) (v := .bool false) (by simp only [List.getElem?_toArray, List.getElem?_cons_zero, List.getElem?_cons_succ]; rfl) (by kernel_rfl) (by kernel_rfl) (by kernel_rfl) (by exact fun _ _ _ h => h) (Or.inl ⟨by rfl, ?_⟩) (by assumption) ?_
    · (intro w hSw; (try dsimp only at hSw); go_simp; (try with_reducible rfl))
    try simp only [Act.put, List.setIfInBounds_toArray, List.set_cons_zero, List.set_cons_succ]
    refine wpAnyH_take (i := 11) (v := ?_) (by simp only [List.getElem?_toArray, List.getElem?_cons_zero, List.getElem?_cons_succ]; rfl) (by kernel_rfl) (by kernel_rfl) (by kernel_rfl) (by exact fun _ _ _ h => h) (Or.inl ⟨by rfl, ?_⟩) (by assumption) ?_
    rotate_left
    · (intro w hSw; (try dsimp only at hSw); go_simp; (try with_reducible rfl))
    try simp only [Act.put, List.setIfInBounds_toArray, List.set_cons_zero, List.set_cons_succ]
    refine wpAnyH_done (by kernel_rfl) ?_ _
    go_wp2_with fail
    go_ret
    exact ⟨rfl, ups T1 (ups (drew_below w1) T2 (drew_below w1).size) T1.size⟩
  | true =>
    simp only [hm] at hWr
    go_enter Try.func10, Try.ntmps10
    go_upto_region 2 with (first
      | (refine wl_box 25 rfl rfl rfl ?_; intro w1 X1 T1))
    refine wp_region_held_drew (S := fun W => Below w1.heap.size w1 W) (by kernel_rfl) (drew_below w1) (fun hHeld => ?_)
    refine wpAnyH_take (i := 0) (v := ?_) (by simp only [List.getElem?_toArray, List.getElem?_cons_zero]; rfl) (by kernel_rfl) (by kernel_rfl) (by kernel_rfl) (by exact fun _ _ _ h => h) (Or.inl ⟨by rfl, ?_⟩) (by assumption) ?_
    rotate_left
    · (intro w hSw; (try dsimp only at hSw); go_simp; (try with_reducible rfl))
    try simp only [Act.put, List.setIfInBounds_toArray, List.set_cons_zero, List.set_cons_succ]
    refine wpAnyH_take (i := 1) (v := .agg (cA k)) (by simp only [List.getElem?_toArray, List.getElem?_cons_zero, List.getElem?_cons_succ]; rfl) (by kernel_rfl) (by kernel_rfl) (by kernel_rfl) (by exact fun _ _ _ h => h) (Or.inl ⟨by rfl, fun w hSw => xl_load 25 (X1.below hSw) rfl rfl Try.underlying25 rfl size25 (by omega : 0 + 3 ≤ 3) (cA_all _)⟩) (by assumption) ?_
    try simp only [Act.put, List.setIfInBounds_toArray, List.set_cons_zero, List.set_cons_succ]
    refine wpAnyH_ready (rs := [2]) (by kernel_rfl) (by simp) ?_
    refine AllReadyH.cons (by simp only [List.getElem?_toArray, List.getElem?_cons_zero, List.getElem?_cons_succ]; rfl) (fun K hK => ?_) AllReadyH.nil
    go_simp
    go_at_call 29
    (with_reducible refine (hWr _ (ups T1 (drew_below w1) T1.size)).mono ?_)
    rintro e w2 ⟨rfl, T2⟩
    refine hK.out _ _ (ups (drew_below w1) T2 (drew_below w1).size) (fun hHeld => ?_)
    clear hK K
    try simp only [Act.put, List.setIfInBounds_toArray, List.set_cons_zero, List.set_cons_succ]
    refine wpAnyH_take (i := 3) (v := .bool true) (by simp only [List.getElem?_toArray, List.getElem?_cons_zero, List.getElem?_cons_succ]; rfl) (by kernel_rfl) (by kernel_rfl) (by kernel_rfl) (by exact fun _ _ _ h => h) (Or.inl ⟨by rfl, ?_⟩) (by assumption) ?_
    · (intro w hSw; (try dsimp only at hSw); go_simp; (try with_reducible rfl))
    try simp only [Act.put, List.setIfInBounds_toArray, List.set_cons_zero, List.set_cons_succ]
    refine wpAnyH_take (i := 4) (v := .bool true) (by simp only [List.getElem?_toArray, List.getElem?_cons_zero, List.getElem?_cons_succ]; rfl) (by kernel_rfl) (by kernel_rfl) (by kernel_rfl) (by exact fun _ _ _ h => h) (Or.inl ⟨by rfl, ?_⟩) (by assumption) ?_
    · (intro w hSw; (try dsimp only at hSw); go_simp; (try with_reducible rfl))
    try simp only [Act.put, List.setIfInBounds_toArray, List.set_cons_zero, List.set_cons_succ]
    refine wpAnyH_take (i := 5) (v := ?_) (by simp only [List.getElem?_toArray, List.getElem?_cons_zero, List.getElem?_cons_succ]; rfl) (by kernel_rfl) (by kernel_rfl) (by kernel_rfl) (by exact fun _ _ _ h => h) (Or.inl ⟨by rfl, ?_⟩) (by assumption) ?_
    rotate_left
    · (intro w hSw; (try dsimp only at hSw); go_simp; (try with_reducible rfl))
    try simp only [Act.put, List.setIfInBounds_toArray, List.set_cons_zero, List.set_cons_succ]
    refine wpAnyH_take (i := 6) (v := ?_) (by simp only [List.getElem?_toArray, List.getElem?_cons_zero, List.getElem?_cons_succ]; rfl) (by kernel_rfl) (by kernel_rfl) (by kernel_rfl) (by exact fun _ _ _ h => h) (Or.inl ⟨by rfl, ?_⟩) (by assumption) ?_
    rotate_left
    · (intro w hSw; (try dsimp only at hSw); go_simp; (try with_reducible rfl))
    try simp only [Act.put, List.setIfInBounds_toArray, List.set_cons_zero, List.set_cons_succ]
    refine wpAnyH_take (i := 8) (v := .agg (cA k)) (by simp only [List.getElem?_toArray, List.getElem?_cons_zero, List.getElem?_cons_succ]; rfl) (by kernel_rfl) (by kernel_rfl) (by kernel_rfl) (by exact fun _ _ _ h => h) (Or.inl ⟨by rfl, fun w hSw => xl_load 25 (X1.below hSw) rfl rfl Try.underlying25 rfl size25 (by omega : 0 + 3 ≤ 3) (cA_all _)⟩) (by assumption) ?_
    try simp only [Act.put, List.setIfInBounds_toArray, List.set_cons_zero, List.set_cons_succ]
    refine wpAnyH_ready (rs := [7]) (by kernel_rfl) (by simp) ?_
    refine AllReadyH.cons (by simp only [List.getElem?_toArray, List.getElem?_cons_zero, List.getElem?_cons_succ]; rfl) (fun K hK => ?_) AllReadyH.nil
    go_simp
    go_at_call 31
    (with_reducible refine (hBe _ (ups T1 hHeld T1.size)).mono ?_)
    rintro e w3 ⟨u3, rfl, q5, q2, a, cap, ys, rfl, pp, h5, h2, hO, T3⟩
    have hS3 := ups hHeld T3 hHeld.size
    refine hK.out _ _ hS3 (fun hHeld => ?_)
    clear hK K
    try simp only [Act.put, List.setIfInBounds_toArray, List.set_cons_zero, List.set_cons_succ]
    have hA := asked_any (bb := kB (k :: b.all) b.R) h5 h2 ((hb0.below (ups T1 hHeld T1.size)).box) hO T3.size (hb0.words hF pp) hk hF.rateW (hyl ys pp) (by rw [want_all] at pp; exact ask_perm pp)
    refine wpAnyH_ready (rs := [9]) (by kernel_rfl) (by simp) ?_
    refine AllReadyH.cons (by simp only [List.getElem?_toArray, List.getElem?_cons_zero, List.getElem?_cons_succ]; rfl) (fun K hK => ?_) AllReadyH.nil
    go_simp
    go_at_call 44
    (with_reducible refine hA.mono ?_)
    rintro e w4 ⟨rfl, T4⟩
    have hS4 : Below w1.heap.size w1 w4 := hS3.trans (T4.mono (ups (drew_below w1) T2 (drew_below w1).size).size)
    refine hK.out _ _ hS4 (fun hHeld => ?_)
    clear hK K
    try simp only [Act.put, List.setIfInBounds_toArray, List.set_cons_zero, List.set_cons_succ]
    refine wpAnyH_take (i := 10) (v := ?_) (by simp only [List.getElem?_toArray, List.getElem?_cons_zero, List.getElem?_cons_succ]; rfl) (by kernel_rfl) (by kernel_rfl) (by kernel_rfl) (by exact fun _ _ _ h => h) (Or.inl ⟨by rfl, ?_⟩) (by assumption) ?_
    rotate_left
    · (intro w hSw; (try dsimp only at hSw); go_simp; (try with_reducible rfl))
    try simp only [Act.put, List.setIfInBounds_toArray, List.set_cons_zero, List.set_cons_succ]
    refine wpAnyH_take (i := 11) (v := ?_) (by simp only [List.getElem?_toArray, List.getElem?_cons_zero, List.getElem?_cons_succ]; rfl) (by kernel_rfl) (by kernel_rfl) (by kernel_rfl) (by exact fun _ _ _ h => h) (Or.inl ⟨by rfl, ?_⟩) (by assumption) ?_
    rotate_left
    · (intro w hSw; (try dsimp only at hSw); go_simp; (try with_reducible rfl))
    try simp only [Act.put, List.setIfInBounds_toArray, List.set_cons_zero, List.set_cons_succ]
    refine wpAnyH_done (by kernel_rfl) ?_ _
    go_wp2_with fail
    go_ret
    exact ⟨rfl, ups T1 hS4 T1.size⟩
set_option maxHeartbeats 4000000 in
set_option maxRecDepth 100000 in
theorem drop_none (h : Bo w χ c B n b) {k : Int} (hk : I64 k) (keep : Bool) (hh : b.has k = false) : Calls Try.prog 14 #[ptr B, eI k, .bool keep] w fun e w' => e = .returned (.bool false) ∧ Below w.heap.size w w' := by
  have hL := live_any h hk
  rw [hh] at hL
  go_enter Try.func14, Try.ntmps14
  go_wp2_with (first
    | (go_at_call 12; (with_reducible refine hL.mono ?_); rintro e w1 ⟨rfl, T1⟩)
    | (refine wl_alloc 25 rfl rfl zero25 ?_; intro w2 X2 T2; have S2 := ups T1 T2 T1.size)
    | (refine wl_store 25 X2 rfl rfl rfl rfl size25 rfl (by omega : 0 + 3 ≤ 3) (cA_one _) (spl_cc _ _) ?_; intro w3 X3 K3; have S3 := K3.up S2 T1.size))
  go_ret
  exact ⟨rfl, S3⟩
theorem rowv_one {base k : Nat} {L : List Cv} (h : w.ownsRow base 25 3 v k (rowC fC L)) : v.oneCell' = true := by
  rcases own_form h with ⟨rfl, _⟩ | ⟨g, cap, rfl, _⟩ <;> rfl
set_option maxHeartbeats 4000000 in
set_option maxRecDepth 100000 in
theorem drop_some (h : Bo w χ c B n b) (hn : n ≤ 200) {k : Int} (hk : I64 k) (keep : Bool) (hh : b.has k = true) : Calls Try.prog 14 #[ptr B, eI k, .bool keep] w fun e w' => e = .returned (.bool true) ∧ Bo w' (recol χ w.heap.size c) c B n (b.drop k keep) ∧ Col χ (recol χ w.heap.size c) c w w' := by
  have hL := live_any h hk
  rw [hh] at hL
  obtain ⟨⟨bm, v, h0⟩, hF⟩ := h
  have hD := Bk.drop_fit (k := k) (keep := keep) hF
  have hfew := hF.few
  have e0 : b.drop k keep = { b with L := delK b.L k, G := if keep then b.G ++ [b.get k] else b.G } := if_pos hh
  have hneM := h0.neM
  have hro := fun g (e : v.ownBlock = some g) => h0.rowB e
  have hml := h0.map.lt
  have hsrt := hF.srt
  have hmap : ∀ W : World, MapV W bm (fun j => if j = k then zK else .agg (cA (getK b.L j))) ((idsK b.L).filter (fun j => j != k)) → MapV W bm (fun j => .agg (cA (getK (delK b.L k) j))) (idsK (delK b.L k)) := fun W M => by
    rw [idsK_delK]
    exact M.say (fun j => by
      rw [get_delK hsrt]
      split <;> rfl)
  have hmh := Lib.hid hmap
  clear hmap
  cases keep with
  | false =>
    have fin : ∀ W v', Off (fun j => j = B ∨ j = bm ∨ v.ownBlock = some j) w W → Box W B (bA b.R bm v') 40 → MapV W bm (fun j => .agg (cA (getK (delK b.L k) j))) (idsK (delK b.L k)) → W.ownsRow 0 25 3 v' b.G.length (rowC fC b.G) → (∀ q, v'.ownBlock = some q → v.ownBlock = some q ∨ w.heap.size ≤ q) → Bo W (recol χ w.heap.size c) c B n (b.drop k false) ∧ Col χ (recol χ w.heap.size c) c w W := fun W v' E Y M O N => by
      rw [e0] at hD ⊢
      obtain ⟨t, kk⟩ := h0.turn (b' := ⟨b.R, delK b.L k, b.G⟩) E Y M O N
      exact ⟨⟨⟨bm, v', t⟩, hD⟩, kk⟩
    have hfin := Lib.hid fin
    clear fin hD e0
    go_enter Try.func14, Try.ntmps14
    go_wp2_with (first
      | (go_at_call 12; (with_reducible refine hL.mono ?_); rintro e w1 ⟨rfl, T1⟩)
      | (refine wl_alloc 25 rfl rfl zero25 ?_; intro w2 X2 T2; have S2 := ups T1 T2 T1.size)
      | (refine wl_store 25 X2 rfl rfl rfl rfl size25 rfl (by omega : 0 + 3 ≤ 3) (cA_one _) (spl_cc _ _) ?_; intro w3 X3 K3; have S3 := K3.up S2 T1.size; have h3 := h0.below S3; have c1 : w3.cell? ⟨B, 1, none⟩ = some (.map (some bm)) := (h3.box.cell 1).trans rfl)
      | (refine wl_del rfl rfl h3.map rfl k rfl hk ?_; intro w4 M4 K4 z4))
    go_ret
    have E4 : Off (fun j => j = B ∨ j = bm ∨ v.ownBlock = some j) w w4 := (Off.of S3).but K4 (.inr (.inr (.inl rfl)))
    exact ⟨rfl, hfin.out w4 v E4 (K4.box h3.box hneM) (hmh.out _ M4) (own_but h3.row K4 (fun e => (hro _ e).2 rfl)) (fun q e => .inl e)⟩
  | true =>
    have fin : ∀ W v', Off (fun j => j = B ∨ j = bm ∨ v.ownBlock = some j) w W → Box W B (bA b.R bm v') 40 → MapV W bm (fun j => .agg (cA (getK (delK b.L k) j))) (idsK (delK b.L k)) → W.ownsRow 0 25 3 v' (b.G.length + 1) (rowC fC (b.G ++ [b.get k])) → (∀ q, v'.ownBlock = some q → v.ownBlock = some q ∨ w.heap.size ≤ q) → Bo W (recol χ w.heap.size c) c B n (b.drop k true) ∧ Col χ (recol χ w.heap.size c) c w W := fun W v' E Y M O N => by
      rw [e0] at hD ⊢
      obtain ⟨t, kk⟩ := h0.turn (b' := ⟨b.R, delK b.L k, b.G ++ [b.get k]⟩) E Y M (by rw [List.length_append]; exact O) N
      exact ⟨⟨⟨bm, v', t⟩, hD⟩, kk⟩
    have hfin := Lib.hid fin
    clear fin hD e0
    go_enter Try.func14, Try.ntmps14
    go_upto_region 6 with (first
      | (go_at_call 12; (with_reducible refine hL.mono ?_); rintro e w1 ⟨rfl, T1⟩)
      | (refine wl_alloc 25 rfl rfl zero25 ?_; intro w2 X2 T2; have S2 := ups T1 T2 T1.size)
      | (refine wl_store 25 X2 rfl rfl rfl rfl size25 rfl (by omega : 0 + 3 ≤ 3) (cA_one _) (spl_cc _ _) ?_; intro w3 X3 K3; have S3 := K3.up S2 T1.size; have h3 := h0.below S3; have c1 : w3.cell? ⟨B, 1, none⟩ = some (.map (some bm)) := (h3.box.cell 1).trans rfl)
      | (refine wl_del rfl rfl h3.map rfl k rfl hk ?_; intro w4 M4 K4 z4))
    have hx1 : w1.heap.size ≠ bm := by have := T1.size; omega
    have E : Off (fun j => j = B ∨ j = bm ∨ v.ownBlock = some j) w w4.drew := ((Off.of S3).but K4 (.inr (.inr (.inl rfl)))).up (drew_below w4)
    have Y : Box w4.drew B (bA b.R bm v) 40 := K4.box h3.box hneM
    have Z : Box w4.drew w1.heap.size (cA (b.get k)) 25 := K4.box X3 hx1
    have M : MapV w4.drew bm (fun j => .agg (cA (getK (delK b.L k) j))) (idsK (delK b.L k)) := (hmh.out _ M4).below (drew_below w4)
    have O : w4.drew.ownsRow 0 25 3 v b.G.length (rowC fC b.G) := own_below (own_but h3.row K4 (fun e => (hro _ e).2 rfl)) (drew_below w4)
    have hs4 : w.heap.size ≤ w4.drew.heap.size := E.size
    clear M4 K4 X3 h3 c1 X2 S2 S3 K3 hL h0
    refine wp_region_held_drew (S := fun _ => True) (by kernel_rfl) trivial (fun hHeld => ?_)
    refine wpAnyH_take (i := 0) (v := ?_) (by simp only [List.getElem?_toArray, List.getElem?_cons_zero]; rfl) (by kernel_rfl) (by kernel_rfl) (by kernel_rfl) (by exact fun _ _ _ h => h) (Or.inl ⟨by rfl, ?_⟩) (by assumption) ?_
    rotate_left
    · (intro w hSw; (try dsimp only at hSw); go_simp; (try with_reducible rfl))
    try simp only [Act.put, List.setIfInBounds_toArray, List.set_cons_zero, List.set_cons_succ]
    refine wpAnyH_take (i := 1) (v := ?_) (by simp only [List.getElem?_toArray, List.getElem?_cons_zero, List.getElem?_cons_succ]; rfl) (by kernel_rfl) (by kernel_rfl) (by kernel_rfl) (by exact fun _ _ _ h => h) (Or.inl ⟨by rfl, ?_⟩) (by assumption) ?_
    rotate_left
    · (intro w hSw; (try dsimp only at hSw); go_simp; (try with_reducible rfl))
    try simp only [Act.put, List.setIfInBounds_toArray, List.set_cons_zero, List.set_cons_succ]
    refine wpAnyH_take (i := 2) (v := ?_) (by simp only [List.getElem?_toArray, List.getElem?_cons_zero, List.getElem?_cons_succ]; rfl) (by kernel_rfl) (by kernel_rfl) (by kernel_rfl) (by exact fun _ _ _ h => h) (Or.inl ⟨by rfl, ?_⟩) (by assumption) ?_
    rotate_left
    · (intro w hSw; (try dsimp only at hSw); go_simp; (try with_reducible rfl))
    try simp only [Act.put, List.setIfInBounds_toArray, List.set_cons_zero, List.set_cons_succ]
    refine wpAnyH_take (i := 3) (v := ?_) (by simp only [List.getElem?_toArray, List.getElem?_cons_zero, List.getElem?_cons_succ]; rfl) (by kernel_rfl) (by kernel_rfl) (by kernel_rfl) (by exact fun _ _ _ h => h) (Or.inl ⟨by rfl, ?_⟩) (by assumption) ?_
    rotate_left
    · (intro w hSw; (try dsimp only at hSw); go_simp; (try with_reducible rfl))
    try simp only [Act.put, List.setIfInBounds_toArray, List.set_cons_zero, List.set_cons_succ]
    refine wpAnyH_ready (rs := [4, 5]) (by kernel_rfl) (by simp) ?_
    refine AllReadyH.cons (by simp only [List.getElem?_toArray, List.getElem?_cons_zero, List.getElem?_cons_succ]; rfl) (fun K hK => ?_) ?_
    · refine st_run (v := v) (xl_cell 23 Y rfl rfl Try.underlying23 rfl rfl) rfl ?_
      refine hK.out _ _ trivial (fun hHeld => ?_)
      clear hK K
      try simp only [Act.put, List.setIfInBounds_toArray, List.set_cons_zero, List.set_cons_succ]
      refine wpAnyH_ready (rs := [5]) (by kernel_rfl) (by simp) ?_
      refine AllReadyH.cons (by simp only [List.getElem?_toArray, List.getElem?_cons_zero, List.getElem?_cons_succ]; rfl) (fun K hK => ?_) AllReadyH.nil
      refine st_run (v := .agg (cA (b.get k))) (xl_load 25 Z rfl rfl Try.underlying25 rfl size25 (by omega : 0 + 3 ≤ 3) (cA_all _)) rfl ?_
      refine hK.out _ _ trivial (fun hHeld => ?_)
      clear hK K
      try simp only [Act.put, List.setIfInBounds_toArray, List.set_cons_zero, List.set_cons_succ]
      refine wpAnyH_ready (rs := [6]) (by kernel_rfl) (by simp) ?_
      refine AllReadyH.cons (by simp only [List.getElem?_toArray, List.getElem?_cons_zero, List.getElem?_cons_succ]; rfl) (fun K hK => ?_) AllReadyH.nil
      refine st_sl 23 25 rfl rfl rfl Try.underlying23 (bslC _) ?_
      intro w6 X6 T6
      replace O := own_below O T6
      replace Y := Y.below T6
      replace Z := Z.below T6
      replace E := E.up T6
      replace M := M.below T6
      have F6 := flat_new (f := fC) (x := b.get k) X6 rfl
      have hz6 := T6.size
      refine hK.out _ _ trivial (fun hHeld => ?_)
      clear hK K
      try simp only [Act.put, List.setIfInBounds_toArray, List.set_cons_zero, List.set_cons_succ]
      refine wpAnyH_ready (rs := [7]) (by kernel_rfl) (by simp) ?_
      refine AllReadyH.cons (by simp only [List.getElem?_toArray, List.getElem?_cons_zero, List.getElem?_cons_succ]; rfl) (fun K hK => ?_) AllReadyH.nil
      refine step_more rowCv cellsC rfl _ _ rfl 0 v b.G [b.get k] b.G.length 1 rfl rfl rfl O _ 1 rfl F6 (by omega) (Nat.zero_le _) ?_
      intro v7 w7 O7 G7 N7 _
      have Y7 := Y.grown G7 (fun e => (hro _ e.symm).1 rfl)
      have E7 := E.grow G7 (fun g e => .inr (.inr (.inr e)))
      have M7 := M.kept G7 (fun e => (hro _ e.symm).2 rfl)
      obtain ⟨a7, c7, rfl, _⟩ := own_len O7
      refine hK.out _ _ trivial (fun hHeld => ?_)
      clear hK K
      try simp only [Act.put, List.setIfInBounds_toArray, List.set_cons_zero, List.set_cons_succ]
      refine wpAnyH_take (i := 8) (v := ?_) (by simp only [List.getElem?_toArray, List.getElem?_cons_zero, List.getElem?_cons_succ]; rfl) (by kernel_rfl) (by kernel_rfl) (by kernel_rfl) (by exact fun _ _ _ h => h) (Or.inl ⟨by rfl, ?_⟩) (by assumption) ?_
      rotate_left
      · (intro w hSw; (try dsimp only at hSw); go_simp; (try with_reducible rfl))
      try simp only [Act.put, List.setIfInBounds_toArray, List.set_cons_zero, List.set_cons_succ]
      refine wpAnyH_take (i := 9) (v := ?_) (by simp only [List.getElem?_toArray, List.getElem?_cons_zero, List.getElem?_cons_succ]; rfl) (by kernel_rfl) (by kernel_rfl) (by kernel_rfl) (by exact fun _ _ _ h => h) (Or.inl ⟨by rfl, ?_⟩) (by assumption) ?_
      rotate_left
      · (intro w hSw; (try dsimp only at hSw); go_simp; (try with_reducible rfl))
      try simp only [Act.put, List.setIfInBounds_toArray, List.set_cons_zero, List.set_cons_succ]
      refine wpAnyH_ready (rs := [10]) (by kernel_rfl) (by simp) ?_
      refine AllReadyH.cons (by simp only [List.getElem?_toArray, List.getElem?_cons_zero, List.getElem?_cons_succ]; rfl) (fun K hK => ?_) AllReadyH.nil
      refine st_put 23 (v := .slice a7 (b.G.length + 1) c7) Y7 rfl rfl rfl rfl rfl rfl size45 (by decide : 2 < 3) (rfl : _ = bA b.R bm (.slice a7 (b.G.length + 1) c7)) ?_
      intro w8 Y8 K8
      refine hK.out _ _ trivial (fun hHeld => ?_)
      clear hK K
      try simp only [Act.put, List.setIfInBounds_toArray, List.set_cons_zero, List.set_cons_succ]
      refine wpAnyH_done (by kernel_rfl) ?_ _
      have O8 := own_but O7 K8 (own_not O7 Y7 (by decide))
      have M8 := M7.off (S := fun j => j = B) (Off.but (Off.refl _) K8 (.inr rfl)) hneM.symm
      have E8 := E7.but K8 (.inr (.inl rfl))
      go_wp2_with fail
      go_ret
      exact ⟨rfl, hfin.out w8 _ E8 Y8 M8 O8 (fun q e => by rcases N7 q e with e2 | e2; exact .inl e2; exact .inr (by omega))⟩
    refine AllReadyH.cons (by simp only [List.getElem?_toArray, List.getElem?_cons_zero, List.getElem?_cons_succ]; rfl) (fun K hK => ?_) AllReadyH.nil
    refine st_run (v := .agg (cA (b.get k))) (xl_load 25 Z rfl rfl Try.underlying25 rfl size25 (by omega : 0 + 3 ≤ 3) (cA_all _)) rfl ?_
    refine hK.out _ _ trivial (fun hHeld => ?_)
    clear hK K
    try simp only [Act.put, List.setIfInBounds_toArray, List.set_cons_zero, List.set_cons_succ]
    refine wpAnyH_ready (rs := [4, 6]) (by kernel_rfl) (by simp) ?_
    refine AllReadyH.cons (by simp only [List.getElem?_toArray, List.getElem?_cons_zero, List.getElem?_cons_succ]; rfl) (fun K hK => ?_) ?_
    · refine st_run (v := v) (xl_cell 23 Y rfl rfl Try.underlying23 rfl rfl) rfl ?_
      refine hK.out _ _ trivial (fun hHeld => ?_)
      clear hK K
      try simp only [Act.put, List.setIfInBounds_toArray, List.set_cons_zero, List.set_cons_succ]
      refine wpAnyH_ready (rs := [6]) (by kernel_rfl) (by simp) ?_
      refine AllReadyH.cons (by simp only [List.getElem?_toArray, List.getElem?_cons_zero, List.getElem?_cons_succ]; rfl) (fun K hK => ?_) AllReadyH.nil
      refine st_sl 23 25 rfl rfl rfl Try.underlying23 (bslC _) ?_
      intro w6 X6 T6
      replace O := own_below O T6
      replace Y := Y.below T6
      replace Z := Z.below T6
      replace E := E.up T6
      replace M := M.below T6
      have F6 := flat_new (f := fC) (x := b.get k) X6 rfl
      have hz6 := T6.size
      refine hK.out _ _ trivial (fun hHeld => ?_)
      clear hK K
      try simp only [Act.put, List.setIfInBounds_toArray, List.set_cons_zero, List.set_cons_succ]
      refine wpAnyH_ready (rs := [7]) (by kernel_rfl) (by simp) ?_
      refine AllReadyH.cons (by simp only [List.getElem?_toArray, List.getElem?_cons_zero, List.getElem?_cons_succ]; rfl) (fun K hK => ?_) AllReadyH.nil
      refine step_more rowCv cellsC rfl _ _ rfl 0 v b.G [b.get k] b.G.length 1 rfl rfl rfl O _ 1 rfl F6 (by omega) (Nat.zero_le _) ?_
      intro v7 w7 O7 G7 N7 _
      have Y7 := Y.grown G7 (fun e => (hro _ e.symm).1 rfl)
      have E7 := E.grow G7 (fun g e => .inr (.inr (.inr e)))
      have M7 := M.kept G7 (fun e => (hro _ e.symm).2 rfl)
      obtain ⟨a7, c7, rfl, _⟩ := own_len O7
      refine hK.out _ _ trivial (fun hHeld => ?_)
      clear hK K
      try simp only [Act.put, List.setIfInBounds_toArray, List.set_cons_zero, List.set_cons_succ]
      refine wpAnyH_take (i := 8) (v := ?_) (by simp only [List.getElem?_toArray, List.getElem?_cons_zero, List.getElem?_cons_succ]; rfl) (by kernel_rfl) (by kernel_rfl) (by kernel_rfl) (by exact fun _ _ _ h => h) (Or.inl ⟨by rfl, ?_⟩) (by assumption) ?_
      rotate_left
      · (intro w hSw; (try dsimp only at hSw); go_simp; (try with_reducible rfl))
      try simp only [Act.put, List.setIfInBounds_toArray, List.set_cons_zero, List.set_cons_succ]
      refine wpAnyH_take (i := 9) (v := ?_) (by simp only [List.getElem?_toArray, List.getElem?_cons_zero, List.getElem?_cons_succ]; rfl) (by kernel_rfl) (by kernel_rfl) (by kernel_rfl) (by exact fun _ _ _ h => h) (Or.inl ⟨by rfl, ?_⟩) (by assumption) ?_
      rotate_left
      · (intro w hSw; (try dsimp only at hSw); go_simp; (try with_reducible rfl))
      try simp only [Act.put, List.setIfInBounds_toArray, List.set_cons_zero, List.set_cons_succ]
      refine wpAnyH_ready (rs := [10]) (by kernel_rfl) (by simp) ?_
      refine AllReadyH.cons (by simp only [List.getElem?_toArray, List.getElem?_cons_zero, List.getElem?_cons_succ]; rfl) (fun K hK => ?_) AllReadyH.nil
      refine st_put 23 (v := .slice a7 (b.G.length + 1) c7) Y7 rfl rfl rfl rfl rfl rfl size45 (by decide : 2 < 3) (rfl : _ = bA b.R bm (.slice a7 (b.G.length + 1) c7)) ?_
      intro w8 Y8 K8
      refine hK.out _ _ trivial (fun hHeld => ?_)
      clear hK K
      try simp only [Act.put, List.setIfInBounds_toArray, List.set_cons_zero, List.set_cons_succ]
      refine wpAnyH_done (by kernel_rfl) ?_ _
      have O8 := own_but O7 K8 (own_not O7 Y7 (by decide))
      have M8 := M7.off (S := fun j => j = B) (Off.but (Off.refl _) K8 (.inr rfl)) hneM.symm
      have E8 := E7.but K8 (.inr (.inl rfl))
      go_wp2_with fail
      go_ret
      exact ⟨rfl, hfin.out w8 _ E8 Y8 M8 O8 (fun q e => by rcases N7 q e with e2 | e2; exact .inl e2; exact .inr (by omega))⟩
    refine AllReadyH.cons (by simp only [List.getElem?_toArray, List.getElem?_cons_zero, List.getElem?_cons_succ]; rfl) (fun K hK => ?_) AllReadyH.nil
    refine st_sl 23 25 rfl rfl rfl Try.underlying23 (bslC _) ?_
    intro w6 X6 T6
    replace O := own_below O T6
    replace Y := Y.below T6
    replace Z := Z.below T6
    replace E := E.up T6
    replace M := M.below T6
    have F6 := flat_new (f := fC) (x := b.get k) X6 rfl
    have hz6 := T6.size
    refine hK.out _ _ trivial (fun hHeld => ?_)
    clear hK K
    try simp only [Act.put, List.setIfInBounds_toArray, List.set_cons_zero, List.set_cons_succ]
    refine wpAnyH_ready (rs := [4]) (by kernel_rfl) (by simp) ?_
    refine AllReadyH.cons (by simp only [List.getElem?_toArray, List.getElem?_cons_zero, List.getElem?_cons_succ]; rfl) (fun K hK => ?_) AllReadyH.nil
    refine st_run (v := v) (xl_cell 23 Y rfl rfl Try.underlying23 rfl rfl) rfl ?_
    refine hK.out _ _ trivial (fun hHeld => ?_)
    clear hK K
    try simp only [Act.put, List.setIfInBounds_toArray, List.set_cons_zero, List.set_cons_succ]
    refine wpAnyH_ready (rs := [7]) (by kernel_rfl) (by simp) ?_
    refine AllReadyH.cons (by simp only [List.getElem?_toArray, List.getElem?_cons_zero, List.getElem?_cons_succ]; rfl) (fun K hK => ?_) AllReadyH.nil
    refine step_more rowCv cellsC rfl _ _ rfl 0 v b.G [b.get k] b.G.length 1 rfl rfl rfl O _ 1 rfl F6 (by omega) (Nat.zero_le _) ?_
    intro v7 w7 O7 G7 N7 _
    have Y7 := Y.grown G7 (fun e => (hro _ e.symm).1 rfl)
    have E7 := E.grow G7 (fun g e => .inr (.inr (.inr e)))
    have M7 := M.kept G7 (fun e => (hro _ e.symm).2 rfl)
    obtain ⟨a7, c7, rfl, _⟩ := own_len O7
    refine hK.out _ _ trivial (fun hHeld => ?_)
    clear hK K
    try simp only [Act.put, List.setIfInBounds_toArray, List.set_cons_zero, List.set_cons_succ]
    refine wpAnyH_take (i := 8) (v := ?_) (by simp only [List.getElem?_toArray, List.getElem?_cons_zero, List.getElem?_cons_succ]; rfl) (by kernel_rfl) (by kernel_rfl) (by kernel_rfl) (by exact fun _ _ _ h => h) (Or.inl ⟨by rfl, ?_⟩) (by assumption) ?_
    rotate_left
    · (intro w hSw; (try dsimp only at hSw); go_simp; (try with_reducible rfl))
    try simp only [Act.put, List.setIfInBounds_toArray, List.set_cons_zero, List.set_cons_succ]
    refine wpAnyH_take (i := 9) (v := ?_) (by simp only [List.getElem?_toArray, List.getElem?_cons_zero, List.getElem?_cons_succ]; rfl) (by kernel_rfl) (by kernel_rfl) (by kernel_rfl) (by exact fun _ _ _ h => h) (Or.inl ⟨by rfl, ?_⟩) (by assumption) ?_
    rotate_left
    · (intro w hSw; (try dsimp only at hSw); go_simp; (try with_reducible rfl))
    try simp only [Act.put, List.setIfInBounds_toArray, List.set_cons_zero, List.set_cons_succ]
    refine wpAnyH_ready (rs := [10]) (by kernel_rfl) (by simp) ?_
    refine AllReadyH.cons (by simp only [List.getElem?_toArray, List.getElem?_cons_zero, List.getElem?_cons_succ]; rfl) (fun K hK => ?_) AllReadyH.nil
    refine st_put 23 (v := .slice a7 (b.G.length + 1) c7) Y7 rfl rfl rfl rfl rfl rfl size45 (by decide : 2 < 3) (rfl : _ = bA b.R bm (.slice a7 (b.G.length + 1) c7)) ?_
    intro w8 Y8 K8
    refine hK.out _ _ trivial (fun hHeld => ?_)
    clear hK K
    try simp only [Act.put, List.setIfInBounds_toArray, List.set_cons_zero, List.set_cons_succ]
    refine wpAnyH_done (by kernel_rfl) ?_ _
    have O8 := own_but O7 K8 (own_not O7 Y7 (by decide))
    have M8 := M7.off (S := fun j => j = B) (Off.but (Off.refl _) K8 (.inr rfl)) hneM.symm
    have E8 := E7.but K8 (.inr (.inl rfl))
    go_wp2_with fail
    go_ret
    exact ⟨rfl, hfin.out w8 _ E8 Y8 M8 O8 (fun q e => by rcases N7 q e with e2 | e2; exact .inl e2; exact .inr (by omega))⟩
theorem drop_any (h : Bo w χ c B n b) (hn : n ≤ 200) {k : Int} (hk : I64 k) (keep : Bool) : Calls Try.prog 14 #[ptr B, eI k, .bool keep] w fun e w' => e = .returned (.bool (b.has k)) ∧ Bo w' (recol χ w.heap.size c) c B n (b.drop k keep) ∧ Col χ (recol χ w.heap.size c) c w w' := by
  cases hh : b.has k with
  | true => exact drop_some h hn hk keep hh
  | false =>
    refine (drop_none h hk keep hh).mono ?_
    rintro e w' ⟨rfl, T⟩
    rw [Bk.drop_no hh]
    exact ⟨rfl, h.new T c, Col.new T c⟩
end
end Go.Proofs.Ytjbpaapglamilaa.H

namespace Go.Proofs.Ytjbpaapglamilaa.H
open Go.ChangeShapes Go.WideShapes Go.Deep Go.RowKit W
set_option linter.unusedVariables false
set_option linter.unusedSimpArgs false
section
variable {w w' : World} {χ χ' : Nat → Nat} {c d B bm n : Nat} {v : Value} {b : Bk}
theorem Bo.fit (h : Bo w χ c B n b) : b.Fit n := h.2
/-- A curve more in a book's map. -/
theorem note_turn (h : B0 w χ c B bm v b) (hF : b.Fit n) {k : Int} {x : Cv} (hk : I64 k) (hx : x.word) (hm : mB x = true) (hz : x ≠ zC) (hn : b.has k = false) (hq : kB (x :: b.all) b.R = true)
    (hM : MapV w' bm (fun j => if j = k then .agg (cA x) else .agg (cA (getK b.L j))) (if k ∈ idsK b.L then idsK b.L else k :: idsK b.L)) (K : But bm w w') : Bo w' (recol χ w.heap.size c) c B (n + 1) (b.note k x) ∧ Col χ (recol χ w.heap.size c) c w w' := by
  have hn' := hasK_no hn
  have hF' := Bk.note_fit hF hk hx hm hn hq
  have e : b.note k x = ⟨b.R, insK b.L k x, b.G⟩ := by unfold Bk.note; rw [if_neg hz]
  rw [e] at hF' ⊢
  rw [if_neg hn'] at hM
  have hM' : MapV w' bm (fun j => .agg (cA (getK (insK b.L k x) j))) (idsK (insK b.L k x)) := by
    refine MapV.keys (MapV.say hM (fun j => ?_)) (srt_nodup hF'.srt) (fun j => ?_)
    · rw [get_insK hF.srt hn']
      split <;> rfl
    · rw [ids_insK, List.mem_cons]
  have E : Off (fun j => j = B ∨ j = bm ∨ v.ownBlock = some j) w w' := (Off.refl w).but K (.inr (.inr (.inl rfl)))
  obtain ⟨t, kk⟩ := h.turn (b' := ⟨b.R, insK b.L k x, b.G⟩) E (K.box h.box h.neM) hM' (own_but h.row K (fun e => (h.rowB e).2 rfl)) (fun q e => .inl e)
  exact ⟨⟨⟨bm, v, t⟩, hF'⟩, kk⟩
theorem swap_thirty (h : Bo w χ c B n b) {k : Int} (hk : I64 k) {x : Cv} (hx : x.word) (keep : Bool) (hm : mB x = false) : Calls Try.prog 13 #[ptr B, eI k, .agg (cA x), .bool keep] w fun e w' => e = .returned (eI 30) ∧ Below w.heap.size w w' := by
  obtain ⟨⟨bm, v, h0⟩, hF⟩ := h
  have hWr := fun W (hW : Below w.heap.size w W) => wrong_any (h0.below hW) hF hx
  simp only [hm] at hWr
  go_enter Try.func13, Try.ntmps13
  go_wp2_with (first
    | (refine wl_box1 3 rfl rfl rfl rfl ?_; intro w1 X1 T1)
    | (refine wl_box 25 rfl rfl rfl ?_; intro w2 X2 T2; have S2 := ups T1 T2 T1.size)
    | (refine wl_box1 4 rfl rfl rfl rfl ?_; intro w3 X3 T3; have S3 := ups S2 T3 S2.size; have Y2 := X2.below T3; have hW := hWr _ S3)
    | (refine wl_run (xl_load 25 Y2 rfl rfl Try.underlying25 rfl size25 (by omega : 0 + 3 ≤ 3) (cA_all _)) rfl ?_)
    | (go_at_call 29; (with_reducible refine hW.mono ?_); rintro e w4 ⟨rfl, T4⟩))
  go_ret
  exact ⟨rfl, ups S3 T4 S3.size⟩
set_option maxHeartbeats 4000000 in
set_option maxRecDepth 100000 in
theorem swap_late (h : Bo w χ c B n b) (hn : n ≤ 200) {k : Int} (hk : I64 k) {x : Cv} (hx : x.word) (keep : Bool) (hm : mB x = true) {b7 : Bk} (e7 : b.drop k keep = b7) (hq : kB (x :: b7.all) b.R = false) : Calls Try.prog 13 #[ptr B, eI k, .agg (cA x), .bool keep] w fun e w' => e = .returned (eI 170) ∧ Below w.heap.size w w' := by
  obtain ⟨⟨bm, v, h0⟩, hF⟩ := h
  have hWr := fun W (hW : Below w.heap.size w W) => wrong_any (h0.below hW) hF hx
  simp only [hm] at hWr
  have hfew := hF.few
  have hBe := Lib.hid (fun W0 (h00 : Below w.heap.size w W0) (q1 q2 : Nat) (g1 : Box W0 q1 #[.bool keep] 4) (g2 : Box W0 q2 #[eI k] 3) W (hW : Below W0.heap.size W0 W) => beside_any (fv := .func (.func 33) #[] #[ptr q1, ptr q2]) (want := wantL b.L (fun j => keep || (j != k))) ((h0.below h00).below hW) hF hn (Nat.le_trans (want_len _ _) (by omega)) (fun W2 hW2 => of32 (fun j => keep || (j != k)) (q1 := q1) (q2 := q2) (fun j W3 hW3 => swap1_any (((g1.below hW).below hW2).below hW3) (((g2.below hW).below hW2).below hW3) j) (((h0.below h00).below hW).below hW2).map hF (by omega)))
  have hyl := Lib.hid (fun (ys : List Cv) (p : List.Perm ys (b.G ++ wantL b.L (fun j => keep || (j != k)))) => (by
    have := p.length_eq
    have h2 := want_len b.L (fun j => keep || (j != k))
    rw [List.length_append] at this
    omega : ys.length ≤ 300))
  have hpp := Lib.hid (fun (ys : List Cv) (p : List.Perm ys (b.G ++ wantL b.L (fun j => keep || (j != k)))) => (by
    rw [ask_perm p, ← hq]
    have hwd := want_drop hF k keep
    rw [e7] at hwd
    exact kB_perm (hwd.cons x) b.R : kB (ys ++ [x]) b.R = false))
  have h0h := Lib.hid h0
  clear h0
  go_enter Try.func13, Try.ntmps13
  go_upto_region 5 with (first
    | (refine wl_box1 3 rfl rfl rfl rfl ?_; intro w1 X1 T1)
    | (refine wl_box 25 rfl rfl rfl ?_; intro w2 X2 T2; have S2 := ups T1 T2 T1.size; have Y1 := X1.below T2)
    | (refine wl_box1 4 rfl rfl rfl rfl ?_; intro w3 X3 T3; have S3 := ups S2 T3 S2.size; have Y2 := X2.below T3; have U1 := Y1.below T3; have hW := hWr _ S3)
    | (refine wl_run (xl_load 25 Y2 rfl rfl Try.underlying25 rfl size25 (by omega : 0 + 3 ≤ 3) (cA_all _)) rfl ?_)
    | (go_at_call 29; (with_reducible refine hW.mono ?_); rintro e w4 ⟨rfl, T4⟩; have S4 := ups S3 T4 S3.size; have Z2 := Y2.below T4; have Z1 := U1.below T4; have Z3 := X3.below T4))
  clear hWr hW X1 X2 Y1 Y2 U1 X3
  replace hBe := Lib.hid (fun W (hS : Below w.heap.size w w4) (hW : Below w4.heap.size w4 W) => hBe.out w4 hS w2.heap.size w.heap.size Z3 Z1 W hW)
  refine wp_region_held_drew (S := fun W => Below w4.heap.size w4 W) (by kernel_rfl) (drew_below w4) (fun hHeld => ?_)
  refine wpAnyH_take (i := 0) (v := ?_) (by simp only [List.getElem?_toArray, List.getElem?_cons_zero]; rfl) (by kernel_rfl) (by kernel_rfl) (by kernel_rfl) (by exact fun _ _ _ h => h) (Or.inl ⟨by rfl, ?_⟩) (by assumption) ?_
  rotate_left
  · (intro w hSw; (try dsimp only at hSw); go_simp; (try with_reducible rfl))
  try simp only [Act.put, List.setIfInBounds_toArray, List.set_cons_zero, List.set_cons_succ]
  refine wpAnyH_take (i := 1) (v := ?_) (by simp only [List.getElem?_toArray, List.getElem?_cons_zero, List.getElem?_cons_succ]; rfl) (by kernel_rfl) (by kernel_rfl) (by kernel_rfl) (by exact fun _ _ _ h => h) (Or.inl ⟨by rfl, ?_⟩) (by assumption) ?_
  rotate_left
  · (intro w hSw; (try dsimp only at hSw); go_simp; (try with_reducible rfl))
  try simp only [Act.put, List.setIfInBounds_toArray, List.set_cons_zero, List.set_cons_succ]
  refine wpAnyH_take (i := 3) (v := .agg (cA x)) (by simp only [List.getElem?_toArray, List.getElem?_cons_zero, List.getElem?_cons_succ]; rfl) (by kernel_rfl) (by kernel_rfl) (by kernel_rfl) (by exact fun _ _ _ h => h) (Or.inl ⟨by rfl, fun w hSw => xl_load 25 (Z2.below hSw) rfl rfl Try.underlying25 rfl size25 (by omega : 0 + 3 ≤ 3) (cA_all _)⟩) (by assumption) ?_
  try simp only [Act.put, List.setIfInBounds_toArray, List.set_cons_zero, List.set_cons_succ]
  refine wpAnyH_ready (rs := [2]) (by kernel_rfl) (by simp) ?_
  refine AllReadyH.cons (by simp only [List.getElem?_toArray, List.getElem?_cons_zero, List.getElem?_cons_succ]; rfl) (fun K hK => ?_) AllReadyH.nil
  go_simp
  go_at_call 31
  (with_reducible refine (hBe.out _ S4 (drew_below w4)).mono ?_)
  rintro e w5 ⟨u5, rfl, q5, q2, a, cap, ys, rfl, pp, h5, h2, hO, T5⟩
  have hS5 := ups (drew_below w4) T5 (drew_below w4).size
  refine hK.out _ _ hS5 (fun hHeld => ?_)
  clear hK K
  try simp only [Act.put, List.setIfInBounds_toArray, List.set_cons_zero, List.set_cons_succ]
  have hA := asked_any (bb := false) h5 h2 ((h0h.out.below (ups S4 hS5 S4.size)).box) hO T5.size (h0h.out.words hF pp) hx hF.rateW (hyl.out ys pp) (hpp.out ys pp)
  refine wpAnyH_ready (rs := [4]) (by kernel_rfl) (by simp) ?_
  refine AllReadyH.cons (by simp only [List.getElem?_toArray, List.getElem?_cons_zero, List.getElem?_cons_succ]; rfl) (fun K hK => ?_) AllReadyH.nil
  go_simp
  go_at_call 44
  (with_reducible refine hA.mono ?_)
  rintro e w6 ⟨rfl, T6⟩
  have hS6 : Below w4.heap.size w4 w6 := hS5.trans (T6.mono (drew_below w4).size)
  refine hK.out _ _ hS6 (fun hHeld => ?_)
  clear hK K
  try simp only [Act.put, List.setIfInBounds_toArray, List.set_cons_zero, List.set_cons_succ]
  refine wpAnyH_take (i := 5) (v := ?_) (by simp only [List.getElem?_toArray, List.getElem?_cons_zero, List.getElem?_cons_succ]; rfl) (by kernel_rfl) (by kernel_rfl) (by kernel_rfl) (by exact fun _ _ _ h => h) (Or.inl ⟨by rfl, ?_⟩) (by assumption) ?_
  rotate_left
  · (intro w hSw; (try dsimp only at hSw); go_simp; (try with_reducible rfl))
  try simp only [Act.put, List.setIfInBounds_toArray, List.set_cons_zero, List.set_cons_succ]
  refine wpAnyH_done (by kernel_rfl) ?_ _
  go_wp2_with fail
  go_ret
  exact ⟨rfl, ups S4 hS6 S4.size⟩
set_option maxHeartbeats 4000000 in
set_option maxRecDepth 100000 in
theorem swap_zero (h : Bo w χ c B n b) (hn : n ≤ 200) {k : Int} (hk : I64 k) {x : Cv} (hx : x.word) (keep : Bool) (hm : mB x = true) {b7 : Bk} (e7 : b.drop k keep = b7) (hq : kB (x :: b7.all) b.R = true) (hz : x = zC) : Calls Try.prog 13 #[ptr B, eI k, .agg (cA x), .bool keep] w fun e w' => e = .returned (eI 0) ∧ ∃ χ', Bo w' χ' c B n b7 ∧ Col χ χ' c w w' := by
  have hzh := Lib.hid (decide_eq_true hz)
  clear hz
  obtain ⟨⟨bm, v, h0⟩, hF⟩ := h
  have hWr := fun W (hW : Below w.heap.size w W) => wrong_any (h0.below hW) hF hx
  simp only [hm] at hWr
  have hfew := hF.few
  have hBe := Lib.hid (fun W0 (h00 : Below w.heap.size w W0) (q1 q2 : Nat) (g1 : Box W0 q1 #[.bool keep] 4) (g2 : Box W0 q2 #[eI k] 3) W (hW : Below W0.heap.size W0 W) => beside_any (fv := .func (.func 33) #[] #[ptr q1, ptr q2]) (want := wantL b.L (fun j => keep || (j != k))) ((h0.below h00).below hW) hF hn (Nat.le_trans (want_len _ _) (by omega)) (fun W2 hW2 => of32 (fun j => keep || (j != k)) (q1 := q1) (q2 := q2) (fun j W3 hW3 => swap1_any (((g1.below hW).below hW2).below hW3) (((g2.below hW).below hW2).below hW3) j) (((h0.below h00).below hW).below hW2).map hF (by omega)))
  have hyl := Lib.hid (fun (ys : List Cv) (p : List.Perm ys (b.G ++ wantL b.L (fun j => keep || (j != k)))) => (by
    have := p.length_eq
    have h2 := want_len b.L (fun j => keep || (j != k))
    rw [List.length_append] at this
    omega : ys.length ≤ 300))
  have hpp := Lib.hid (fun (ys : List Cv) (p : List.Perm ys (b.G ++ wantL b.L (fun j => keep || (j != k)))) => (by
    rw [ask_perm p, ← hq]
    have hwd := want_drop hF k keep
    rw [e7] at hwd
    exact kB_perm (hwd.cons x) b.R : kB (ys ++ [x]) b.R = true))
  have h0h := Lib.hid h0
  clear h0
  go_enter Try.func13, Try.ntmps13
  go_upto_region 5 with (first
    | (refine wl_box1 3 rfl rfl rfl rfl ?_; intro w1 X1 T1)
    | (refine wl_box 25 rfl rfl rfl ?_; intro w2 X2 T2; have S2 := ups T1 T2 T1.size; have Y1 := X1.below T2)
    | (refine wl_box1 4 rfl rfl rfl rfl ?_; intro w3 X3 T3; have S3 := ups S2 T3 S2.size; have Y2 := X2.below T3; have U1 := Y1.below T3; have hW := hWr _ S3)
    | (refine wl_run (xl_load 25 Y2 rfl rfl Try.underlying25 rfl size25 (by omega : 0 + 3 ≤ 3) (cA_all _)) rfl ?_)
    | (go_at_call 29; (with_reducible refine hW.mono ?_); rintro e w4 ⟨rfl, T4⟩; have S4 := ups S3 T4 S3.size; have Z2 := Y2.below T4; have Z1 := U1.below T4; have Z3 := X3.below T4))
  clear hWr hW X1 X2 Y1 Y2 U1 X3
  replace hBe := Lib.hid (fun W (hS : Below w.heap.size w w4) (hW : Below w4.heap.size w4 W) => hBe.out w4 hS w2.heap.size w.heap.size Z3 Z1 W hW)
  refine wp_region_held_drew (S := fun W => Below w4.heap.size w4 W) (by kernel_rfl) (drew_below w4) (fun hHeld => ?_)
  refine wpAnyH_take (i := 0) (v := ?_) (by simp only [List.getElem?_toArray, List.getElem?_cons_zero]; rfl) (by kernel_rfl) (by kernel_rfl) (by kernel_rfl) (by exact fun _ _ _ h => h) (Or.inl ⟨by rfl, ?_⟩) (by assumption) ?_
  rotate_left
  · (intro w hSw; (try dsimp only at hSw); go_simp; (try with_reducible rfl))
  try simp only [Act.put, List.setIfInBounds_toArray, List.set_cons_zero, List.set_cons_succ]
  refine wpAnyH_take (i := 1) (v := ?_) (by simp only [List.getElem?_toArray, List.getElem?_cons_zero, List.getElem?_cons_succ]; rfl) (by kernel_rfl) (by kernel_rfl) (by kernel_rfl) (by exact fun _ _ _ h => h) (Or.inl ⟨by rfl, ?_⟩) (by assumption) ?_
  rotate_left
  · (intro w hSw; (try dsimp only at hSw); go_simp; (try with_reducible rfl))
  try simp only [Act.put, List.setIfInBounds_toArray, List.set_cons_zero, List.set_cons_succ]
  refine wpAnyH_take (i := 3) (v := .agg (cA x)) (by simp only [List.getElem?_toArray, List.getElem?_cons_zero, List.getElem?_cons_succ]; rfl) (by kernel_rfl) (by kernel_rfl) (by kernel_rfl) (by exact fun _ _ _ h => h) (Or.inl ⟨by rfl, fun w hSw => xl_load 25 (Z2.below hSw) rfl rfl Try.underlying25 rfl size25 (by omega : 0 + 3 ≤ 3) (cA_all _)⟩) (by assumption) ?_
  try simp only [Act.put, List.setIfInBounds_toArray, List.set_cons_zero, List.set_cons_succ]
  refine wpAnyH_ready (rs := [2]) (by kernel_rfl) (by simp) ?_
  refine AllReadyH.cons (by simp only [List.getElem?_toArray, List.getElem?_cons_zero, List.getElem?_cons_succ]; rfl) (fun K hK => ?_) AllReadyH.nil
  go_simp
  go_at_call 31
  (with_reducible refine (hBe.out _ S4 (drew_below w4)).mono ?_)
  rintro e w5 ⟨u5, rfl, q5, q2, a, cap, ys, rfl, pp, h5, h2, hO, T5⟩
  have hS5 := ups (drew_below w4) T5 (drew_below w4).size
  refine hK.out _ _ hS5 (fun hHeld => ?_)
  clear hK K
  try simp only [Act.put, List.setIfInBounds_toArray, List.set_cons_zero, List.set_cons_succ]
  have hA := asked_any (bb := true) h5 h2 ((h0h.out.below (ups S4 hS5 S4.size)).box) hO T5.size (h0h.out.words hF pp) hx hF.rateW (hyl.out ys pp) (hpp.out ys pp)
  refine wpAnyH_ready (rs := [4]) (by kernel_rfl) (by simp) ?_
  refine AllReadyH.cons (by simp only [List.getElem?_toArray, List.getElem?_cons_zero, List.getElem?_cons_succ]; rfl) (fun K hK => ?_) AllReadyH.nil
  go_simp
  go_at_call 44
  (with_reducible refine hA.mono ?_)
  rintro e w6 ⟨rfl, T6⟩
  have hS6 : Below w4.heap.size w4 w6 := hS5.trans (T6.mono (drew_below w4).size)
  refine hK.out _ _ hS6 (fun hHeld => ?_)
  clear hK K
  try simp only [Act.put, List.setIfInBounds_toArray, List.set_cons_zero, List.set_cons_succ]
  refine wpAnyH_take (i := 5) (v := ?_) (by simp only [List.getElem?_toArray, List.getElem?_cons_zero, List.getElem?_cons_succ]; rfl) (by kernel_rfl) (by kernel_rfl) (by kernel_rfl) (by exact fun _ _ _ h => h) (Or.inl ⟨by rfl, ?_⟩) (by assumption) ?_
  rotate_left
  · (intro w hSw; (try dsimp only at hSw); go_simp; (try with_reducible rfl))
  try simp only [Act.put, List.setIfInBounds_toArray, List.set_cons_zero, List.set_cons_succ]
  refine wpAnyH_done (by kernel_rfl) ?_ _
  clear hHeld
  have hS := ups S4 hS6 S4.size
  have hN := h0h.out.new hS (c + 1)
  have hD := drop_any (⟨⟨bm, v, hN⟩, hF⟩ : Bo w6 (recol χ w.heap.size (c + 1)) c B n b) hn hk keep
  rw [e7] at hD
  have kS : Col χ (recol χ w.heap.size (c + 1)) c w w6 := Col.new hS (c + 1)
  have V1 : Bx w6 (recol χ w.heap.size (c + 1)) (c + 1) w.heap.size #[eI k] 3 := ⟨Z1.below hS6, recol_ge (Nat.le_refl _)⟩
  have V2 : Bx w6 (recol χ w.heap.size (c + 1)) (c + 1) w1.heap.size (cA x) 25 := ⟨Z2.below hS6, recol_ge T1.size⟩
  have V3 : Bx w6 (recol χ w.heap.size (c + 1)) (c + 1) w2.heap.size #[.bool keep] 4 := ⟨Z3.below hS6, recol_ge S2.size⟩
  have d1 := V1.1.cell 0
  have d3 := V3.1.cell 0
  clear hA h5 h2 hO T5 T6 hS5 hS6 Z1 Z2 Z3 hN hBe hyl hpp h0h
  have hzb := hzh.out
  go_wp2_with (first
    | (go_at_call 14; (with_reducible refine hD.mono ?_); rintro e w7 ⟨rfl, hB7, K7⟩; have Y2 := V2.other K7 (by omega))
    | (refine wl_run (xl_load 25 Y2.1 rfl rfl Try.underlying25 rfl size25 (by omega : 0 + 3 ≤ 3) (cA_all _)) rfl ?_; have hNo := none_any x w7; rw [hzb] at hNo)
    | (go_at_call 34; (with_reducible refine hNo.mono ?_); rintro e w8 ⟨rfl, T8⟩; have hB8 := hB7.below T8))
  go_ret
  exact ⟨rfl, _, hB8, (kS.trans K7).trans (Col.of T8)⟩
set_option maxHeartbeats 4000000 in
set_option maxRecDepth 100000 in
theorem swap_ok (h : Bo w χ c B n b) (hn : n ≤ 200) {k : Int} (hk : I64 k) {x : Cv} (hx : x.word) (keep : Bool) (hm : mB x = true) {b7 : Bk} (e7 : b.drop k keep = b7) (hq : kB (x :: b7.all) b.R = true) (hz : x ≠ zC) : Calls Try.prog 13 #[ptr B, eI k, .agg (cA x), .bool keep] w fun e w' => e = .returned (eI 0) ∧ ∃ χ', Bo w' χ' c B (n + 1) (b7.note k x) ∧ Col χ χ' c w w' := by
  obtain ⟨⟨bm, v, h0⟩, hF⟩ := h
  have hWr := fun W (hW : Below w.heap.size w W) => wrong_any (h0.below hW) hF hx
  simp only [hm] at hWr
  have hfew := hF.few
  have hBe := Lib.hid (fun W0 (h00 : Below w.heap.size w W0) (q1 q2 : Nat) (g1 : Box W0 q1 #[.bool keep] 4) (g2 : Box W0 q2 #[eI k] 3) W (hW : Below W0.heap.size W0 W) => beside_any (fv := .func (.func 33) #[] #[ptr q1, ptr q2]) (want := wantL b.L (fun j => keep || (j != k))) ((h0.below h00).below hW) hF hn (Nat.le_trans (want_len _ _) (by omega)) (fun W2 hW2 => of32 (fun j => keep || (j != k)) (q1 := q1) (q2 := q2) (fun j W3 hW3 => swap1_any (((g1.below hW).below hW2).below hW3) (((g2.below hW).below hW2).below hW3) j) (((h0.below h00).below hW).below hW2).map hF (by omega)))
  have hyl := Lib.hid (fun (ys : List Cv) (p : List.Perm ys (b.G ++ wantL b.L (fun j => keep || (j != k)))) => (by
    have := p.length_eq
    have h2 := want_len b.L (fun j => keep || (j != k))
    rw [List.length_append] at this
    omega : ys.length ≤ 300))
  have hpp := Lib.hid (fun (ys : List Cv) (p : List.Perm ys (b.G ++ wantL b.L (fun j => keep || (j != k)))) => (by
    rw [ask_perm p, ← hq]
    have hwd := want_drop hF k keep
    rw [e7] at hwd
    exact kB_perm (hwd.cons x) b.R : kB (ys ++ [x]) b.R = true))
  have h0h := Lib.hid h0
  clear h0
  go_enter Try.func13, Try.ntmps13
  go_upto_region 5 with (first
    | (refine wl_box1 3 rfl rfl rfl rfl ?_; intro w1 X1 T1)
    | (refine wl_box 25 rfl rfl rfl ?_; intro w2 X2 T2; have S2 := ups T1 T2 T1.size; have Y1 := X1.below T2)
    | (refine wl_box1 4 rfl rfl rfl rfl ?_; intro w3 X3 T3; have S3 := ups S2 T3 S2.size; have Y2 := X2.below T3; have U1 := Y1.below T3; have hW := hWr _ S3)
    | (refine wl_run (xl_load 25 Y2 rfl rfl Try.underlying25 rfl size25 (by omega : 0 + 3 ≤ 3) (cA_all _)) rfl ?_)
    | (go_at_call 29; (with_reducible refine hW.mono ?_); rintro e w4 ⟨rfl, T4⟩; have S4 := ups S3 T4 S3.size; have Z2 := Y2.below T4; have Z1 := U1.below T4; have Z3 := X3.below T4))
  clear hWr hW X1 X2 Y1 Y2 U1 X3
  replace hBe := Lib.hid (fun W (hS : Below w.heap.size w w4) (hW : Below w4.heap.size w4 W) => hBe.out w4 hS w2.heap.size w.heap.size Z3 Z1 W hW)
  refine wp_region_held_drew (S := fun W => Below w4.heap.size w4 W) (by kernel_rfl) (drew_below w4) (fun hHeld => ?_)
  refine wpAnyH_take (i := 0) (v := ?_) (by simp only [List.getElem?_toArray, List.getElem?_cons_zero]; rfl) (by kernel_rfl) (by kernel_rfl) (by kernel_rfl) (by exact fun _ _ _ h => h) (Or.inl ⟨by rfl, ?_⟩) (by assumption) ?_
  rotate_left
  · (intro w hSw; (try dsimp only at hSw); go_simp; (try with_reducible rfl))
  try simp only [Act.put, List.setIfInBounds_toArray, List.set_cons_zero, List.set_cons_succ]
  refine wpAnyH_take (i := 1) (v := ?_) (by simp only [List.getElem?_toArray, List.getElem?_cons_zero, List.getElem?_cons_succ]; rfl) (by kernel_rfl) (by kernel_rfl) (by kernel_rfl) (by exact fun _ _ _ h => h) (Or.inl ⟨by rfl, ?_⟩) (by assumption) ?_
  rotate_left
  · (intro w hSw; (try dsimp only at hSw); go_simp; (try with_reducible rfl))
  try simp only [Act.put, List.setIfInBounds_toArray, List.set_cons_zero, List.set_cons_succ]
  refine wpAnyH_take (i := 3) (v := .agg (cA x)) (by simp only [List.getElem?_toArray, List.getElem?_cons_zero, List.getElem?_cons_succ]; rfl) (by kernel_rfl) (by kernel_rfl) (by kernel_rfl) (by exact fun _ _ _ h => h) (Or.inl ⟨by rfl, fun w hSw => xl_load 25 (Z2.below hSw) rfl rfl Try.underlying25 rfl size25 (by omega : 0 + 3 ≤ 3) (cA_all _)⟩) (by assumption) ?_
  try simp only [Act.put, List.setIfInBounds_toArray, List.set_cons_zero, List.set_cons_succ]
  refine wpAnyH_ready (rs := [2]) (by kernel_rfl) (by simp) ?_
  refine AllReadyH.cons (by simp only [List.getElem?_toArray, List.getElem?_cons_zero, List.getElem?_cons_succ]; rfl) (fun K hK => ?_) AllReadyH.nil
  go_simp
  go_at_call 31
  (with_reducible refine (hBe.out _ S4 (drew_below w4)).mono ?_)
  rintro e w5 ⟨u5, rfl, q5, q2, a, cap, ys, rfl, pp, h5, h2, hO, T5⟩
  have hS5 := ups (drew_below w4) T5 (drew_below w4).size
  refine hK.out _ _ hS5 (fun hHeld => ?_)
  clear hK K
  try simp only [Act.put, List.setIfInBounds_toArray, List.set_cons_zero, List.set_cons_succ]
  have hA := asked_any (bb := true) h5 h2 ((h0h.out.below (ups S4 hS5 S4.size)).box) hO T5.size (h0h.out.words hF pp) hx hF.rateW (hyl.out ys pp) (hpp.out ys pp)
  refine wpAnyH_ready (rs := [4]) (by kernel_rfl) (by simp) ?_
  refine AllReadyH.cons (by simp only [List.getElem?_toArray, List.getElem?_cons_zero, List.getElem?_cons_succ]; rfl) (fun K hK => ?_) AllReadyH.nil
  go_simp
  go_at_call 44
  (with_reducible refine hA.mono ?_)
  rintro e w6 ⟨rfl, T6⟩
  have hS6 : Below w4.heap.size w4 w6 := hS5.trans (T6.mono (drew_below w4).size)
  refine hK.out _ _ hS6 (fun hHeld => ?_)
  clear hK K
  try simp only [Act.put, List.setIfInBounds_toArray, List.set_cons_zero, List.set_cons_succ]
  refine wpAnyH_take (i := 5) (v := ?_) (by simp only [List.getElem?_toArray, List.getElem?_cons_zero, List.getElem?_cons_succ]; rfl) (by kernel_rfl) (by kernel_rfl) (by kernel_rfl) (by exact fun _ _ _ h => h) (Or.inl ⟨by rfl, ?_⟩) (by assumption) ?_
  rotate_left
  · (intro w hSw; (try dsimp only at hSw); go_simp; (try with_reducible rfl))
  try simp only [Act.put, List.setIfInBounds_toArray, List.set_cons_zero, List.set_cons_succ]
  refine wpAnyH_done (by kernel_rfl) ?_ _
  clear hHeld
  have hS := ups S4 hS6 S4.size
  have hN := h0h.out.new hS (c + 1)
  have hD := drop_any (⟨⟨bm, v, hN⟩, hF⟩ : Bo w6 (recol χ w.heap.size (c + 1)) c B n b) hn hk keep
  rw [e7] at hD
  have kS : Col χ (recol χ w.heap.size (c + 1)) c w w6 := Col.new hS (c + 1)
  have V1 : Bx w6 (recol χ w.heap.size (c + 1)) (c + 1) w.heap.size #[eI k] 3 := ⟨Z1.below hS6, recol_ge (Nat.le_refl _)⟩
  have V2 : Bx w6 (recol χ w.heap.size (c + 1)) (c + 1) w1.heap.size (cA x) 25 := ⟨Z2.below hS6, recol_ge T1.size⟩
  have V3 : Bx w6 (recol χ w.heap.size (c + 1)) (c + 1) w2.heap.size #[.bool keep] 4 := ⟨Z3.below hS6, recol_ge S2.size⟩
  have d1 := V1.1.cell 0
  have d3 := V3.1.cell 0
  clear hA h5 h2 hO T5 T6 hS5 hS6 Z1 Z2 Z3 hN hBe hyl hpp h0h
  have hzb : decide (x = zC) = false := decide_eq_false hz
  have hR := Bk.drop_R (b := b) (k := k) (keep := keep)
  have hhas := Bk.drop_has (b := b) (k := k) (keep := keep)
  rw [e7] at hR hhas
  rw [← hR] at hq
  have hqh := Lib.hid hq
  have hhs := Lib.hid hhas
  clear hq hhas e7 hR hF hfew
  go_upto_region 9 with (first
    | (go_at_call 14; (with_reducible refine hD.mono ?_); rintro e w7 ⟨rfl, hB7, K7⟩; have Y2 := V2.other K7 (by omega))
    | (refine wl_run (xl_load 25 Y2.1 rfl rfl Try.underlying25 rfl size25 (by omega : 0 + 3 ≤ 3) (cA_all _)) rfl ?_; have hNo := none_any x w7; rw [hzb] at hNo)
    | (go_at_call 34; (with_reducible refine hNo.mono ?_); rintro e w8 ⟨rfl, T8⟩; have hB8 := hB7.below T8; have U1 := ((V1.other K7 (by omega)).below T8); have U2 := Y2.below T8))
  obtain ⟨⟨bm7, v7, h8⟩, hF8⟩ := hB8
  replace U1 := U1.1
  replace U2 := U2.1
  have M8 : MapV w8.drew bm7 (fun j => .agg (cA (getK b7.L j))) (idsK b7.L) := h8.map.below (drew_below w8)
  have hks : (idsK b7.L).length ≤ 5000 := by have := hF8.few; rw [lv_len]; omega
  have hb1 : w.heap.size ≠ bm7 := fun e => h8.map.unbox _ _ (e ▸ U1)
  have hb2 : w1.heap.size ≠ bm7 := fun e => h8.map.unbox _ _ (e ▸ U2)
  refine wp_region_held_drew (S := fun W => Box W B (bA b7.R bm7 v7) 40 ∧ Box W w.heap.size #[eI k] 3 ∧ Box W w1.heap.size (cA x) 25) (by kernel_rfl) ⟨h8.box.drew, U1.drew, U2.drew⟩ (fun hHeld => ?_)
  refine wpAnyH_take (i := 0) (v := ?_) (by simp only [List.getElem?_toArray, List.getElem?_cons_zero]; rfl) (by kernel_rfl) (by kernel_rfl) (by kernel_rfl) (by exact fun _ _ _ h => h) (Or.inl ⟨by rfl, ?_⟩) (by assumption) ?_
  rotate_left
  · (intro w hSw; (try dsimp only at hSw); go_simp; (try with_reducible rfl))
  try simp only [Act.put, List.setIfInBounds_toArray, List.set_cons_zero, List.set_cons_succ]
  refine wpAnyH_take (i := 1) (v := ?_) (by simp only [List.getElem?_toArray, List.getElem?_cons_zero, List.getElem?_cons_succ]; rfl) (by kernel_rfl) (by kernel_rfl) (by kernel_rfl) (by exact fun _ _ _ h => h) (Or.inl ⟨by rfl, ?_⟩) (by assumption) ?_
  rotate_left
  · (intro w hSw; (try dsimp only at hSw); go_simp; (try with_reducible rfl))
  try simp only [Act.put, List.setIfInBounds_toArray, List.set_cons_zero, List.set_cons_succ]
  refine wpAnyH_take (i := 2) (v := ?_) (by simp only [List.getElem?_toArray, List.getElem?_cons_zero, List.getElem?_cons_succ]; rfl) (by kernel_rfl) (by kernel_rfl) (by kernel_rfl) (by exact fun _ _ _ h => h) (Or.inl ⟨by rfl, ?_⟩) (by assumption) ?_
  rotate_left
  · (intro w hSw; (try dsimp only at hSw); go_simp; (try with_reducible rfl))
  try simp only [Act.put, List.setIfInBounds_toArray, List.set_cons_zero, List.set_cons_succ]
  refine wpAnyH_take (i := 3) (v := .map (some bm7)) (by simp only [List.getElem?_toArray, List.getElem?_cons_zero, List.getElem?_cons_succ]; rfl) (by kernel_rfl) (by kernel_rfl) (by kernel_rfl) (by exact fun _ _ _ h => h) (Or.inl ⟨by rfl, fun w hSw => xl_cell 38 hSw.1 rfl rfl Try.underlying38 rfl rfl⟩) (by assumption) ?_
  try simp only [Act.put, List.setIfInBounds_toArray, List.set_cons_zero, List.set_cons_succ]
  refine wpAnyH_take (i := 4) (v := eI k) (by simp only [List.getElem?_toArray, List.getElem?_cons_zero, List.getElem?_cons_succ]; rfl) (by kernel_rfl) (by kernel_rfl) (by kernel_rfl) (by exact fun _ _ _ h => h) (Or.inl ⟨by rfl, fun w hSw => xl_cell 3 hSw.2.1 rfl rfl Try.underlying3 rfl rfl⟩) (by assumption) ?_
  try simp only [Act.put, List.setIfInBounds_toArray, List.set_cons_zero, List.set_cons_succ]
  refine wpAnyH_take (i := 5) (v := .agg (cA x)) (by simp only [List.getElem?_toArray, List.getElem?_cons_zero, List.getElem?_cons_succ]; rfl) (by kernel_rfl) (by kernel_rfl) (by kernel_rfl) (by exact fun _ _ _ h => h) (Or.inl ⟨by rfl, fun w hSw => xl_load 25 hSw.2.2 rfl rfl Try.underlying25 rfl size25 (by omega : 0 + 3 ≤ 3) (cA_all _)⟩) (by assumption) ?_
  try simp only [Act.put, List.setIfInBounds_toArray, List.set_cons_zero, List.set_cons_succ]
  refine wpAnyH_ready (rs := [6]) (by kernel_rfl) (by simp) ?_
  refine AllReadyH.cons (by simp only [List.getElem?_toArray, List.getElem?_cons_zero, List.getElem?_cons_succ]; rfl) (fun K hK => ?_) AllReadyH.nil
  refine st_upd rfl rfl M8 hks rfl k rfl hk (.agg (cA x)) rfl ?_
  intro w9 M9 K9 z9
  refine hK.out _ _ ⟨K9.box hHeld.1 h8.neM, K9.box hHeld.2.1 hb1, K9.box hHeld.2.2 hb2⟩ (fun hHeld => ?_)
  clear hK K
  try simp only [Act.put, List.setIfInBounds_toArray, List.set_cons_zero, List.set_cons_succ]
  refine wpAnyH_done (by kernel_rfl) ?_ _
  clear hHeld
  go_wp2_with fail
  go_ret
  obtain ⟨t, kk⟩ := note_turn (h8.below (drew_below w8)) hF8 hk hx hm hz hhs.out hqh.out M9 K9
  exact ⟨rfl, _, t, (((kS.trans K7).trans (Col.of T8)).trans (Col.of (drew_below w8))).trans kk⟩
theorem swap_any (h : Bo w χ c B n b) (hn : n ≤ 200) {k : Int} (hk : I64 k) {x : Cv} (hx : x.word) (keep : Bool) : Calls Try.prog 13 #[ptr B, eI k, .agg (cA x), .bool keep] w fun e w' => e = .returned (eI (b.swpE k x keep)) ∧ ∃ χ', Bo w' χ' c B (n + 1) (b.swp k x keep) ∧ Col χ χ' c w w' := by
  unfold Bk.swp Bk.swpE
  cases hm : mB x with
  | false =>
    refine (swap_thirty h hk hx keep hm).mono ?_
    rintro e w' ⟨rfl, T⟩
    exact ⟨rfl, _, (h.new T c).mono (Nat.le_succ n), Col.new T c⟩
  | true =>
    cases hq : kB (x :: (b.drop k keep).all) b.R with
    | false =>
      refine (swap_late h hn hk hx keep hm rfl hq).mono ?_
      rintro e w' ⟨rfl, T⟩
      exact ⟨rfl, _, (h.new T c).mono (Nat.le_succ n), Col.new T c⟩
    | true =>
      by_cases hz : x = zC
      · refine (swap_zero h hn hk hx keep hm rfl hq hz).mono ?_
        rintro e w' ⟨rfl, χ', t, kk⟩
        have e : (b.drop k keep).note k x = b.drop k keep := if_pos hz
        refine ⟨rfl, χ', ?_, kk⟩
        rw [e]
        exact t.mono (Nat.le_succ n)
      · refine (swap_ok h hn hk hx keep hm rfl hq hz).mono ?_
        rintro e w' ⟨rfl, χ', t, kk⟩
        exact ⟨rfl, χ', t, kk⟩
set_option maxHeartbeats 4000000 in
set_option maxRecDepth 100000 in
theorem put_thirty (h : Bo w χ c B n b) {k : Int} (hk : I64 k) {x : Cv} (hx : x.word) (hm : mB x = false) : Calls Try.prog 9 #[ptr B, eI k, .agg (cA x)] w fun e w' => e = .returned (eI 30) ∧ Below w.heap.size w w' := by
  obtain ⟨⟨bm, v, h0⟩, hF⟩ := id h
  have hWr := fun W (hW : Below w.heap.size w W) => wrong_any (h0.below hW) hF hx
  have hLi := fun W (hW : Below w.heap.size w W) => live_any (h.below hW) hk
  simp only [hm] at hWr
  skip
  clear h0 hF
  go_enter Try.func9, Try.ntmps9
  go_wp2_with (first
    | (refine wl_box 25 rfl rfl rfl ?_; intro w1 X1 T1; have hW := hWr _ T1)
    | (refine wl_run (xl_load 25 X1 rfl rfl Try.underlying25 rfl size25 (by omega : 0 + 3 ≤ 3) (cA_all _)) rfl ?_)
    | (go_at_call 29; (with_reducible refine hW.mono ?_); rintro e w2 ⟨rfl, T2⟩; have S2 := ups T1 T2 T1.size; have Y1 := X1.below T2; have hL := hLi _ S2)
    | (go_at_call 12; (with_reducible refine hL.mono ?_); rintro e w3 ⟨rfl, T3⟩; have S3 := ups S2 T3 S2.size; have Z1 := Y1.below T3)
    | (refine wl_alloc 25 rfl rfl zero25 ?_; intro w4 X4 T4; have S4 := ups S3 T4 S3.size; have U1 := Z1.below T4)
    | (refine wl_store 25 X4 rfl rfl rfl rfl size25 rfl (by omega : 0 + 3 ≤ 3) (cA_one _) (spl_cc _ _) ?_; intro w5 X5 K5; have S5 := K5.up S4 S3.size; have V1 := K5.box U1 (Nat.ne_of_lt Z1.lt))
  )
  go_ret
  exact ⟨rfl, S2⟩
set_option maxHeartbeats 4000000 in
set_option maxRecDepth 100000 in
theorem put_twice (h : Bo w χ c B n b) {k : Int} (hk : I64 k) {x : Cv} (hx : x.word) (hm : mB x = true) (hh : b.has k = true) : Calls Try.prog 9 #[ptr B, eI k, .agg (cA x)] w fun e w' => e = .returned (eI 80) ∧ Below w.heap.size w w' := by
  obtain ⟨⟨bm, v, h0⟩, hF⟩ := id h
  have hWr := fun W (hW : Below w.heap.size w W) => wrong_any (h0.below hW) hF hx
  have hLi := fun W (hW : Below w.heap.size w W) => live_any (h.below hW) hk
  simp only [hm] at hWr
  simp only [hh] at hLi
  clear h0 hF
  go_enter Try.func9, Try.ntmps9
  go_wp2_with (first
    | (refine wl_box 25 rfl rfl rfl ?_; intro w1 X1 T1; have hW := hWr _ T1)
    | (refine wl_run (xl_load 25 X1 rfl rfl Try.underlying25 rfl size25 (by omega : 0 + 3 ≤ 3) (cA_all _)) rfl ?_)
    | (go_at_call 29; (with_reducible refine hW.mono ?_); rintro e w2 ⟨rfl, T2⟩; have S2 := ups T1 T2 T1.size; have Y1 := X1.below T2; have hL := hLi _ S2)
    | (go_at_call 12; (with_reducible refine hL.mono ?_); rintro e w3 ⟨rfl, T3⟩; have S3 := ups S2 T3 S2.size; have Z1 := Y1.below T3)
    | (refine wl_alloc 25 rfl rfl zero25 ?_; intro w4 X4 T4; have S4 := ups S3 T4 S3.size; have U1 := Z1.below T4)
    | (refine wl_store 25 X4 rfl rfl rfl rfl size25 rfl (by omega : 0 + 3 ≤ 3) (cA_one _) (spl_cc _ _) ?_; intro w5 X5 K5; have S5 := K5.up S4 S3.size; have V1 := K5.box U1 (Nat.ne_of_lt Z1.lt))
  )
  go_ret
  exact ⟨rfl, S5⟩
set_option maxHeartbeats 4000000 in
set_option maxRecDepth 100000 in
theorem put_swap (h : Bo w χ c B n b) (hn : n ≤ 200) {k : Int} (hk : I64 k) {x : Cv} (hx : x.word) (hm : mB x = true) (hh : b.has k = false) : Calls Try.prog 9 #[ptr B, eI k, .agg (cA x)] w fun e w' => e = .returned (eI (b.swpE k x true)) ∧ ∃ χ', Bo w' χ' c B (n + 1) (b.swp k x true) ∧ Col χ χ' c w w' := by
  obtain ⟨⟨bm, v, h0⟩, hF⟩ := id h
  have hWr := fun W (hW : Below w.heap.size w W) => wrong_any (h0.below hW) hF hx
  have hLi := fun W (hW : Below w.heap.size w W) => live_any (h.below hW) hk
  simp only [hm] at hWr
  simp only [hh] at hLi
  clear h0 hF
  go_enter Try.func9, Try.ntmps9
  go_wp2_with (first
    | (refine wl_box 25 rfl rfl rfl ?_; intro w1 X1 T1; have hW := hWr _ T1)
    | (refine wl_run (xl_load 25 X1 rfl rfl Try.underlying25 rfl size25 (by omega : 0 + 3 ≤ 3) (cA_all _)) rfl ?_)
    | (go_at_call 29; (with_reducible refine hW.mono ?_); rintro e w2 ⟨rfl, T2⟩; have S2 := ups T1 T2 T1.size; have Y1 := X1.below T2; have hL := hLi _ S2)
    | (go_at_call 12; (with_reducible refine hL.mono ?_); rintro e w3 ⟨rfl, T3⟩; have S3 := ups S2 T3 S2.size; have Z1 := Y1.below T3)
    | (refine wl_alloc 25 rfl rfl zero25 ?_; intro w4 X4 T4; have S4 := ups S3 T4 S3.size; have U1 := Z1.below T4)
    | (refine wl_store 25 X4 rfl rfl rfl rfl size25 rfl (by omega : 0 + 3 ≤ 3) (cA_one _) (spl_cc _ _) ?_; intro w5 X5 K5; have S5 := K5.up S4 S3.size; have V1 := K5.box U1 (Nat.ne_of_lt Z1.lt))
    | (refine wl_run (xl_load 25 V1 rfl rfl Try.underlying25 rfl size25 (by omega : 0 + 3 ≤ 3) (cA_all _)) rfl ?_; have hSw := swap_any (h.new S5 c) hn hk hx true)
    | (go_at_call 13; (with_reducible refine hSw.mono ?_); rintro e w6 ⟨rfl, χ6, B6, K6⟩)
  )
  go_ret
  exact ⟨rfl, χ6, B6, (Col.new S5 c).trans K6⟩
theorem put_any (h : Bo w χ c B n b) (hn : n ≤ 200) {k : Int} (hk : I64 k) {x : Cv} (hx : x.word) : Calls Try.prog 9 #[ptr B, eI k, .agg (cA x)] w fun e w' => e = .returned (eI (b.putE k x)) ∧ ∃ χ', Bo w' χ' c B (n + 1) (b.put k x) ∧ Col χ χ' c w w' := by
  cases hm : mB x with
  | false =>
    refine (put_thirty h hk hx hm).mono ?_
    rintro e w' ⟨rfl, T⟩
    have e1 : b.putE k x = 30 := by unfold Bk.putE; rw [hm]; rfl
    unfold Bk.put
    rw [e1]
    exact ⟨rfl, _, (h.new T c).mono (Nat.le_succ n), Col.new T c⟩
  | true =>
    cases hh : b.has k with
    | true =>
      refine (put_twice h hk hx hm hh).mono ?_
      rintro e w' ⟨rfl, T⟩
      have e1 : b.putE k x = 80 := by unfold Bk.putE; rw [hm, hh]; rfl
      unfold Bk.put
      rw [e1]
      exact ⟨rfl, _, (h.new T c).mono (Nat.le_succ n), Col.new T c⟩
    | false =>
      have hd : b.drop k true = b := Bk.drop_no hh
      have e1 : b.putE k x = b.swpE k x true := by unfold Bk.putE Bk.swpE; rw [hm, hh, hd]; rfl
      have e2 : b.put k x = b.swp k x true := by unfold Bk.put Bk.swp; rw [e1, hd]
      rw [e1, e2]
      exact put_swap h hn hk hx hm hh
theorem st_box {P : Program} {ops : Array Oper} {o : Oper} {a : Act} {w : World} {Q : Exit → Act → World → Prop} {K : Act → World → Prop} {E : Prop} (t : TypeId) {x : Operand} {c : Array Value} (hw : Region.wanted o (yielded ops a.tmps) = true) (ho : o.op = .box t x) (hx : a.eval x = .agg c)
    (h : ∀ w', Box w' w.heap.size c t → Below w.heap.size w w' → K (a.put o.dst (.pointer (some ⟨w.heap.size, 0, none⟩))) w') : if Region.wanted o (yielded ops a.tmps) = true then Oper.wp P o a w K Q else E := by
  rw [if_pos hw]
  unfold Oper.wp execOp
  simp only [ho, hx, Sem.run_bind, Instr.box, newVar, newRow, run_newObj_alloc, Sem.run_pure, Result.andThen_ok, Value.cells]
  exact h _ (Box.new w t c) (up1 w _)
theorem mclone_any {F : Int → Value} {ks : List Int} (h : MapV w bm F ks) : Calls Try.prog 37 #[.map (some bm)] w fun e w' => ∃ cm, w.heap.size ≤ cm ∧ e = .returned (.map (some cm)) ∧ MapV w' cm F ks ∧ Below w.heap.size w w' := by
  obtain ⟨D, h1, h2⟩ := h
  have hcon := AnyW.maps_Clone_owns Try.mcl 3 hE bm _ D w h1
  change Calls Try.prog 37 _ _ _ at hcon
  refine hcon.mono ?_
  rintro e w' ⟨rfl, m1, m2, T⟩
  exact ⟨_, Nat.le_refl _, rfl, ⟨D, m1, h2⟩, T⟩
set_option maxHeartbeats 4000000 in
set_option maxRecDepth 100000 in
theorem copy_any (h : Bo w χ c B n b) (hn : n ≤ 900) (d : Nat) : Calls Try.prog 19 #[ptr B] w fun e w' => ∃ C, e = .returned (ptr C) ∧ (∀ χ2, Bo w' (recol χ2 w.heap.size d) d C n b) ∧ Below w.heap.size w w' := by
  obtain ⟨⟨bm, v, h0⟩, hF⟩ := id h
  have hM := made_yes h0 hF
  have hGo := fun W (hW : Below w.heap.size w W) => ghosts_any (h.below hW) hn
  have hMc := fun W (hW : Below w.heap.size w W) => mclone_any (h0.map.below hW)
  have hbl : ∀ (m : Nat) (a : Option Addr) (c : Nat), Try.prog.built 40 [(0, eU b.R), (1, .map (some m)), (2, .slice a b.G.length c)] = some (bA b.R m (.slice a b.G.length c)) := fun m a c => by kernel_rfl
  go_enter Try.func19, Try.ntmps19
  go_upto_region 3 with (first
    | (go_at_call 32; (with_reducible refine hM.mono ?_); rintro e w1 ⟨rfl, rfl⟩))
  refine wp_region_held_drew (S := fun W => Below w.heap.size w W) (by kernel_rfl) (drew_below w) (fun hHeld => ?_)
  refine wpAnyH_take (i := 0) (v := ?_) (by simp only [List.getElem?_toArray, List.getElem?_cons_zero]; rfl) (by kernel_rfl) (by kernel_rfl) (by kernel_rfl) (by exact fun _ _ _ h => h) (Or.inl ⟨by rfl, ?_⟩) (by assumption) ?_
  rotate_left
  · (intro w hSw; (try dsimp only at hSw); go_simp; (try with_reducible rfl))
  try simp only [Act.put, List.setIfInBounds_toArray, List.set_cons_zero, List.set_cons_succ]
  refine wpAnyH_take (i := 1) (v := ?_) (by simp only [List.getElem?_toArray, List.getElem?_cons_zero, List.getElem?_cons_succ]; rfl) (by kernel_rfl) (by kernel_rfl) (by kernel_rfl) (by exact fun _ _ _ h => h) (Or.inl ⟨by rfl, ?_⟩) (by assumption) ?_
  rotate_left
  · (intro w hSw; (try dsimp only at hSw); go_simp; (try with_reducible rfl))
  try simp only [Act.put, List.setIfInBounds_toArray, List.set_cons_zero, List.set_cons_succ]
  refine wpAnyH_take (i := 2) (v := ?_) (by simp only [List.getElem?_toArray, List.getElem?_cons_zero, List.getElem?_cons_succ]; rfl) (by kernel_rfl) (by kernel_rfl) (by kernel_rfl) (by exact fun _ _ _ h => h) (Or.inl ⟨by rfl, ?_⟩) (by assumption) ?_
  rotate_left
  · (intro w hSw; (try dsimp only at hSw); go_simp; (try with_reducible rfl))
  try simp only [Act.put, List.setIfInBounds_toArray, List.set_cons_zero, List.set_cons_succ]
  refine wpAnyH_take (i := 4) (v := ?_) (by simp only [List.getElem?_toArray, List.getElem?_cons_zero, List.getElem?_cons_succ]; rfl) (by kernel_rfl) (by kernel_rfl) (by kernel_rfl) (by exact fun _ _ _ h => h) (Or.inl ⟨by rfl, ?_⟩) (by assumption) ?_
  rotate_left
  · (intro w hSw; (try dsimp only at hSw); go_simp; (try with_reducible rfl))
  try simp only [Act.put, List.setIfInBounds_toArray, List.set_cons_zero, List.set_cons_succ]
  refine wpAnyH_take (i := 5) (v := ?_) (by simp only [List.getElem?_toArray, List.getElem?_cons_zero, List.getElem?_cons_succ]; rfl) (by kernel_rfl) (by kernel_rfl) (by kernel_rfl) (by exact fun _ _ _ h => h) (Or.inl ⟨by rfl, ?_⟩) (by assumption) ?_
  rotate_left
  · (intro w hSw; (try dsimp only at hSw); go_simp; (try with_reducible rfl))
  try simp only [Act.put, List.setIfInBounds_toArray, List.set_cons_zero, List.set_cons_succ]
  refine wpAnyH_take (i := 6) (v := ?_) (by simp only [List.getElem?_toArray, List.getElem?_cons_zero, List.getElem?_cons_succ]; rfl) (by kernel_rfl) (by kernel_rfl) (by kernel_rfl) (by exact fun _ _ _ h => h) (Or.inl ⟨by rfl, ?_⟩) (by assumption) ?_
  rotate_left
  · (intro w hSw; (try dsimp only at hSw); go_simp; (try with_reducible rfl))
  try simp only [Act.put, List.setIfInBounds_toArray, List.set_cons_zero, List.set_cons_succ]
  refine wpAnyH_take (i := 9) (v := ?_) (by simp only [List.getElem?_toArray, List.getElem?_cons_zero, List.getElem?_cons_succ]; rfl) (by kernel_rfl) (by kernel_rfl) (by kernel_rfl) (by exact fun _ _ _ h => h) (Or.inl ⟨by rfl, ?_⟩) (by assumption) ?_
  rotate_left
  · (intro w hSw; (try dsimp only at hSw); go_simp; (try with_reducible rfl))
  try simp only [Act.put, List.setIfInBounds_toArray, List.set_cons_zero, List.set_cons_succ]
  refine wpAnyH_take (i := 3) (v := eU b.R) (by simp only [List.getElem?_toArray, List.getElem?_cons_zero, List.getElem?_cons_succ]; rfl) (by kernel_rfl) (by kernel_rfl) (by kernel_rfl) (by exact fun _ _ _ h => h) (Or.inl ⟨by rfl, fun w hSw => xl_cell 22 (h0.box.below hSw) rfl rfl Try.underlying22 rfl rfl⟩) (by assumption) ?_
  try simp only [Act.put, List.setIfInBounds_toArray, List.set_cons_zero, List.set_cons_succ]
  refine wpAnyH_take (i := 7) (v := .map (some bm)) (by simp only [List.getElem?_toArray, List.getElem?_cons_zero, List.getElem?_cons_succ]; rfl) (by kernel_rfl) (by kernel_rfl) (by kernel_rfl) (by exact fun _ _ _ h => h) (Or.inl ⟨by rfl, fun w hSw => xl_cell 38 (h0.box.below hSw) rfl rfl Try.underlying38 rfl rfl⟩) (by assumption) ?_
  try simp only [Act.put, List.setIfInBounds_toArray, List.set_cons_zero, List.set_cons_succ]
  refine wpAnyH_ready (rs := [8]) (by kernel_rfl) (by simp) ?_
  refine AllReadyH.cons (by simp only [List.getElem?_toArray, List.getElem?_cons_zero, List.getElem?_cons_succ]; rfl) (fun K hK => ?_) AllReadyH.nil
  go_simp
  go_at_call 37
  (with_reducible refine (hMc _ (drew_below w)).mono ?_)
  rintro e w2 ⟨cm, hcm, rfl, M2, T2⟩
  have hS2 := ups (drew_below w) T2 (drew_below w).size
  refine hK.out _ _ hS2 (fun hHeld => ?_)
  clear hK K
  try simp only [Act.put, List.setIfInBounds_toArray, List.set_cons_zero, List.set_cons_succ]
  refine wpAnyH_ready (rs := [10]) (by kernel_rfl) (by simp) ?_
  refine AllReadyH.cons (by simp only [List.getElem?_toArray, List.getElem?_cons_zero, List.getElem?_cons_succ]; rfl) (fun K hK => ?_) AllReadyH.nil
  go_simp
  go_at_call 18
  (with_reducible refine (hGo _ hS2).mono ?_)
  rintro e w3 ⟨v3, rfl, O3, T3⟩
  have hS3 := ups hS2 T3 hS2.size
  obtain ⟨a3, c3, rfl, _⟩ := own_len O3
  refine hK.out _ _ hS3 (fun hHeld => ?_)
  clear hK K
  try simp only [Act.put, List.setIfInBounds_toArray, List.set_cons_zero, List.set_cons_succ]
  refine wpAnyH_take (i := 11) (v := .agg (bA b.R cm (.slice a3 b.G.length c3))) (by simp only [List.getElem?_toArray, List.getElem?_cons_zero, List.getElem?_cons_succ]; rfl) (by kernel_rfl) (by kernel_rfl) (by kernel_rfl) (by exact fun _ _ _ h => h) (Or.inl ⟨by rfl, fun w hSw => xl_build 40 (parts := [(0, .tmp 9), (1, .tmp 14), (2, .tmp 16)]) (hbl _ _ _) rfl⟩) (by assumption) ?_
  try simp only [Act.put, List.setIfInBounds_toArray, List.set_cons_zero, List.set_cons_succ]
  refine wpAnyH_ready (rs := [12]) (by kernel_rfl) (by simp) ?_
  refine AllReadyH.cons (by simp only [List.getElem?_toArray, List.getElem?_cons_zero, List.getElem?_cons_succ]; rfl) (fun K hK => ?_) AllReadyH.nil
  refine st_box 40 rfl rfl rfl ?_
  intro w4 X4 T4
  refine hK.out _ _ (ups hS3 T4 hS3.size) (fun hHeld => ?_)
  clear hK K
  try simp only [Act.put, List.setIfInBounds_toArray, List.set_cons_zero, List.set_cons_succ]
  refine wpAnyH_take (i := 13) (v := ?_) (by simp only [List.getElem?_toArray, List.getElem?_cons_zero, List.getElem?_cons_succ]; rfl) (by kernel_rfl) (by kernel_rfl) (by kernel_rfl) (by exact fun _ _ _ h => h) (Or.inl ⟨by rfl, ?_⟩) (by assumption) ?_
  rotate_left
  · (intro w hSw; (try dsimp only at hSw); go_simp; (try with_reducible rfl))
  try simp only [Act.put, List.setIfInBounds_toArray, List.set_cons_zero, List.set_cons_succ]
  refine wpAnyH_done (by kernel_rfl) ?_ _
  clear hHeld
  go_wp2_with fail
  go_ret
  have hz : w.heap.size ≤ w3.heap.size := hS3.size
  refine ⟨_, rfl, fun χ2 => ⟨⟨cm, .slice a3 b.G.length c3, ⟨X4, recol_ge hz, recol_ge hcm, (M2.below T3).below T4, own_below (own_mono O3 (Nat.zero_le _)) T4, fun g e => recol_ge (Nat.le_trans hS2.size (O3.lt g e).1)⟩⟩, hF⟩, ups hS3 T4 hS3.size⟩
end
end Go.Proofs.Ytjbpaapglamilaa.H
