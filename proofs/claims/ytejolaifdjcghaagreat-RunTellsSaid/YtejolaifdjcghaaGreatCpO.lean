/- The document's copies of a curve, as an object: two rows that grow side by side. -/
import Derived.Test.YtejolaifdjcghaaGreatSgX
import Derived.Deep.AppendLies
import Derived.Deep.RegionHeld3
import Derived.Deep.RegionLaw
import Derived.Deep.DeepCutAuto
import Derived.Deep.CutBlock
namespace Go.Proofs.YtejolaifdjcghaaGreat
open Go.RowKit Go.Shelf W
set_option linter.unusedVariables false
set_option maxRecDepth 100000
theorem wOwn_cell {w : World} {base : Nat} {g n cap : Nat} {cs : List Int} (h : w.ownsRow base 22 1 (.slice (some ⟨g, 0, none⟩) n cap) cs.length (cs.map eU)) {j : Nat} (hj : j < cs.length) :
    w.cell? ⟨g, j, none⟩ = some (.int .u64 (cs.getD j 0)) := by
  have := h.cells (g := g) rfl j (eU (cs.getD j 0)) (by simp [List.getD, List.getElem?_eq_getElem hj])
  have hadd : (⟨g, 0, none⟩ : Addr).add j = ⟨g, j, none⟩ := by unfold Addr.add; split <;> simp_all
  rwa [hadd] at this
theorem wOwn_some {w : World} {base : Nat} {v : Value} {n : Nat} {xs : List Value} (h : w.ownsRow base 22 1 v n xs) (h0 : 0 < n) : ∃ g cap, v = .slice (some ⟨g, 0, none⟩) n cap ∧ n ≤ cap ∧ base ≤ g ∧ g < w.heap.size := by
  rcases h.2 with ⟨_, e⟩ | ⟨g, cap, cur, e, hb, hg, hc, _⟩
  · omega
  · exact ⟨g, cap, e, hc, hb, (Array.getElem?_eq_some_iff.1 hg).1⟩
theorem wOwn_len {w : World} {base : Nat} {v : Value} {n : Nat} {xs : List Value} (h : w.ownsRow base 22 1 v n xs) : ∃ a cap, v = .slice a n cap ∧ n ≤ cap := by
  rcases h.2 with ⟨e, e2⟩ | ⟨g, cap, cur, e, hb, hg, hc, _⟩
  · subst e2; exact ⟨none, 0, e, Nat.le_refl _⟩
  · exact ⟨_, cap, e, hc⟩
theorem wOwn_below {w w' : World} {base : Nat} {v : Value} {n : Nat} {xs : List Value} (h : w.ownsRow base 22 1 v n xs) (hb : Below w.heap.size w w') : w'.ownsRow base 22 1 v n xs :=
  h.kept (row := none) ⟨hb.os, hb.tape, hb.output, hb.size, fun j hj _ => hb.block j hj⟩ (by cases v.ownBlock <;> simp)
/-- A row is no box of another type. -/
theorem wOwn_ne {W : World} {base : Nat} {v : Value} {k : Nat} {xs : List Value} (h : W.ownsRow base 22 1 v k xs) {B : Nat} {u : Array Value} {t : TypeId} (hB : Box W B u t) (ht : t ≠ 22) : v.ownBlock = none ∨ v.ownBlock ≠ some B := by
  rcases h.2 with ⟨rfl, _⟩ | ⟨g, cap, cur, rfl, _, hg, _⟩
  · exact .inl rfl
  · refine .inr fun e => ?_
    obtain rfl : g = B := by simpa [Value.ownBlock] using e
    rw [show W.heap[g]? = _ from hB] at hg
    cases hg
    exact ht rfl
theorem wPut (W : World) (b i : Nat) (v : Value) : W.grownBy (W.setCell ⟨b, i, none⟩ v) (some b) :=
  ⟨rfl, rfl, rfl, by simp [World.setCell], fun k _ hk => Below.heap_setCell _ _ _ k (by show k ≠ b; exact fun e => hk (by rw [e]))⟩
/-- Block B holds the copies of a curve: when they started, from what on. -/
structure Cp (m : Nat) (w : World) (B : Nat) (f l r : Int) (xs ys : List Int) (vX vY : Value) : Prop where
  box : Box w B #[eU f, eU l, eU r, vX, vY] 63
  rx : w.ownsRow m 22 1 vX xs.length (xs.map eU)
  ry : w.ownsRow m 22 1 vY ys.length (ys.map eU)
  ne : vX.ownBlock = none ∨ vX.ownBlock ≠ vY.ownBlock
theorem Cp.below {m : Nat} {w w' : World} {B : Nat} {f l r : Int} {xs ys : List Int} {vX vY : Value} (h : Cp m w B f l r xs ys vX vY) (hb : Below w.heap.size w w') : Cp m w' B f l r xs ys vX vY :=
  ⟨h.box.below hb, wOwn_below h.rx hb, wOwn_below h.ry hb, h.ne⟩
theorem Cp.drew {m : Nat} {w : World} {B : Nat} {f l r : Int} {xs ys : List Int} {vX vY : Value} (h : Cp m w B f l r xs ys vX vY) : Cp m w.drew B f l r xs ys vX vY := h.below (Below.refl _ w).drew
/-- What is done at a box of another type leaves them. -/
theorem Cp.but {m : Nat} {w w' : World} {B B' : Nat} {f l r : Int} {xs ys : List Int} {vX vY : Value} {u : Array Value} {t : TypeId} (h : Cp m w B f l r xs ys vX vY) (hb : But B' w w') (b : Box w B' u t) (h1 : t ≠ 22) (h2 : t ≠ 63) : Cp m w' B f l r xs ys vX vY := by
  have hne : B ≠ B' := fun e => by
    subst e
    have e1 : w.heap[B]? = _ := b
    rw [show w.heap[B]? = _ from h.box] at e1
    cases e1
    exact h2 rfl
  have g : w.grownBy w' (some B') := ⟨hb.os, hb.tape, hb.output, hb.size, fun k hk hn => hb.block k hk (fun e => hn (by rw [e]))⟩
  exact ⟨hb.box h.box hne, h.rx.kept g (wOwn_ne h.rx b h1), h.ry.kept g (wOwn_ne h.ry b h1), h.ne⟩
theorem Cp.cells {m : Nat} {w : World} {B : Nat} {f l r : Int} {xs ys : List Int} {vX vY : Value} (h : Cp m w B f l r xs ys vX vY) :
    w.cell? ⟨B, 0, none⟩ = some (.int .u64 f) ∧ w.cell? ⟨B, 1, none⟩ = some (.int .u64 l) ∧ w.cell? ⟨B, 2, none⟩ = some (.int .u64 r) ∧ w.cell? ⟨B, 3, none⟩ = some vX ∧ w.cell? ⟨B, 4, none⟩ = some vY :=
  ⟨h.box.cell 0, h.box.cell 1, h.box.cell 2, h.box.cell 3, h.box.cell 4⟩
/-- When the last one started. -/
def lastOf (xs : List Int) : Int := xs.getD (xs.length - 1) 0
theorem c_last (m : Nat) (B : Nat) (f l r : Int) (xs ys : List Int) (vX vY : Value) (w : World) (hl : xs.length ≤ 1000) (h : Cp m w B f l r xs ys vX vY) :
    Calls Tryz.prog 32 #[.pointer (some ⟨B, 0, none⟩)] w fun e w' => e = .returned (eU (lastOf xs)) ∧ Below w.heap.size w w' := by
  obtain ⟨c0, c1, c2, c3, c4⟩ := h.cells
  rcases Nat.eq_zero_or_pos xs.length with h0 | h0
  · have ex : xs = [] := List.eq_nil_of_length_eq_zero h0
    subst ex
    obtain ⟨a, cap, rfl, _⟩ := wOwn_len h.rx
    clear h
    go_enter Tryz.func32, Tryz.ntmps32
    go_wp2
    go_ret
    exact ⟨rfl, Below.refl _ _⟩
  · obtain ⟨g, cap, rfl, hc, _, hg⟩ := wOwn_some h.rx h0
    have hz := wOwn_cell h.rx (j := xs.length - 1) (by omega)
    obtain ⟨v, hv⟩ : ∃ v, lastOf xs = v := ⟨_, rfl⟩
    obtain ⟨i, hi⟩ : ∃ i, xs.length - 1 = i := ⟨_, rfl⟩
    unfold lastOf at hv
    rw [hi] at hz hv
    rw [hv] at hz
    have hV : Hid (lastOf xs = v) := by show lastOf xs = v; unfold lastOf; rw [hi]; exact hv
    have hn0 : ((xs.length : Int) == 0) = false := by simp only [beq_eq_false_iff_ne]; omega
    have hi2 : (xs.length : Int) - 1 = (i : Int) := by omega
    have hi3 : (i : Int) < (xs.length : Int) := by omega
    have hi4 : (0 : Int) ≤ (i : Int) := by omega
    have hcc : (xs.length : Int) ≤ (cap : Int) := by omega
    clear h hv hi
    go_enter Tryz.func32, Tryz.ntmps32
    go_wp2
    go_region
    all_goals go_wp2
    all_goals go_ret
    all_goals exact ⟨by rw [hV.out]; rfl, (Below.refl _ w).drew⟩
/-- What the copies grow by: a copy that starts. -/
theorem infoU : (Tryz.prog.info? 22).map (fun i => (i.zero, i.size, i.bytes)) = some (some (.int .u64 0), 1, 8) := by kernel_rfl
theorem c_info : ∃ i : TypeInfo, Tryz.prog.info? 22 = some i ∧ i.zero = some (.int .u64 0) ∧ i.size = 1 ∧ i.bytes = 8 := by
  have h := infoU
  cases hh : Tryz.prog.info? 22 with
  | none => rw [hh] at h; cases h
  | some i =>
    rw [hh] at h
    simp only [Option.map_some, Option.some.injEq, Prod.mk.injEq] at h
    exact ⟨i, rfl, h.1, h.2.1, h.2.2⟩
theorem one_new (w : World) (x : Int) : ∀ j u, [eU x][j]? = some u → (w.alloc (.cells #[eU x] 22)).cell? ((⟨w.heap.size, 0, none⟩ : Addr).add j) = some u := by
  intro j u hj
  match j, hj with
  | 0, hj => simp at hj; subst hj; simp [Addr.add]
theorem wGrown_box {w1 w2 : World} {m k : Nat} {v : Value} {n : Nat} {cs : List Value} {u : Array Value} {t : TypeId} {o : Obj} (h : w1.ownsRow m 22 1 v n cs) (hg : (w1.alloc o).grownBy w2 v.ownBlock) (b : Box w1 k u t) (ht : t ≠ 22) : Box w2 k u t := by
  have b' := b.alloc o
  have hne := wOwn_ne h b ht
  exact (hg.block k b'.lt (fun e => by
    rcases hne with e1 | e1
    · rw [e1] at e; cases e
    · exact e1 e.symm)).trans b'
theorem wGrown_below {w1 w2 : World} {m : Nat} {v : Value} {n : Nat} {cs : List Value} {o : Obj} (h : w1.ownsRow m 22 1 v n cs) (hg : (w1.alloc o).grownBy w2 v.ownBlock) (hm : m ≤ w1.heap.size) : Below m w1 w2 :=
  ((Below.refl m w1).alloc hm o).grown hg (by simp; omega) (fun k hk => (h.lt k hk).1)
theorem Box.typ {w : World} {k : Nat} {u u' : Array Value} {t t' : TypeId} (b' : Box w k u' t') (b : Box w k u t) : t = t' := by
  have e1 : w.heap[k]? = _ := b
  rw [show w.heap[k]? = _ from b'] at e1
  cases e1
  rfl
theorem wPut_box {W : World} {B i : Nat} {v : Value} {k : Nat} {u : Array Value} {t : TypeId} (b : Box W k u t) (h : k ≠ B) : Box (W.setCell ⟨B, i, none⟩ v) k u t :=
  (Below.heap_setCell _ _ _ k (by exact h)).trans b
/-- The rows of the starts has grown by one, and its slice is laid back. -/
theorem Cp.growX {m : Nat} {w1 w2 : World} {B g cap : Nat} {f l r x : Int} {xs ys : List Int} {vX vY : Value} {o : Obj} (h : Cp m w1 B f l r xs ys vX vY)
    (hown : w2.ownsRow m 22 1 (.slice (some ⟨g, 0, none⟩) (xs.length + 1) cap) (xs.length + 1) (xs.map eU ++ [eU x])) (hg : (w1.alloc o).grownBy w2 vX.ownBlock) (hat : vX.ownBlock = some g ∨ g = w1.heap.size + 1) :
    Box w2 B #[eU f, eU l, eU r, vX, vY] 63 ∧ Cp m (w2.setCell ⟨B, 3, none⟩ (.slice (some ⟨g, 0, none⟩) (xs.length + 1) cap)) B f l r (xs ++ [x]) ys (.slice (some ⟨g, 0, none⟩) (xs.length + 1) cap) vY := by
  have hb := wGrown_box h.rx hg h.box (by decide)
  have hy : w2.ownsRow m 22 1 vY ys.length (ys.map eU) := (h.ry.alloc o).kept hg (by
    rcases h.ne with e | e
    · rw [e]
      cases hv : vY.ownBlock with
      | none => exact .inl rfl
      | some k => exact .inr (by simp)
    · exact .inr (fun e' => e e'.symm))
  refine ⟨hb, ⟨Box.set hb 3 _, ?_, hy.kept (wPut _ _ _ _) (wOwn_ne hy hb (by decide)), .inr ?_⟩⟩
  · have h1 := hown.kept (wPut w2 B 3 (.slice (some ⟨g, 0, none⟩) (xs.length + 1) cap)) (wOwn_ne hown hb (by decide))
    simpa using h1
  · intro e
    have e' : vY.ownBlock = some g := by simpa [Value.ownBlock] using e.symm
    rcases hat with e1 | e1
    · rcases h.ne with e2 | e2
      · rw [e2] at e1; cases e1
      · exact e2 (e1.trans e'.symm)
    · have := (h.ry.lt g e').2
      omega
theorem Cp.growY {m : Nat} {w1 w2 : World} {B g cap : Nat} {f l r x : Int} {xs ys : List Int} {vX vY : Value} {o : Obj} (h : Cp m w1 B f l r xs ys vX vY)
    (hown : w2.ownsRow m 22 1 (.slice (some ⟨g, 0, none⟩) (ys.length + 1) cap) (ys.length + 1) (ys.map eU ++ [eU x])) (hg : (w1.alloc o).grownBy w2 vY.ownBlock) (hat : vY.ownBlock = some g ∨ g = w1.heap.size + 1) :
    Box w2 B #[eU f, eU l, eU r, vX, vY] 63 ∧ Cp m (w2.setCell ⟨B, 4, none⟩ (.slice (some ⟨g, 0, none⟩) (ys.length + 1) cap)) B f l r xs (ys ++ [x]) vX (.slice (some ⟨g, 0, none⟩) (ys.length + 1) cap) := by
  have hb := wGrown_box h.ry hg h.box (by decide)
  have hne : vX.ownBlock = none ∨ vX.ownBlock ≠ vY.ownBlock := h.ne
  have hx : w2.ownsRow m 22 1 vX xs.length (xs.map eU) := (h.rx.alloc o).kept hg hne
  refine ⟨hb, ⟨Box.set hb 4 _, hx.kept (wPut _ _ _ _) (wOwn_ne hx hb (by decide)), ?_, ?_⟩⟩
  · have h1 := hown.kept (wPut w2 B 4 (.slice (some ⟨g, 0, none⟩) (ys.length + 1) cap)) (wOwn_ne hown hb (by decide))
    simpa using h1
  · rcases hne with e | e
    · exact .inl e
    · refine .inr fun e2 => ?_
      have e' : vX.ownBlock = some g := by simpa [Value.ownBlock] using e2
      rcases hat with e1 | e1
      · exact e (e'.trans e1.symm)
      · have := (h.rx.lt g e').2
        omega
theorem one_one (x : Int) : ∀ u ∈ [eU x], u.oneCell' = true := by
  intro u hu
  simp at hu
  subst hu
  rfl
set_option maxHeartbeats 4000000 in
theorem c_start (m : Nat) (B : Nat) (f l r X Y X1 Y1 X2 : Int) (xs ys : List Int) (vX vY : Value) (w : World) (hl : xs.length ≤ 1000) (hl2 : ys.length ≤ 1000) (hm : m ≤ w.heap.size) (hB : m ≤ B)
    (hX : min X 9223372036854775808 = X1) (hX2 : max X1 (lastOf xs) = X2) (hY : min Y 4611686018427387904 = Y1) (h : Cp m w B f l r xs ys vX vY) :
    Calls Tryz.prog 28 #[.pointer (some ⟨B, 0, none⟩), eU X, eU Y] w fun e w' => e = .returned (.tuple #[]) ∧ (∃ uX uY, Cp m w' B f l r (xs ++ [X2]) (ys ++ [Y1]) uX uY) ∧ Below m w w' ∧ ∀ k u t, Box w k u t → t ≠ 22 → t ≠ 63 → Box w' k u t := by
  obtain ⟨i0, hi, hz0, hz1, hz2⟩ := c_info
  have H := h
  have hL := fun w h => c_last m B f l r xs ys vX vY w hl h
  obtain ⟨c0, c1, c2, c3, c4⟩ := h.cells
  have f3 := h.box.thaw 3
  have f4 := h.box.thaw 4
  have h63 : xs.length + 1 ≤ maxLen := by unfold maxLen; omega
  have h64 : (xs.length + 1) * 8 ≤ 140737488355328 := by omega
  have g63 : ys.length + 1 ≤ maxLen := by unfold maxLen; omega
  have g64 : (ys.length + 1) * 8 ≤ 140737488355328 := by omega
  clear h
  go_enter Tryz.func28, Tryz.ntmps28
  go_upto_region 0 with fail
  go_cut [] (fun wx => (∃ uX, Cp m wx B f l r (xs ++ [X2]) ys uX vY) ∧ Below m w wx ∧ ∀ k u t, Box w k u t → t ≠ 22 → t ≠ 63 → Box wx k u t)
  case first =>
    refine wp_region_held_drew (S := fun _ => True) (by kernel_rfl) trivial (fun hHeld => ?_)
    refine wpAnyH_take (i := 0) (v := ?_) (by simp only [List.getElem?_toArray, List.getElem?_cons_zero]; rfl) (by kernel_rfl) (by kernel_rfl) (by kernel_rfl) (by exact fun _ _ _ h => h) (Or.inl ⟨by rfl, ?_⟩) (by assumption) ?_
    rotate_left
    · (intro w hSw; (try dsimp only at hSw); go_simp; (try with_reducible rfl))
    try simp only [Act.put, List.setIfInBounds_toArray, List.set_cons_zero, List.set_cons_succ]
    refine wpAnyH_take (i := 1) (v := ?_) (by simp only [List.getElem?_toArray, List.getElem?_cons_zero, List.getElem?_cons_succ]; rfl) (by kernel_rfl) (by kernel_rfl) (by kernel_rfl) (by exact fun _ _ _ h => h) (Or.inl ⟨by rfl, ?_⟩) (by assumption) ?_
    rotate_left
    · (intro w hSw; (try dsimp only at hSw); go_simp; (try with_reducible rfl))
    try simp only [Act.put, List.setIfInBounds_toArray, List.set_cons_zero, List.set_cons_succ]
    refine wpAnyH_take (i := 2) (v := ?_) (by simp only [List.getElem?_toArray, List.getElem?_cons_zero, List.getElem?_cons_succ]; rfl) (by kernel_rfl) (by kernel_rfl) (by kernel_rfl) (by exact fun _ _ _ h => h) (Or.inl ⟨by rfl, ?_⟩) (by assumption) ?_
    rotate_left
    · (intro w hSw; (try dsimp only at hSw); go_simp; (try with_reducible rfl))
    try simp only [Act.put, List.setIfInBounds_toArray, List.set_cons_zero, List.set_cons_succ]
    refine wpAnyH_take (i := 3) (v := ?_) (by simp only [List.getElem?_toArray, List.getElem?_cons_zero, List.getElem?_cons_succ]; rfl) (by kernel_rfl) (by kernel_rfl) (by kernel_rfl) (by exact fun _ _ _ h => h) (Or.inl ⟨by rfl, ?_⟩) (by assumption) ?_
    rotate_left
    · (intro w hSw; (try dsimp only at hSw); go_simp; (try with_reducible rfl))
    try simp only [Act.put, List.setIfInBounds_toArray, List.set_cons_zero, List.set_cons_succ]
    refine wpAnyH_take (i := 5) (v := ?_) (by simp only [List.getElem?_toArray, List.getElem?_cons_zero, List.getElem?_cons_succ]; rfl) (by kernel_rfl) (by kernel_rfl) (by kernel_rfl) (by exact fun _ _ _ h => h) (Or.inl ⟨by rfl, ?_⟩) (by assumption) ?_
    rotate_left
    · (intro w hSw; (try dsimp only at hSw); go_simp; (try with_reducible rfl))
    try simp only [Act.put, List.setIfInBounds_toArray, List.set_cons_zero, List.set_cons_succ]
    refine wpAnyH_take (i := 6) (v := ?_) (by simp only [List.getElem?_toArray, List.getElem?_cons_zero, List.getElem?_cons_succ]; rfl) (by kernel_rfl) (by kernel_rfl) (by kernel_rfl) (by exact fun _ _ _ h => h) (Or.inl ⟨by rfl, ?_⟩) (by assumption) ?_
    rotate_left
    · (intro w hSw; (try dsimp only at hSw); go_simp; (try with_reducible rfl))
    try simp only [Act.put, List.setIfInBounds_toArray, List.set_cons_zero, List.set_cons_succ]
    refine wpAnyH_take (i := 7) (v := ?_) (by simp only [List.getElem?_toArray, List.getElem?_cons_zero, List.getElem?_cons_succ]; rfl) (by kernel_rfl) (by kernel_rfl) (by kernel_rfl) (by exact fun _ _ _ h => h) (Or.inl ⟨by rfl, ?_⟩) (by assumption) ?_
    rotate_left
    · (intro w hSw; (try dsimp only at hSw); go_simp; (try with_reducible rfl))
    try simp only [Act.put, List.setIfInBounds_toArray, List.set_cons_zero, List.set_cons_succ]
    refine wpAnyH_ready (rs := [4, 8]) (by kernel_rfl) (by simp) ?_
    refine AllReadyH.cons (by simp only [List.getElem?_toArray, List.getElem?_cons_zero, List.getElem?_cons_succ]; rfl) (fun K hK => ?_) ?_
    · go_simp
      refine hK.out _ _ trivial (fun hHeld => ?_)
      clear hK K
      try simp only [Act.put, List.setIfInBounds_toArray, List.set_cons_zero, List.set_cons_succ]
      refine wpAnyH_ready (rs := [8]) (by kernel_rfl) (by simp) ?_
      refine AllReadyH.cons (by simp only [List.getElem?_toArray, List.getElem?_cons_zero, List.getElem?_cons_succ]; rfl) (fun K hK => ?_) AllReadyH.nil
      go_simp
      (go_at_call 32; (with_reducible refine (hL _ (by first | exact H | exact H.drew)).mono ?_); rintro e w1 ⟨rfl, hb⟩; (first | replace hb := undrew hb | replace hb := undrewN hb | skip); replace H := H.below hb; have c3w := H.cells.2.2.2.1; have c3a : (w1.alloc (.cells #[.int .u64 X2] 22)).cell? ⟨B, 3, none⟩ = some vX := (H.box.alloc _).cell 3)
      refine hK.out _ _ trivial (fun hHeld => ?_)
      clear hK K
      try simp only [Act.put, List.setIfInBounds_toArray, List.set_cons_zero, List.set_cons_succ]
      refine wpAnyH_ready (rs := [9]) (by kernel_rfl) (by simp) ?_
      refine AllReadyH.cons (by simp only [List.getElem?_toArray, List.getElem?_cons_zero, List.getElem?_cons_succ]; rfl) (fun K hK => ?_) AllReadyH.nil
      go_simp
      refine hK.out _ _ trivial (fun hHeld => ?_)
      clear hK K
      try simp only [Act.put, List.setIfInBounds_toArray, List.set_cons_zero, List.set_cons_succ]
      refine wpAnyH_ready (rs := [10]) (by kernel_rfl) (by simp) ?_
      refine AllReadyH.cons (by simp only [List.getElem?_toArray, List.getElem?_cons_zero, List.getElem?_cons_succ]; rfl) (fun K hK => ?_) AllReadyH.nil
      go_simp
      refine hK.out _ _ trivial (fun hHeld => ?_)
      clear hK K
      try simp only [Act.put, List.setIfInBounds_toArray, List.set_cons_zero, List.set_cons_succ]
      refine wpAnyH_ready (rs := [11]) (by kernel_rfl) (by simp) ?_
      refine AllReadyH.cons (by simp only [List.getElem?_toArray, List.getElem?_cons_zero, List.getElem?_cons_succ]; rfl) (fun K hK => ?_) AllReadyH.nil
      refine step_append_lies _ (by rfl) _ _ _ (by rfl) m 22 i0 _ 1 8 Tryz.underlying52 hi hz0 hz1 hz2 rfl (by decide) vX xs.length (xs.map eU) (by rfl) (H.rx.alloc _) ⟨w1.heap.size, 0, none⟩ 1 1 [eU X2] (by rfl) rfl (one_new _ _) (one_one _) (by decide) h63 h64 (by have := hb.size; simp; omega) (w1.heap.size + 1) (by simp) ?_
      intro g cap w2 hown hgrow hat hlt
      obtain ⟨hbx, hcp⟩ := H.growX hown hgrow hat
      have f3' := hbx.thaw 3
      have c3' : w2.cell? ⟨B, 3, none⟩ = some vX := hbx.cell 3
      refine hK.out _ _ trivial (fun hHeld => ?_)
      clear hK K
      try simp only [Act.put, List.setIfInBounds_toArray, List.set_cons_zero, List.set_cons_succ]
      refine wpAnyH_take (i := 12) (v := ?_) (by simp only [List.getElem?_toArray, List.getElem?_cons_zero, List.getElem?_cons_succ]; rfl) (by kernel_rfl) (by kernel_rfl) (by kernel_rfl) (by exact fun _ _ _ h => h) (Or.inl ⟨by rfl, ?_⟩) (by assumption) ?_
      rotate_left
      · (intro w hSw; (try dsimp only at hSw); go_simp; (try with_reducible rfl))
      try simp only [Act.put, List.setIfInBounds_toArray, List.set_cons_zero, List.set_cons_succ]
      refine wpAnyH_take (i := 13) (v := ?_) (by simp only [List.getElem?_toArray, List.getElem?_cons_zero, List.getElem?_cons_succ]; rfl) (by kernel_rfl) (by kernel_rfl) (by kernel_rfl) (by exact fun _ _ _ h => h) (Or.inl ⟨by rfl, ?_⟩) (by assumption) ?_
      rotate_left
      · (intro w hSw; (try dsimp only at hSw); go_simp; (try with_reducible rfl))
      try simp only [Act.put, List.setIfInBounds_toArray, List.set_cons_zero, List.set_cons_succ]
      refine wpAnyH_ready (rs := [14]) (by kernel_rfl) (by simp) ?_
      refine AllReadyH.cons (by simp only [List.getElem?_toArray, List.getElem?_cons_zero, List.getElem?_cons_succ]; rfl) (fun K hK => ?_) AllReadyH.nil
      go_simp
      refine hK.out _ _ trivial (fun hHeld => ?_)
      clear hK K
      try simp only [Act.put, List.setIfInBounds_toArray, List.set_cons_zero, List.set_cons_succ]
      refine wpAnyH_done (by kernel_rfl) ?_ _
      (go_wp2_with fail); (all_goals go_meet); (have hA := wGrown_below H.rx hgrow (by have := hb.size; omega)); exact ⟨⟨_, hcp⟩, ((hb.mono hm).trans hA).setCell hB _, fun k u t hk ht1 ht2 => wPut_box (wGrown_box H.rx hgrow (hk.below hb) ht1) (fun e => by subst e; exact ht2 (Box.typ hbx (wGrown_box H.rx hgrow (hk.below hb) ht1)))⟩
    refine AllReadyH.cons (by simp only [List.getElem?_toArray, List.getElem?_cons_zero, List.getElem?_cons_succ]; rfl) (fun K hK => ?_) AllReadyH.nil
    · go_simp
      (go_at_call 32; (with_reducible refine (hL _ (by first | exact H | exact H.drew)).mono ?_); rintro e w1 ⟨rfl, hb⟩; (first | replace hb := undrew hb | replace hb := undrewN hb | skip); replace H := H.below hb; have c3w := H.cells.2.2.2.1; have c3a : (w1.alloc (.cells #[.int .u64 X2] 22)).cell? ⟨B, 3, none⟩ = some vX := (H.box.alloc _).cell 3)
      refine hK.out _ _ trivial (fun hHeld => ?_)
      clear hK K
      try simp only [Act.put, List.setIfInBounds_toArray, List.set_cons_zero, List.set_cons_succ]
      refine wpAnyH_take (i := 9) (v := ?_) (by simp only [List.getElem?_toArray, List.getElem?_cons_zero, List.getElem?_cons_succ]; rfl) (by kernel_rfl) (by kernel_rfl) (by kernel_rfl) (by exact fun _ _ _ h => h) (Or.inl ⟨by rfl, ?_⟩) (by assumption) ?_
      rotate_left
      · (intro w hSw; (try dsimp only at hSw); go_simp; (try with_reducible rfl))
      try simp only [Act.put, List.setIfInBounds_toArray, List.set_cons_zero, List.set_cons_succ]
      refine wpAnyH_ready (rs := [4, 10]) (by kernel_rfl) (by simp) ?_
      refine AllReadyH.cons (by simp only [List.getElem?_toArray, List.getElem?_cons_zero, List.getElem?_cons_succ]; rfl) (fun K hK => ?_) ?_
      · go_simp
        refine hK.out _ _ trivial (fun hHeld => ?_)
        clear hK K
        try simp only [Act.put, List.setIfInBounds_toArray, List.set_cons_zero, List.set_cons_succ]
        refine wpAnyH_ready (rs := [10]) (by kernel_rfl) (by simp) ?_
        refine AllReadyH.cons (by simp only [List.getElem?_toArray, List.getElem?_cons_zero, List.getElem?_cons_succ]; rfl) (fun K hK => ?_) AllReadyH.nil
        go_simp
        refine hK.out _ _ trivial (fun hHeld => ?_)
        clear hK K
        try simp only [Act.put, List.setIfInBounds_toArray, List.set_cons_zero, List.set_cons_succ]
        refine wpAnyH_ready (rs := [11]) (by kernel_rfl) (by simp) ?_
        refine AllReadyH.cons (by simp only [List.getElem?_toArray, List.getElem?_cons_zero, List.getElem?_cons_succ]; rfl) (fun K hK => ?_) AllReadyH.nil
        refine step_append_lies _ (by rfl) _ _ _ (by rfl) m 22 i0 _ 1 8 Tryz.underlying52 hi hz0 hz1 hz2 rfl (by decide) vX xs.length (xs.map eU) (by rfl) (H.rx.alloc _) ⟨w1.heap.size, 0, none⟩ 1 1 [eU X2] (by rfl) rfl (one_new _ _) (one_one _) (by decide) h63 h64 (by have := hb.size; simp; omega) (w1.heap.size + 1) (by simp) ?_
        intro g cap w2 hown hgrow hat hlt
        obtain ⟨hbx, hcp⟩ := H.growX hown hgrow hat
        have f3' := hbx.thaw 3
        have c3' : w2.cell? ⟨B, 3, none⟩ = some vX := hbx.cell 3
        refine hK.out _ _ trivial (fun hHeld => ?_)
        clear hK K
        try simp only [Act.put, List.setIfInBounds_toArray, List.set_cons_zero, List.set_cons_succ]
        refine wpAnyH_take (i := 12) (v := ?_) (by simp only [List.getElem?_toArray, List.getElem?_cons_zero, List.getElem?_cons_succ]; rfl) (by kernel_rfl) (by kernel_rfl) (by kernel_rfl) (by exact fun _ _ _ h => h) (Or.inl ⟨by rfl, ?_⟩) (by assumption) ?_
        rotate_left
        · (intro w hSw; (try dsimp only at hSw); go_simp; (try with_reducible rfl))
        try simp only [Act.put, List.setIfInBounds_toArray, List.set_cons_zero, List.set_cons_succ]
        refine wpAnyH_take (i := 13) (v := ?_) (by simp only [List.getElem?_toArray, List.getElem?_cons_zero, List.getElem?_cons_succ]; rfl) (by kernel_rfl) (by kernel_rfl) (by kernel_rfl) (by exact fun _ _ _ h => h) (Or.inl ⟨by rfl, ?_⟩) (by assumption) ?_
        rotate_left
        · (intro w hSw; (try dsimp only at hSw); go_simp; (try with_reducible rfl))
        try simp only [Act.put, List.setIfInBounds_toArray, List.set_cons_zero, List.set_cons_succ]
        refine wpAnyH_ready (rs := [14]) (by kernel_rfl) (by simp) ?_
        refine AllReadyH.cons (by simp only [List.getElem?_toArray, List.getElem?_cons_zero, List.getElem?_cons_succ]; rfl) (fun K hK => ?_) AllReadyH.nil
        go_simp
        refine hK.out _ _ trivial (fun hHeld => ?_)
        clear hK K
        try simp only [Act.put, List.setIfInBounds_toArray, List.set_cons_zero, List.set_cons_succ]
        refine wpAnyH_done (by kernel_rfl) ?_ _
        (go_wp2_with fail); (all_goals go_meet); (have hA := wGrown_below H.rx hgrow (by have := hb.size; omega)); exact ⟨⟨_, hcp⟩, ((hb.mono hm).trans hA).setCell hB _, fun k u t hk ht1 ht2 => wPut_box (wGrown_box H.rx hgrow (hk.below hb) ht1) (fun e => by subst e; exact ht2 (Box.typ hbx (wGrown_box H.rx hgrow (hk.below hb) ht1)))⟩
      refine AllReadyH.cons (by simp only [List.getElem?_toArray, List.getElem?_cons_zero, List.getElem?_cons_succ]; rfl) (fun K hK => ?_) AllReadyH.nil
      · go_simp
        refine hK.out _ _ trivial (fun hHeld => ?_)
        clear hK K
        try simp only [Act.put, List.setIfInBounds_toArray, List.set_cons_zero, List.set_cons_succ]
        refine wpAnyH_ready (rs := [4]) (by kernel_rfl) (by simp) ?_
        refine AllReadyH.cons (by simp only [List.getElem?_toArray, List.getElem?_cons_zero, List.getElem?_cons_succ]; rfl) (fun K hK => ?_) AllReadyH.nil
        go_simp
        refine hK.out _ _ trivial (fun hHeld => ?_)
        clear hK K
        try simp only [Act.put, List.setIfInBounds_toArray, List.set_cons_zero, List.set_cons_succ]
        refine wpAnyH_ready (rs := [11]) (by kernel_rfl) (by simp) ?_
        refine AllReadyH.cons (by simp only [List.getElem?_toArray, List.getElem?_cons_zero, List.getElem?_cons_succ]; rfl) (fun K hK => ?_) AllReadyH.nil
        refine step_append_lies _ (by rfl) _ _ _ (by rfl) m 22 i0 _ 1 8 Tryz.underlying52 hi hz0 hz1 hz2 rfl (by decide) vX xs.length (xs.map eU) (by rfl) (H.rx.alloc _) ⟨w1.heap.size, 0, none⟩ 1 1 [eU X2] (by rfl) rfl (one_new _ _) (one_one _) (by decide) h63 h64 (by have := hb.size; simp; omega) (w1.heap.size + 1) (by simp) ?_
        intro g cap w2 hown hgrow hat hlt
        obtain ⟨hbx, hcp⟩ := H.growX hown hgrow hat
        have f3' := hbx.thaw 3
        have c3' : w2.cell? ⟨B, 3, none⟩ = some vX := hbx.cell 3
        refine hK.out _ _ trivial (fun hHeld => ?_)
        clear hK K
        try simp only [Act.put, List.setIfInBounds_toArray, List.set_cons_zero, List.set_cons_succ]
        refine wpAnyH_take (i := 12) (v := ?_) (by simp only [List.getElem?_toArray, List.getElem?_cons_zero, List.getElem?_cons_succ]; rfl) (by kernel_rfl) (by kernel_rfl) (by kernel_rfl) (by exact fun _ _ _ h => h) (Or.inl ⟨by rfl, ?_⟩) (by assumption) ?_
        rotate_left
        · (intro w hSw; (try dsimp only at hSw); go_simp; (try with_reducible rfl))
        try simp only [Act.put, List.setIfInBounds_toArray, List.set_cons_zero, List.set_cons_succ]
        refine wpAnyH_take (i := 13) (v := ?_) (by simp only [List.getElem?_toArray, List.getElem?_cons_zero, List.getElem?_cons_succ]; rfl) (by kernel_rfl) (by kernel_rfl) (by kernel_rfl) (by exact fun _ _ _ h => h) (Or.inl ⟨by rfl, ?_⟩) (by assumption) ?_
        rotate_left
        · (intro w hSw; (try dsimp only at hSw); go_simp; (try with_reducible rfl))
        try simp only [Act.put, List.setIfInBounds_toArray, List.set_cons_zero, List.set_cons_succ]
        refine wpAnyH_ready (rs := [14]) (by kernel_rfl) (by simp) ?_
        refine AllReadyH.cons (by simp only [List.getElem?_toArray, List.getElem?_cons_zero, List.getElem?_cons_succ]; rfl) (fun K hK => ?_) AllReadyH.nil
        go_simp
        refine hK.out _ _ trivial (fun hHeld => ?_)
        clear hK K
        try simp only [Act.put, List.setIfInBounds_toArray, List.set_cons_zero, List.set_cons_succ]
        refine wpAnyH_done (by kernel_rfl) ?_ _
        (go_wp2_with fail); (all_goals go_meet); (have hA := wGrown_below H.rx hgrow (by have := hb.size; omega)); exact ⟨⟨_, hcp⟩, ((hb.mono hm).trans hA).setCell hB _, fun k u t hk ht1 ht2 => wPut_box (wGrown_box H.rx hgrow (hk.below hb) ht1) (fun e => by subst e; exact ht2 (Box.typ hbx (wGrown_box H.rx hgrow (hk.below hb) ht1)))⟩
  case rest =>
    obtain ⟨⟨uX, H2⟩, T2, KB⟩ := hcut
    clear H hL c0 c1 c2 c3 c4 f3 f4
    obtain ⟨c0, c1, c2, c3, c4⟩ := H2.cells
    have f4 := H2.box.thaw 4
    have hm2 := Nat.le_trans hm T2.size
    go_wp2_with (first
      | (at_builtin; refine wpList_append_lies _ rfl _ _ _ rfl m 22 i0 _ 1 8 Tryz.underlying52 hi hz0 hz1 hz2 rfl (by decide) vY ys.length (ys.map eU) rfl (H2.ry.alloc _) _ 1 1 [eU Y1] rfl rfl (one_new _ _) (one_one _) (by decide) g63 g64 (by simp; omega) (wc.heap.size + 1) (by simp) ?_; intro g cap w2 hown hgrow hat hlt; obtain ⟨hbx, hcp⟩ := H2.growY hown hgrow hat; have f4' := hbx.thaw 4; have c4' : w2.cell? ⟨B, 4, none⟩ = some vY := hbx.cell 4))
    go_end0
    have hA := wGrown_below H2.ry hgrow hm2
    exact ⟨rfl, ⟨_, _, hcp⟩, (T2.trans hA).setCell hB _, fun k u t hk ht1 ht2 => wPut_box (wGrown_box H2.ry hgrow (KB k u t hk ht1 ht2) ht1) (fun e => by subst e; exact ht2 (Box.typ hbx (wGrown_box H2.ry hgrow (KB k u t hk ht1 ht2) ht1)))⟩
end Go.Proofs.YtejolaifdjcghaaGreat
