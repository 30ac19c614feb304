/- What the tree's call first answers: the first node, by keys. No condition. -/
import Derived.Test.YtjfpemkdidoacaaTJ
namespace Go.Proofs.Ytjfpemkdidoacaa
open Go.RowKit Go.Shelf
set_option linter.unusedVariables false
attribute [local go_sem] Oper.semAt_some
theorem Box.turn {X Y : World} {b B : Nat} {t : TypeId} {v : Array Value} {row : Option Nat} (h : Box X b v t) (hg : X.grownBy Y row) (hr : ∀ r, row = some r → B ≤ r) (hb : b < B) : Box Y b v t :=
  (hg.block b h.lt (fun e => by have := hr b e.symm; omega)).trans h
theorem below_turn {w X Y : World} {B : Nat} {row : Option Nat} (h : Below w.heap.size w X) (hg : X.grownBy Y row) (hr : ∀ r, row = some r → B ≤ r) (hb : w.heap.size ≤ B) : Below w.heap.size w Y :=
  h.grown hg h.size (fun k e => by have := hr k e; omega)
theorem Tr.fst_items : ∀ t : Tr, t.fst = t.items.head?
  | .nil => rfl
  | .nd m r .nil b => rfl
  | .nd m r (.nd ma ra x y) b => by
    have h := Tr.fst_items (.nd ma ra x y)
    show (Tr.nd ma ra x y).fst = _
    rw [h]
    simp [Tr.items]
/-- What first answers. -/
def FstAt (W : World) (v : Value) (o : Option It) : Prop := match o with
  | none => v = .pointer none
  | some m => ∃ q r, v = .pointer q ∧ Nod W q m r
def FsI (w : World) (pre : List Nx2) (W : World) : Prop := pre = [] ∧ Box W w.heap.size #[.pointer none] 55 ∧ Below w.heap.size w W
def FsX (w : World) (c : Code) (pre : List Nx2) (W : World) : Prop := c = .ret ∧ (∃ x, pre = [x] ∧ Box W w.heap.size #[.pointer x.1] 55) ∧ Below w.heap.size w W
theorem FsI.own (w : World) : AbidesAll (w.heap.size + 2) (FsI w) := by
  rintro s X Y row ⟨h1, h2, h3⟩ hg hr
  exact ⟨h1, h2.turn hg hr (by omega), below_turn h3 hg hr (by omega)⟩
theorem FsX.own (w : World) (c : Code) : AbidesAll (w.heap.size + 2) (FsX w c) := by
  rintro s X Y row ⟨h1, ⟨x, h2, h4⟩, h3⟩ hg hr
  exact ⟨h1, ⟨x, h2, h4.turn hg hr (by omega)⟩, below_turn h3 hg hr (by omega)⟩
set_option maxRecDepth 100000 in
set_option maxHeartbeats 2000000 in
theorem first_any (p : Pt) (t : Tr) (w : World) (ht : Tre w p t) : Calls Try.prog 51 #[.pointer p] w fun e w' => ∃ v, e = .returned v ∧ FstAt w' v t.fst ∧ Below w.heap.size w w' := by
  obtain ⟨L, hL, hLi, hLn⟩ := IsTr.list ht
  refine (callsIn_wide (n := 12)).1 ?_
  refine callsIn_of_wp_marks Try.func51 rfl trivial ?_ rfl
  simp only [Try.ntmps51, List.size_toArray, List.length_cons, List.length_nil, Nat.reduceAdd, Nat.reduceSub, Array.replicate_succ, Array.replicate_zero, List.push_toArray, List.append_toArray, List.nil_append, List.cons_append]
  gi_wp2_with (refine ⟨trivial, ?_⟩; gi_at_call 53; (refine (callsIn_wide.2 (each_any _ _)).mono ?_); rintro e w' ⟨rfl, rfl⟩)
  have b1 := Box.new w 55 #[.pointer none]
  have b2 := Box.new (w.alloc (.cells #[.pointer none] 55)) 55 #[.pointer p]
  replace b1 := b1.alloc (.cells #[.pointer p] 55)
  simp only [World.size_alloc] at b2
  have hB0 := up2 w (.cells #[.pointer none] 55) (.cells #[.pointer p] 55)
  have hsz : ((w.alloc (.cells #[.pointer none] 55)).alloc (.cells #[.pointer p] 55)).heap.size = w.heap.size + 2 := by simp
  obtain ⟨W0, hW0⟩ : ∃ W0, (w.alloc (.cells #[.pointer none] 55)).alloc (.cells #[.pointer p] 55) = W0 := ⟨_, rfl⟩
  rw [hW0] at b1 b2 hB0 hsz ⊢
  clear hW0
  have hseq := each1_seq 11 (w.heap.size + 1) w.heap.size p t L W0 (by omega) b2 (hL.below hB0)
  refine loopC (by omega) (gf := 67) (lb := #[.pointer (some ⟨w.heap.size + 1, 0, none⟩)]) rfl (enters_of Try.func67 (by kernel_rfl) rfl) (n₀ := w.heap.size) (by omega) hseq (fun _ => rfl)
    (FsI w) (FsX w) (by rw [hsz]; exact FsI.own w) (fun c => by rw [hsz]; exact FsX.own w c) ⟨rfl, b1, hB0⟩
    (fun x a' W => a' = { tmps := #[.pointer p, undef, .pointer (some ⟨w.heap.size, 0, none⟩), .pointer x.1, .pointer p, .func (.func 67) #[] #[.pointer (some ⟨w.heap.size + 1, 0, none⟩)], .pointer x.1, undef], defers := [] })
    (fun x a' => ownFrom_pure _ _)
    ?assign ?body ?done ?stop
  case assign =>
    rintro l0 pre x W K hzW hI hK
    gi_wp2
    exact hK _ _ (Mid.refl _ _ _) hI rfl
  case body =>
    rintro l0 pre x a' W hzW ⟨rfl, h2, h3⟩ rfl _
    have c2 := h2.cell 0
    have f2 := h2.thaw 0
    gi_wp2
    exact ⟨Mid.put W (by omega) (by omega) 0 _, rfl, ⟨x, rfl, h2.set 0 _⟩, h3.setCell (p := ⟨w.heap.size, 0, none⟩) (Nat.le_refl _) _⟩
  case stop =>
    rintro D c pre W hD ⟨_, hp⟩ ⟨rfl, ⟨x, rfl, h2⟩, h3⟩ hK
    obtain ⟨L', rfl⟩ : ∃ L', L = x :: L' := by obtain ⟨z, hz⟩ := hp; exact ⟨z, by simpa using hz.symm⟩
    have hf : t.fst = some x.2 := by rw [Tr.fst_items, ← hLi]; rfl
    replace hf := Lib.hid hf
    obtain ⟨r, hN⟩ := (hLn x (by simp)).nod
    have c2 : (W.putObj D (.deferred none)).cell? ⟨w.heap.size, 0, none⟩ = some (.pointer x.1) := by
      have hb : Box (W.putObj D (.deferred none)) w.heap.size #[.pointer x.1] 55 := (World.putObj_heap_other (by omega)).trans h2
      exact hb.cell 0
    have hbl : Below w.heap.size w (W.putObj D (.deferred none)) := h3.trans (belowK_b (w := w) (Nat.le_refl _) W D _ _ (by omega) hK rfl rfl)
    clear hseq b1 b2 h2
    gi_wp2
    refine ⟨by simp, .inl ⟨_, _, rfl, run_takeDeferred hK, ?_⟩⟩
    exact ⟨.pointer x.1, by simp [results, Try.results51, go_sem, c2], _, rfl, by rw [hf.out]; exact ⟨x.1, r, rfl, hN.below hbl⟩, hbl⟩
  case done =>
    rintro D xs W hD rfl ⟨h1, h2, h3⟩ hK
    have hf : t.fst = none := by rw [Tr.fst_items, ← hLi, h1]; rfl
    replace hf := Lib.hid hf
    have c2 := h2.cell 0
    have f2 := h2.thaw 0
    have hKq : (W.setCell ⟨w.heap.size, 0, none⟩ (.pointer none)).heap[D]? = some (.deferred (some [])) := (Below.heap_setCell _ _ _ D (by show D ≠ w.heap.size; omega)).trans hK
    have hb : Box ((W.setCell ⟨w.heap.size, 0, none⟩ (.pointer none)).putObj D (.deferred none)) w.heap.size #[.pointer none] 55 := (World.putObj_heap_other (by omega)).trans (h2.set 0 _)
    have c3 := hb.cell 0
    have hbl : Below w.heap.size w ((W.setCell ⟨w.heap.size, 0, none⟩ (.pointer none)).putObj D (.deferred none)) := (h3.setCell (p := ⟨w.heap.size, 0, none⟩) (Nat.le_refl _) _).trans (belowK_b (w := w) (Nat.le_refl _) _ D _ _ (by omega) hKq rfl rfl)
    clear hseq b1 b2 h2 hb
    gi_wp2
    refine ⟨by simp, .inl ⟨_, _, rfl, run_takeDeferred hKq, ?_⟩⟩
    exact ⟨.pointer none, by simp [results, Try.results51, go_sem, c3], _, rfl, by rw [hf.out]; rfl, hbl⟩
end Go.Proofs.Ytjfpemkdidoacaa
