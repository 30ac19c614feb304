/- A slice of starts that came in: its cells, four words each. No condition. -/
import Derived.Test.YtejolaifdjcghaaGreatObj
import Derived.Deep.Slices
import Derived.Deep.Fields
import Derived.ChangeSame
import Derived.OpenShut
namespace Go.Proofs.YtejolaifdjcghaaGreat
open Go.ChangeShapes Go.WideShapes Go.Deep Go.RowKit W
set_option linter.unusedVariables false
structure Ac where
  x : Int
  y : Int
  t : Int
  n : Int
def Ac.word (a : Ac) : Prop := Word a.x ∧ Word a.y ∧ Word a.t ∧ Word a.n
/-- So many starts lie in a row. -/
def AcRow (w : World) (b o n : Nat) (xs : Nat → Ac) : Prop :=
  b < w.heap.size ∧ ∀ i, i < n → w.cell? ⟨b, o + i * 4, none⟩ = some (.int .u64 (xs i).x) ∧ w.cell? ⟨b, o + i * 4 + 1, none⟩ = some (.int .u64 (xs i).y) ∧ w.cell? ⟨b, o + i * 4 + 2, none⟩ = some (.int .u64 (xs i).t) ∧ w.cell? ⟨b, o + i * 4 + 3, none⟩ = some (.int .u64 (xs i).n)
theorem AcRow.below {W w : World} {b o n : Nat} {xs : Nat → Ac} (h : AcRow W b o n xs) (hb : Below W.heap.size W w) : AcRow w b o n xs :=
  ⟨Nat.lt_of_lt_of_le h.1 hb.size, fun i hi => by
    obtain ⟨a, b', c, d⟩ := h.2 i hi
    exact ⟨(hb.cell (p := ⟨b, _, none⟩) h.1).trans a, (hb.cell (p := ⟨b, _, none⟩) h.1).trans b', (hb.cell (p := ⟨b, _, none⟩) h.1).trans c, (hb.cell (p := ⟨b, _, none⟩) h.1).trans d⟩⟩
/-- A slice of starts: nil, empty, or a row in memory. -/
def IsAcs (w : World) (a : Option Addr) (n c : Nat) (xs : Nat → Ac) : Prop :=
  n ≤ c ∧ (n = 0 ∨ ∃ b o, a = some ⟨b, o, none⟩ ∧ AcRow w b o n xs)
theorem IsAcs.below {W w : World} {a : Option Addr} {n c : Nat} {xs : Nat → Ac} (h : IsAcs W a n c xs) (hb : Below W.heap.size W w) : IsAcs w a n c xs := by
  obtain ⟨h2, h3⟩ := h
  refine ⟨h2, ?_⟩
  rcases h3 with h3 | ⟨b, o, e, h3⟩
  · exact .inl h3
  · exact .inr ⟨b, o, e, h3.below hb⟩
section
variable {H : Type} {enc : TypeId × Value → H} {P : Program} {w : World} {base : Nat} {spare : Nat → Bool} {held : Bool}
theorem open_ac {e : TypeId} {f0 f1 f2 f3 : Field} {n : Nat} {a : Addr} {cs : List Value} {x : DataW H × List MemPlace} (he : P.underlying e = some (.struct #[f0, f1, f2, f3])) (u0 : P.underlying f0.type = some (.int .u64)) (u1 : P.underlying f1.type = some (.int .u64)) (u2 : P.underlying f2.type = some (.int .u64)) (u3 : P.underlying f3.type = some (.int .u64))
    (o0 : f0.offset = 0 ∧ P.cellsOf f0.type = 1) (o1 : f1.offset = 1 ∧ P.cellsOf f1.type = 1) (o2 : f2.offset = 2 ∧ P.cellsOf f2.type = 1) (o3 : f3.offset = 3 ∧ P.cellsOf f3.type = 1)
    (hc : w.cells? base a 4 = some cs) (h : DataW.trod enc P w base spare held n e cs = some x) :
    ∃ v : Ac, v.word ∧ w.cell? (a.add 0) = some (.int .u64 v.x) ∧ w.cell? (a.add 1) = some (.int .u64 v.y) ∧ w.cell? (a.add 2) = some (.int .u64 v.t) ∧ w.cell? (a.add 3) = some (.int .u64 v.n) := by
  obtain ⟨_, hl, hat⟩ := World.cells?_some hc
  obtain ⟨ys, m, _, _, _, hys, hf⟩ := DataW.trod_struct he h
  match cs, hl with
  | [c0, c1, c2, c3], _ =>
    match ys, hys with
    | [y0, y1, y2, y3], _ =>
      have g0 := hf 0 f0 rfl
      have g1 := hf 1 f1 rfl
      have g2 := hf 2 f2 rfl
      have g3 := hf 3 f3 rfl
      rw [o0.1, o0.2] at g0
      rw [o1.1, o1.2] at g1
      rw [o2.1, o2.2] at g2
      rw [o3.1, o3.2] at g3
      obtain ⟨n0, e0, _, w0⟩ := DataW.trod_int u0 (x := y0) (by simpa using g0)
      obtain ⟨n1, e1, _, w1⟩ := DataW.trod_int u1 (x := y1) (by simpa using g1)
      obtain ⟨n2, e2, _, w2⟩ := DataW.trod_int u2 (x := y2) (by simpa using g2)
      obtain ⟨n3, e3, _, w3⟩ := DataW.trod_int u3 (x := y3) (by simpa using g3)
      simp at e0 e1 e2 e3
      subst e0 e1 e2 e3
      exact ⟨⟨n0, n1, n2, n3⟩, ⟨word_of w0, word_of w1, word_of w2, word_of w3⟩, hat 0 (by omega), hat 1 (by omega), hat 2 (by omega), hat 3 (by omega)⟩
/-- The slice: starts, all of words. -/
theorem open_acs {t e : TypeId} {f0 f1 f2 f3 : Field} {fuel : Nat} {cs : List Value} {x : DataW H × List MemPlace} (ht : P.underlying t = some (.slice e)) (he : P.underlying e = some (.struct #[f0, f1, f2, f3])) (u0 : P.underlying f0.type = some (.int .u64)) (u1 : P.underlying f1.type = some (.int .u64)) (u2 : P.underlying f2.type = some (.int .u64)) (u3 : P.underlying f3.type = some (.int .u64))
    (hone : oneCellFields P #[f0, f1, f2, f3] = true) (hC : P.cellsOf e = 4) (h : DataW.trod enc P w base spare held fuel t cs = some x) :
    ∃ (a : Option Addr) (n c : Nat) (xs : Nat → Ac), cs = [.slice a n c] ∧ IsAcs w a n c xs ∧ (∀ i, (xs i).word) ∧ c ≤ maxLen ∧ (a = none → n = 0 ∧ c = 0) := by
  have z : Word 0 := ⟨by omega, by omega⟩
  rcases open_slice ht h with ⟨h0, _⟩ | ⟨a, len, cap, m, n, D, Pl, hcs, hb, hl, hm, hmm, hx, hi⟩
  · exact ⟨none, 0, 0, fun _ => ⟨0, 0, 0, 0⟩, h0, ⟨Nat.le_refl _, .inl rfl⟩, fun _ => ⟨z, z, z, z⟩, by decide, fun _ => ⟨rfl, rfl⟩⟩
  · have hlm : len ≤ m := by rw [hmm]; split <;> omega
    have key : ∀ i, i < len → ∃ v : Ac, v.word ∧ w.cell? (a.add (i * 4)) = some (.int .u64 v.x) ∧ w.cell? (a.add (i * 4 + 1)) = some (.int .u64 v.y) ∧ w.cell? (a.add (i * 4 + 2)) = some (.int .u64 v.t) ∧ w.cell? (a.add (i * 4 + 3)) = some (.int .u64 v.n) := by
      intro i hil
      obtain ⟨cs', hc, ht'⟩ := hi i (by omega)
      rw [hC] at hc
      obtain ⟨v, hv, g0, g1, g2, g3⟩ := open_ac he u0 u1 u2 u3 (hone_of hone 0 f0 rfl) (hone_of hone 1 f1 rfl) (hone_of hone 2 f2 rfl) (hone_of hone 3 f3 rfl) hc ht'
      rw [add_add] at g0 g1 g2 g3
      exact ⟨v, hv, g0, g1, g2, g3⟩
    obtain ⟨F, hF⟩ : ∃ F : Nat → Ac, ∀ i, (F i).word ∧ (i < len → w.cell? (a.add (i * 4)) = some (.int .u64 (F i).x) ∧ w.cell? (a.add (i * 4 + 1)) = some (.int .u64 (F i).y) ∧ w.cell? (a.add (i * 4 + 2)) = some (.int .u64 (F i).t) ∧ w.cell? (a.add (i * 4 + 3)) = some (.int .u64 (F i).n)) := by
      refine ⟨fun i => if q : i < len then Classical.choose (key i q) else ⟨0, 0, 0, 0⟩, fun i => ?_⟩
      by_cases hil : i < len
      · simp only [hil, dif_pos]
        have h := Classical.choose_spec (key i hil)
        exact ⟨h.1, fun _ => h.2⟩
      · simp only [hil, dif_neg, not_false_eq_true]
        exact ⟨⟨z, z, z, z⟩, fun h => absurd h (by simp)⟩
    refine ⟨some a, len, cap, F, hcs, ⟨hl, ?_⟩, fun i => (hF i).1, hm, fun q => by cases q⟩
    by_cases hz : len = 0
    · exact .inl hz
    · have c0 := ((hF 0).2 (by omega)).1
      obtain ⟨b, off, spot⟩ := a
      have hspot : spot = none := by simpa [Addr.add] using World.cell?_spot c0
      subst hspot
      have hadd : ∀ j, (⟨b, off, none⟩ : Addr).add j = ⟨b, off + j, none⟩ := fun j => by unfold Addr.add; split <;> simp_all
      rw [hadd] at c0
      refine .inr ⟨b, off, rfl, World.block_lt_of_cell? w _ c0, fun i hil => ?_⟩
      obtain ⟨g0, g1, g2, g3⟩ := (hF i).2 hil
      rw [hadd] at g0 g1 g2 g3
      exact ⟨g0, g1, g2, g3⟩
end
end Go.Proofs.YtejolaifdjcghaaGreat
