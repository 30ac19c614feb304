/- A row of acts that came in: its cells; an act by value. No condition. -/
import Derived.Test.YtjfpemkdidoacaaVA
import Derived.Deep.Slices
import Derived.Deep.Fields
import Derived.ChangeSame
import Derived.OpenShut
import Derived.Lib.SmallJoins
namespace Go.Proofs.Ytjfpemkdidoacaa
open Go.ChangeShapes Go.WideShapes Go.Deep Go.RowKit Go.Joins
set_option linter.unusedVariables false
theorem word_of {x : Int} (h : (Lit.int .u64 x).wf = true) : Word x := by
  simp [Lit.wf, IntKind.min, IntKind.max, IntKind.bits, IntKind.signed] at h
  unfold Word; omega
theorem inte_of {x : Int} (h : (Lit.int .i64 x).wf = true) : Inte x := by
  simp [Lit.wf, IntKind.min, IntKind.max, IntKind.bits, IntKind.signed] at h
  unfold Inte; omega
/-- An act: a key, a value, whether the key is dropped. -/
structure Ac where
  k : Ky
  v : Int
  d : Bool
def Ac.word (a : Ac) : Prop := Word a.k.1 ∧ Inte a.k.2 ∧ Word a.v
def Ac.it (a : Ac) : It := (a.k, a.v)
abbrev AcC (w : World) (b o : Nat) (a : Ac) : Prop :=
  w.cell? ⟨b, o, none⟩ = some (.int .u64 a.k.1) ∧ w.cell? ⟨b, o + 1, none⟩ = some (.int .i64 a.k.2) ∧ w.cell? ⟨b, o + 2, none⟩ = some (.int .u64 a.v) ∧ w.cell? ⟨b, o + 3, none⟩ = some (.bool a.d)
/-- So many acts lie in a row. -/
def AcRow (w : World) (b o n : Nat) (xs : Nat → Ac) : Prop := b < w.heap.size ∧ ∀ i, i < n → AcC w b (o + i * 4) (xs i)
theorem AcRow.below {W w : World} {b o n : Nat} {xs : Nat → Ac} (h : AcRow W b o n xs) (hb : Below W.heap.size W w) : AcRow w b o n xs :=
  ⟨Nat.lt_of_lt_of_le h.1 hb.size, fun i hi => by
    obtain ⟨a, b', c, d⟩ := h.2 i hi
    exact ⟨(hb.cell (p := ⟨b, _, none⟩) h.1).trans a, (hb.cell (p := ⟨b, _, none⟩) h.1).trans b', (hb.cell (p := ⟨b, _, none⟩) h.1).trans c, (hb.cell (p := ⟨b, _, none⟩) h.1).trans d⟩⟩
/-- A slice of acts: nil, empty, or a row in memory. -/
def IsAcs (w : World) (a : Option Addr) (n c : Nat) (xs : Nat → Ac) : Prop := n ≤ c ∧ (n = 0 ∨ ∃ b o, a = some ⟨b, o, none⟩ ∧ AcRow w b o n xs)
theorem IsAcs.below {W w : World} {a : Option Addr} {n c : Nat} {xs : Nat → Ac} (h : IsAcs W a n c xs) (hb : Below W.heap.size W w) : IsAcs w a n c xs := by
  obtain ⟨h2, h3⟩ := h
  refine ⟨h2, ?_⟩
  rcases h3 with h3 | ⟨b, o, e, h3⟩
  · exact .inl h3
  · exact .inr ⟨b, o, e, h3.below hb⟩
section
variable {H : Type} {enc : TypeId × Value → H} {P : Program} {w : World} {base : Nat} {spare : Nat → Bool} {held : Bool}
theorem open_ac4 {e kt : TypeId} {f0 f1 f2 g0 g1 : Field} {n : Nat} {cs : List Value} {x : DataW H × List MemPlace} (he : P.underlying e = some (.struct #[f0, f1, f2])) (hk : P.underlying f0.type = some (.struct #[g0, g1]))
    (u0 : P.underlying g0.type = some (.int .u64)) (u1 : P.underlying g1.type = some (.int .i64)) (u2 : P.underlying f1.type = some (.int .u64)) (u3 : P.underlying f2.type = some .bool)
    (o0 : f0.offset = 0 ∧ P.cellsOf f0.type = 2) (o1 : f1.offset = 2 ∧ P.cellsOf f1.type = 1) (o2 : f2.offset = 3 ∧ P.cellsOf f2.type = 1) (q0 : g0.offset = 0 ∧ P.cellsOf g0.type = 1) (q1 : g1.offset = 1 ∧ P.cellsOf g1.type = 1)
    (hl : cs.length = 4) (h : DataW.trod enc P w base spare held n e cs = some x) : ∃ v : Ac, v.word ∧ cs = [eU v.k.1, eI v.k.2, eU v.v, .bool v.d] := by
  obtain ⟨ys, m, _, _, _, hys, hf⟩ := DataW.trod_struct he h
  match cs, hl with
  | [c0, c1, c2, c3], _ =>
    match ys, hys with
    | [y0, y1, y2], _ =>
      have z0 := hf 0 f0 rfl
      have z1 := hf 1 f1 rfl
      have z2 := hf 2 f2 rfl
      rw [o0.1, o0.2] at z0
      rw [o1.1, o1.2] at z1
      rw [o2.1, o2.2] at z2
      obtain ⟨zs, m', _, _, _, hzs, hg⟩ := DataW.trod_struct hk (x := y0) (by simpa using z0)
      match zs, hzs with
      | [s0, s1], _ =>
        have t0 := hg 0 g0 rfl
        have t1 := hg 1 g1 rfl
        rw [q0.1, q0.2] at t0
        rw [q1.1, q1.2] at t1
        obtain ⟨n0, e0, _, w0⟩ := DataW.trod_int u0 (x := s0) (by simpa using t0)
        obtain ⟨n1, e1, _, w1⟩ := DataW.trod_int u1 (x := s1) (by simpa using t1)
        obtain ⟨n2, e2, _, w2⟩ := DataW.trod_int u2 (x := y1) (by simpa using z1)
        obtain ⟨b3, e3, _⟩ := DataW.trod_bool u3 (x := y2) (by simpa using z2)
        simp at e0 e1 e2 e3
        subst e0 e1 e2 e3
        exact ⟨⟨(n0, n1), n2, b3⟩, ⟨word_of w0, inte_of w1, word_of w2⟩, rfl⟩
/-- The slice: acts, all of words. -/
theorem open_acs {t e : TypeId} {f0 f1 f2 g0 g1 : Field} {fuel : Nat} {cs : List Value} {x : DataW H × List MemPlace} (ht : P.underlying t = some (.slice e)) (he : P.underlying e = some (.struct #[f0, f1, f2])) (hk : P.underlying f0.type = some (.struct #[g0, g1]))
    (u0 : P.underlying g0.type = some (.int .u64)) (u1 : P.underlying g1.type = some (.int .i64)) (u2 : P.underlying f1.type = some (.int .u64)) (u3 : P.underlying f2.type = some .bool)
    (o0 : f0.offset = 0 ∧ P.cellsOf f0.type = 2) (o1 : f1.offset = 2 ∧ P.cellsOf f1.type = 1) (o2 : f2.offset = 3 ∧ P.cellsOf f2.type = 1) (q0 : g0.offset = 0 ∧ P.cellsOf g0.type = 1) (q1 : g1.offset = 1 ∧ P.cellsOf g1.type = 1)
    (hC : P.cellsOf e = 4) (h : DataW.trod enc P w base spare held fuel t cs = some x) :
    ∃ (a : Option Addr) (n c : Nat) (xs : Nat → Ac), cs = [.slice a n c] ∧ IsAcs w a n c xs ∧ (∀ i, (xs i).word) ∧ c ≤ maxLen ∧ (a = none → n = 0 ∧ c = 0) := by
  have z : Ac.word ⟨(0, 0), 0, false⟩ := ⟨⟨by decide, by decide⟩, ⟨by decide, by decide⟩, ⟨by decide, by decide⟩⟩
  rcases open_slice ht h with ⟨h0, _⟩ | ⟨a, len, cap, m, n, D, Pl, hcs, hb, hl, hm, hmm, hx, hi⟩
  · exact ⟨none, 0, 0, fun _ => ⟨(0, 0), 0, false⟩, h0, ⟨Nat.le_refl _, .inl rfl⟩, fun _ => z, by decide, fun _ => ⟨rfl, rfl⟩⟩
  · have hlm : len ≤ m := by rw [hmm]; split <;> omega
    have key : ∀ i, i < len → ∃ v : Ac, v.word ∧ w.cell? (a.add (i * 4)) = some (.int .u64 v.k.1) ∧ w.cell? (a.add (i * 4 + 1)) = some (.int .i64 v.k.2) ∧ w.cell? (a.add (i * 4 + 2)) = some (.int .u64 v.v) ∧ w.cell? (a.add (i * 4 + 3)) = some (.bool v.d) := by
      intro i hil
      obtain ⟨cs', hc, ht'⟩ := hi i (by omega)
      rw [hC] at hc
      obtain ⟨_, hl', hat⟩ := World.cells?_some hc
      obtain ⟨v, hv, rfl⟩ := open_ac4 (kt := f0.type) he hk u0 u1 u2 u3 o0 o1 o2 q0 q1 hl' ht'
      have r0 := hat 0 (by omega)
      have r1 := hat 1 (by omega)
      have r2 := hat 2 (by omega)
      have r3 := hat 3 (by omega)
      rw [add_add] at r0 r1 r2 r3
      exact ⟨v, hv, r0, r1, r2, r3⟩
    obtain ⟨F, hF⟩ : ∃ F : Nat → Ac, ∀ i, (F i).word ∧ (i < len → w.cell? (a.add (i * 4)) = some (.int .u64 (F i).k.1) ∧ w.cell? (a.add (i * 4 + 1)) = some (.int .i64 (F i).k.2) ∧ w.cell? (a.add (i * 4 + 2)) = some (.int .u64 (F i).v) ∧ w.cell? (a.add (i * 4 + 3)) = some (.bool (F i).d)) := by
      refine ⟨fun i => if q : i < len then Classical.choose (key i q) else ⟨(0, 0), 0, false⟩, fun i => ?_⟩
      by_cases hil : i < len
      · simp only [hil, dif_pos]
        have h := Classical.choose_spec (key i hil)
        exact ⟨h.1, fun _ => h.2⟩
      · simp only [hil, dif_neg, not_false_eq_true]
        exact ⟨z, fun h => absurd h (by simp)⟩
    refine ⟨some a, len, cap, F, hcs, ⟨hl, ?_⟩, fun i => (hF i).1, hm, fun q => by cases q⟩
    by_cases hz : len = 0
    · exact .inl hz
    · have c0 := ((hF 0).2 (by omega)).1
      obtain ⟨b, off, spot⟩ := a
      have hspot : spot = none := by simpa [Addr.add] using World.cell?_spot c0
      subst hspot
      have hadd : ∀ j, (⟨b, off, none⟩ : Addr).add j = ⟨b, off + j, none⟩ := fun j => by unfold Addr.add; split <;> simp_all
      rw [hadd] at c0
      refine .inr ⟨b, off, rfl, World.block_lt_of_cell? w _ c0, fun i hil => ?_⟩
      obtain ⟨r0, r1, r2, r3⟩ := (hF i).2 hil
      rw [hadd] at r0 r1 r2 r3
      exact ⟨r0, r1, r2, r3⟩
end
section
variable {H : Type} {enc : TypeId × Value → H} {w : World} {base : Nat} {spare : Nat → Bool} {held : Bool}
/-- An act by value. -/
theorem open_act {r : Reach} {b0 : Nat} {v : Value} {d : DataW H} {p : List MemPlace} (hv : Value.okWide Try.prog w r b0 34 v) (h : DataW.Trod enc Try.prog w base spare held 34 v d p) :
    ∃ a : Ac, a.word ∧ v = .agg #[eU a.k.1, eI a.k.2, eU a.v, .bool a.d] := by
  obtain ⟨cs, rfl, hsz⟩ := okWide_struct Try.underlying34 hv
  obtain ⟨fuel, hf⟩ := h
  have hc : cs.size = 4 := hsz.trans (by kernel_rfl)
  obtain ⟨a, ha, e⟩ := open_ac4 (kt := 32) Try.underlying34 Try.underlying32 Try.underlying30 Try.underlying3 Try.underlying30 Try.underlying4 (by exact ⟨by kernel_rfl, by kernel_rfl⟩) (by exact ⟨by kernel_rfl, by kernel_rfl⟩) (by exact ⟨by kernel_rfl, by kernel_rfl⟩) (by exact ⟨by kernel_rfl, by kernel_rfl⟩) (by exact ⟨by kernel_rfl, by kernel_rfl⟩) (by simp [Value.cells, hc]) hf
  refine ⟨a, ha, ?_⟩
  simp [Value.cells] at e
  rw [← Array.toArray_toList (xs := cs), e]
end
end Go.Proofs.Ytjfpemkdidoacaa
