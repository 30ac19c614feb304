/- A slice of structs that came in, of whatever struct: its elements, cell by cell. No condition. -/
import Derived.Test.YtenghpgnhmglpaaDoorCoA
namespace Go.Proofs.YtenghpgnhmglpaaDoor
open Go.ChangeShapes Go.WideShapes Go.Deep Go.RowKit
set_option linter.unusedVariables false
/-- A slice of elements: nil, empty, or a row in memory. -/
def IsRow {α : Type} (f : α → List Value) (s : Nat) (w : World) (a : Option Addr) (n c : Nat) (xs : Nat → α) : Prop :=
  n ≤ c ∧ (n = 0 ∨ ∃ b o, a = some ⟨b, o, none⟩ ∧ b < w.heap.size ∧ ∀ i, i < n → ∀ j u, (f (xs i))[j]? = some u → w.cell? ⟨b, o + i * s + j, none⟩ = some u)
section
variable {α : Type} {f : α → List Value} {s : Nat}
theorem IsRow.below {W w : World} {a : Option Addr} {n c : Nat} {xs : Nat → α} (h : IsRow f s W a n c xs) (hb : Below W.heap.size W w) : IsRow f s w a n c xs := by
  obtain ⟨h2, h3⟩ := h
  refine ⟨h2, h3.imp id ?_⟩
  rintro ⟨b, o, e, h4, h5⟩
  exact ⟨b, o, e, Nat.lt_of_lt_of_le h4 hb.size, fun i hi j u hu => (hb.cell (p := ⟨b, _, none⟩) h4).trans (h5 i hi j u hu)⟩
/-- An element's cells, in whatever world behind. -/
theorem row_at {w0 : World} {a : Option Addr} {n c : Nat} {xs : Nat → α} (hI : IsRow f s w0 a n c xs) (k : Nat) (hk : k < n) : ∃ b o, a = some ⟨b, o, none⟩ ∧ b < w0.heap.size ∧ ∀ w', Below w0.heap.size w0 w' → ∀ j u, (f (xs k))[j]? = some u → w'.cell? ⟨b, o + k * s + j, none⟩ = some u := by
  rcases hI.2 with h | ⟨b, o, e, h1, h2⟩
  · omega
  · exact ⟨b, o, e, h1, fun w' hb j u hu => (hb.cell (p := ⟨b, _, none⟩) h1).trans (h2 k hk j u hu)⟩
variable {H : Type} {enc : TypeId × Value → H} {P : Program} {w : World} {base : Nat} {spare : Nat → Bool} {held : Bool}
theorem open_row {t e : TypeId} {fuel : Nat} {cs : List Value} {x : DataW H × List MemPlace} {ok : α → Prop} (d : α) (hd : ok d) (hs : 0 < s) (hf : ∀ v, (f v).length = s) (ht : P.underlying t = some (.slice e)) (hC : P.cellsOf e = s)
    (elem : ∀ n (cs : List Value) (x : DataW H × List MemPlace), cs.length = s → DataW.trod enc P w base spare held n e cs = some x → ∃ v, ok v ∧ cs = f v) (h : DataW.trod enc P w base spare held fuel t cs = some x) :
    ∃ (a : Option Addr) (n c : Nat) (xs : Nat → α), cs = [.slice a n c] ∧ IsRow f s w a n c xs ∧ (∀ i, ok (xs i)) ∧ c ≤ maxLen ∧ (a = none → n = 0 ∧ c = 0) := by
  rcases open_slice ht h with ⟨h0, _⟩ | ⟨a, len, cap, m, n, D, Pl, hcs, hb', hl, hm, hmm, hx, hi⟩
  · exact ⟨none, 0, 0, fun _ => d, h0, ⟨Nat.le_refl _, .inl rfl⟩, fun _ => hd, by decide, fun _ => ⟨rfl, rfl⟩⟩
  · have hlm : len ≤ m := by rw [hmm]; split <;> omega
    have key : ∀ i, i < len → ∃ v : α, ok v ∧ ∀ j u, (f v)[j]? = some u → w.cell? (a.add (i * s + j)) = some u := by
      intro i hil
      obtain ⟨cs', hc, ht'⟩ := hi i (by omega)
      rw [hC] at hc
      obtain ⟨_, hl', hat⟩ := World.cells?_some hc
      obtain ⟨v, hv, rfl⟩ := elem _ _ _ hl' ht'
      refine ⟨v, hv, fun j u hu => ?_⟩
      have hj : j < (f v).length := by
        rcases Nat.lt_or_ge j (f v).length with h | h
        · exact h
        · rw [List.getElem?_eq_none h] at hu; cases hu
      have e := hat j (by rw [hf] at hj; exact hj)
      rw [add_add] at e
      exact e.trans hu
    obtain ⟨F, hF⟩ : ∃ F : Nat → α, ∀ i, ok (F i) ∧ (i < len → ∀ j u, (f (F i))[j]? = some u → w.cell? (a.add (i * s + j)) = some u) := by
      refine ⟨fun i => if q : i < len then Classical.choose (key i q) else d, fun i => ?_⟩
      by_cases hil : i < len
      · simp only [hil, dif_pos]
        have h := Classical.choose_spec (key i hil)
        exact ⟨h.1, fun _ => h.2⟩
      · simp only [hil, dif_neg, not_false_eq_true]
        exact ⟨hd, fun h => absurd h (by simp)⟩
    refine ⟨some a, len, cap, F, hcs, ⟨hl, ?_⟩, fun i => (hF i).1, hm, fun q => by cases q⟩
    by_cases hz : len = 0
    · exact .inl hz
    · have c0 := (hF 0).2 (by omega) 0 _ (List.getElem?_eq_getElem (by rw [hf]; exact hs))
      obtain ⟨b, off, spot⟩ := a
      have hspot : spot = none := by simpa [Addr.add] using World.cell?_spot c0
      subst hspot
      have hlt := World.block_lt_of_cell? w _ c0
      refine .inr ⟨b, off, rfl, by rw [add_plain] at hlt; exact hlt, fun i hil j u hu => ?_⟩
      have e := (hF i).2 hil j u hu
      rw [add_plain, ← Nat.add_assoc] at e
      exact e
end
/-! ### Elements: structs whose fields are one cell each -/
/-- What a field of one cell holds. -/
inductive Fk where
  | u8 | u64 | i64 | b
/-- The values that a field may hold. -/
def Fk.ok : Fk → Value → Prop
  | .u8, v => ∃ n : Int, v = .int .u8 n ∧ 0 ≤ n ∧ n < 256
  | .u64, v => ∃ n : Int, v = .int .u64 n ∧ 0 ≤ n ∧ n < 18446744073709551616
  | .i64, v => ∃ n : Int, v = .int .i64 n ∧ -9223372036854775808 ≤ n ∧ n < 9223372036854775808
  | .b, v => ∃ x : Bool, v = .bool x
def Fk.desc : Fk → TypeDesc
  | .u8 => .int .u8
  | .u64 => .int .u64
  | .i64 => .int .i64
  | .b => .bool
section
variable {H : Type} {enc : TypeId × Value → H} {P : Program} {w : World} {base : Nat} {spare : Nat → Bool} {held : Bool}
theorem open_fk {t : TypeId} {k : Fk} {n : Nat} {v : Value} {x : DataW H × List MemPlace} (ht : P.underlying t = some k.desc) (h : DataW.trod enc P w base spare held n t [v] = some x) : k.ok v := by
  cases k with
  | u8 =>
    obtain ⟨m, e, _, hw⟩ := DataW.trod_int (k := .u8) ht h
    simp at e; subst e
    exact ⟨m, rfl, pk_u8 hw⟩
  | u64 =>
    obtain ⟨m, e, _, hw⟩ := DataW.trod_int (k := .u64) ht h
    simp at e; subst e
    exact ⟨m, rfl, pk_u64 hw⟩
  | i64 =>
    obtain ⟨m, e, _, hw⟩ := DataW.trod_int (k := .i64) ht h
    simp at e; subst e
    exact ⟨m, rfl, pk_i64 hw⟩
  | b =>
    obtain ⟨m, e, _⟩ := DataW.trod_bool ht h
    simp at e; subst e
    exact ⟨m, rfl⟩
/-- Values of those kinds, one by one. -/
def Oks : List Fk → List Value → Prop
  | [], [] => True
  | k :: ks, v :: vs => k.ok v ∧ Oks ks vs
  | _, _ => False
theorem Oks.append : ∀ {a b : List Fk} {x y : List Value}, Oks a x → Oks b y → Oks (a ++ b) (x ++ y)
  | [], _, [], _, _, h => h
  | k :: a, _, v :: x, _, h1, h2 => ⟨h1.1, Oks.append h1.2 h2⟩
def flatFs (P : Program) (g : TypeId → Option (List Fk)) : List Field → Nat → Option (List Fk)
  | [], _ => some []
  | f :: r, o => match g f.type with
    | none => none
    | some a => if f.offset = o ∧ P.cellsOf f.type = a.length then (match flatFs P g r (o + a.length) with | none => none | some b => some (a ++ b)) else none
/-- The kinds of a type's cells: of a number, a bool, a struct of such. -/
def flatB (P : Program) : Nat → TypeId → Option (List Fk)
  | 0, _ => none
  | n + 1, t => match P.underlying t with
    | some (.int .u8) => some [.u8]
    | some (.int .u64) => some [.u64]
    | some (.int .i64) => some [.i64]
    | some .bool => some [.b]
    | some (.struct fs) => flatFs P (flatB P n) fs.toList 0
    | _ => none
theorem one_of {cs : List Value} (h : cs.length = 1) : ∃ v, cs = [v] := by
  match cs, h with
  | [v], _ => exact ⟨v, rfl⟩
theorem open_flatFs {g : TypeId → Option (List Fk)} {m : Nat} (ih : ∀ t ks cs x, g t = some ks → cs.length = ks.length → DataW.trod enc P w base spare held m t cs = some x → Oks ks cs) :
    ∀ (fs : List Field) (o : Nat) (ks : List Fk) (cs : List Value), flatFs P g fs o = some ks → cs.length = o + ks.length → (∀ f ∈ fs, ∃ y, DataW.trod enc P w base spare held m f.type ((cs.drop f.offset).take (P.cellsOf f.type)) = some y) → Oks ks (cs.drop o)
  | [], o, ks, cs, h, hl, _ => by
    simp only [flatFs, Option.some.injEq] at h
    subst h
    rw [List.drop_eq_nil_of_le (by simp at hl; omega)]
    trivial
  | f :: r, o, ks, cs, h, hl, hf => by
    rw [flatFs] at h
    cases hg : g f.type with
    | none => rw [hg] at h; cases h
    | some a =>
      rw [hg] at h
      simp only at h
      split at h
      · rename_i hc
        cases hr : flatFs P g r (o + a.length) with
        | none => rw [hr] at h; cases h
        | some b =>
          rw [hr] at h
          simp only [Option.some.injEq] at h
          subst h
          obtain ⟨y, hy⟩ := hf f (by simp)
          rw [hc.1, hc.2] at hy
          rw [List.length_append] at hl
          have h1 := ih f.type a _ y hg (by rw [List.length_take, List.length_drop]; omega) hy
          have h2 := open_flatFs ih r (o + a.length) b cs hr (by omega) (fun f' hf' => hf f' (by simp [hf']))
          have e : cs.drop o = (cs.drop o).take a.length ++ cs.drop (o + a.length) := by
            rw [← List.drop_drop, List.take_append_drop]
          rw [e]
          exact h1.append h2
      · cases h
theorem open_flat : ∀ (n : Nat) (t : TypeId) (ks : List Fk) (fuel : Nat) (cs : List Value) (x : DataW H × List MemPlace), flatB P n t = some ks → cs.length = ks.length → DataW.trod enc P w base spare held fuel t cs = some x → Oks ks cs
  | 0, _, _, _, _, _, h, _, _ => by simp [flatB] at h
  | n + 1, t, ks, fuel, cs, x, h, hl, hx => by
    rw [flatB] at h
    split at h
    · rename_i hu
      simp only [Option.some.injEq] at h; subst h
      obtain ⟨v, rfl⟩ := one_of hl
      exact ⟨open_fk (k := .u8) hu hx, trivial⟩
    · rename_i hu
      simp only [Option.some.injEq] at h; subst h
      obtain ⟨v, rfl⟩ := one_of hl
      exact ⟨open_fk (k := .u64) hu hx, trivial⟩
    · rename_i hu
      simp only [Option.some.injEq] at h; subst h
      obtain ⟨v, rfl⟩ := one_of hl
      exact ⟨open_fk (k := .i64) hu hx, trivial⟩
    · rename_i hu
      simp only [Option.some.injEq] at h; subst h
      obtain ⟨v, rfl⟩ := one_of hl
      exact ⟨open_fk (k := .b) hu hx, trivial⟩
    · rename_i fs hu
      obtain ⟨ys, m, _, _, _, hys, hf⟩ := DataW.trod_struct hu hx
      have := open_flatFs (m := m) (fun t ks cs x h1 h2 h3 => open_flat n t ks m cs x h1 h2 h3) fs.toList 0 ks cs h (by omega) (fun f hf' => by
        obtain ⟨i, hi, e⟩ := List.getElem_of_mem hf'
        have hi2 : i < fs.size := by simpa using hi
        have hy : i < ys.length := by rw [hys]; exact hi2
        exact ⟨ys[i], (hf i f (by rw [Array.getElem?_eq_getElem hi2]; simpa using e)).trans (List.getElem?_eq_getElem hy)⟩)
      simpa using this
    · cases h
end
end Go.Proofs.YtenghpgnhmglpaaDoor
