/- A spec that came in by value: its numbers. No condition. -/
import Derived.Test.YtpopcnebndgblaaGreatRows
import Derived.Test.YtpopcnebndgblaaGreatSpM
import Derived.WalkKit
import Derived.ProofKit
import Derived.OpenShut
import Derived.ShutString
import Derived.ChangeOld
import Derived.Lib.SmallJoins
import Derived.Below
import Derived.Carry
namespace Go.Proofs.YtpopcnebndgblaaGreat
open Go.ChangeShapes Go.WideShapes Go.RowKit Go.Joins
set_option linter.unusedVariables false
theorem pk_u8 {x : Int} (h : (Lit.int .u8 x).wf = true) : 0 ≤ x ∧ x < 256 := by
  simp [Lit.wf, IntKind.min, IntKind.max, IntKind.bits, IntKind.signed] at h
  omega
theorem pk_u64 {x : Int} (h : (Lit.int .u64 x).wf = true) : 0 ≤ x ∧ x < 18446744073709551616 := by
  simp [Lit.wf, IntKind.min, IntKind.max, IntKind.bits, IntKind.signed] at h
  omega
theorem pk_i64 {x : Int} (h : (Lit.int .i64 x).wf = true) : -9223372036854775808 ≤ x ∧ x < 9223372036854775808 := by
  simp [Lit.wf, IntKind.min, IntKind.max, IntKind.bits, IntKind.signed] at h
  omega
/-! ### Elements: structs whose fields are one cell each -/
/-- What a field of one cell holds. -/
inductive Fk where
  | u8 | u64 | i64 | b
/-- The values that a field may hold. -/
def Fk.ok : Fk → Value → Prop
  | .u8, v => ∃ n : Int, v = .int .u8 n ∧ 0 ≤ n ∧ n < 256
  | .u64, v => ∃ n : Int, v = .int .u64 n ∧ 0 ≤ n ∧ n < 18446744073709551616
  | .i64, v => ∃ n : Int, v = .int .i64 n ∧ -9223372036854775808 ≤ n ∧ n < 9223372036854775808
  | .b, v => ∃ x : Bool, v = .bool x
def Fk.desc : Fk → TypeDesc
  | .u8 => .int .u8
  | .u64 => .int .u64
  | .i64 => .int .i64
  | .b => .bool
section
variable {H : Type} {enc : TypeId × Value → H} {P : Program} {w : World} {base : Nat} {spare : Nat → Bool} {held : Bool}
theorem open_fk {t : TypeId} {k : Fk} {n : Nat} {v : Value} {x : DataW H × List MemPlace} (ht : P.underlying t = some k.desc) (h : DataW.trod enc P w base spare held n t [v] = some x) : k.ok v := by
  cases k with
  | u8 =>
    obtain ⟨m, e, _, hw⟩ := DataW.trod_int (k := .u8) ht h
    simp at e; subst e
    exact ⟨m, rfl, pk_u8 hw⟩
  | u64 =>
    obtain ⟨m, e, _, hw⟩ := DataW.trod_int (k := .u64) ht h
    simp at e; subst e
    exact ⟨m, rfl, pk_u64 hw⟩
  | i64 =>
    obtain ⟨m, e, _, hw⟩ := DataW.trod_int (k := .i64) ht h
    simp at e; subst e
    exact ⟨m, rfl, pk_i64 hw⟩
  | b =>
    obtain ⟨m, e, _⟩ := DataW.trod_bool ht h
    simp at e; subst e
    exact ⟨m, rfl⟩
/-- Values of those kinds, one by one. -/
def Oks : List Fk → List Value → Prop
  | [], [] => True
  | k :: ks, v :: vs => k.ok v ∧ Oks ks vs
  | _, _ => False
theorem Oks.append : ∀ {a b : List Fk} {x y : List Value}, Oks a x → Oks b y → Oks (a ++ b) (x ++ y)
  | [], _, [], _, _, h => h
  | k :: a, _, v :: x, _, h1, h2 => ⟨h1.1, Oks.append h1.2 h2⟩
def flatFs (P : Program) (g : TypeId → Option (List Fk)) : List Field → Nat → Option (List Fk)
  | [], _ => some []
  | f :: r, o => match g f.type with
    | none => none
    | some a => if f.offset = o ∧ P.cellsOf f.type = a.length then (match flatFs P g r (o + a.length) with | none => none | some b => some (a ++ b)) else none
/-- The kinds of a type's cells: of a number, a bool, a struct of such. -/
def flatB (P : Program) : Nat → TypeId → Option (List Fk)
  | 0, _ => none
  | n + 1, t => match P.underlying t with
    | some (.int .u8) => some [.u8]
    | some (.int .u64) => some [.u64]
    | some (.int .i64) => some [.i64]
    | some .bool => some [.b]
    | some (.struct fs) => flatFs P (flatB P n) fs.toList 0
    | _ => none
theorem one_of {cs : List Value} (h : cs.length = 1) : ∃ v, cs = [v] := by
  match cs, h with
  | [v], _ => exact ⟨v, rfl⟩
theorem open_flatFs {g : TypeId → Option (List Fk)} {m : Nat} (ih : ∀ t ks cs x, g t = some ks → cs.length = ks.length → DataW.trod enc P w base spare held m t cs = some x → Oks ks cs) :
    ∀ (fs : List Field) (o : Nat) (ks : List Fk) (cs : List Value), flatFs P g fs o = some ks → cs.length = o + ks.length → (∀ f ∈ fs, ∃ y, DataW.trod enc P w base spare held m f.type ((cs.drop f.offset).take (P.cellsOf f.type)) = some y) → Oks ks (cs.drop o)
  | [], o, ks, cs, h, hl, _ => by
    simp only [flatFs, Option.some.injEq] at h
    subst h
    rw [List.drop_eq_nil_of_le (by simp at hl; omega)]
    trivial
  | f :: r, o, ks, cs, h, hl, hf => by
    rw [flatFs] at h
    cases hg : g f.type with
    | none => rw [hg] at h; cases h
    | some a =>
      rw [hg] at h
      simp only at h
      split at h
      · rename_i hc
        cases hr : flatFs P g r (o + a.length) with
        | none => rw [hr] at h; cases h
        | some b =>
          rw [hr] at h
          simp only [Option.some.injEq] at h
          subst h
          obtain ⟨y, hy⟩ := hf f (by simp)
          rw [hc.1, hc.2] at hy
          rw [List.length_append] at hl
          have h1 := ih f.type a _ y hg (by rw [List.length_take, List.length_drop]; omega) hy
          have h2 := open_flatFs ih r (o + a.length) b cs hr (by omega) (fun f' hf' => hf f' (by simp [hf']))
          have e : cs.drop o = (cs.drop o).take a.length ++ cs.drop (o + a.length) := by
            rw [← List.drop_drop, List.take_append_drop]
          rw [e]
          exact h1.append h2
      · cases h
theorem open_flat : ∀ (n : Nat) (t : TypeId) (ks : List Fk) (fuel : Nat) (cs : List Value) (x : DataW H × List MemPlace), flatB P n t = some ks → cs.length = ks.length → DataW.trod enc P w base spare held fuel t cs = some x → Oks ks cs
  | 0, _, _, _, _, _, h, _, _ => by simp [flatB] at h
  | n + 1, t, ks, fuel, cs, x, h, hl, hx => by
    rw [flatB] at h
    split at h
    · rename_i hu
      simp only [Option.some.injEq] at h; subst h
      obtain ⟨v, rfl⟩ := one_of hl
      exact ⟨open_fk (k := .u8) hu hx, trivial⟩
    · rename_i hu
      simp only [Option.some.injEq] at h; subst h
      obtain ⟨v, rfl⟩ := one_of hl
      exact ⟨open_fk (k := .u64) hu hx, trivial⟩
    · rename_i hu
      simp only [Option.some.injEq] at h; subst h
      obtain ⟨v, rfl⟩ := one_of hl
      exact ⟨open_fk (k := .i64) hu hx, trivial⟩
    · rename_i hu
      simp only [Option.some.injEq] at h; subst h
      obtain ⟨v, rfl⟩ := one_of hl
      exact ⟨open_fk (k := .b) hu hx, trivial⟩
    · rename_i fs hu
      obtain ⟨ys, m, _, _, _, hys, hf⟩ := DataW.trod_struct hu hx
      have := open_flatFs (m := m) (fun t ks cs x h1 h2 h3 => open_flat n t ks m cs x h1 h2 h3) fs.toList 0 ks cs h (by omega) (fun f hf' => by
        obtain ⟨i, hi, e⟩ := List.getElem_of_mem hf'
        have hi2 : i < fs.size := by simpa using hi
        have hy : i < ys.length := by rw [hys]; exact hi2
        exact ⟨ys[i], (hf i f (by rw [Array.getElem?_eq_getElem hi2]; simpa using e)).trans (List.getElem?_eq_getElem hy)⟩)
      simpa using this
    · cases h
end
set_option maxRecDepth 100000 in
theorem fourteen {cs : Array Value} (h : cs.size = 14) : ∃ a b c d e f g i j k l m n o, cs = #[a, b, c, d, e, f, g, i, j, k, l, m, n, o] := by
  obtain ⟨l⟩ := cs
  match l, h with
  | [a, b, c, d, e, f, g, i, j, k, l, m, n, o], _ => exact ⟨a, b, c, d, e, f, g, i, j, k, l, m, n, o, rfl⟩
set_option maxRecDepth 100000 in
theorem open_spec {H : Type} {enc : TypeId × Value → H} {w : World} {base : Nat} {spare : Nat → Bool} {held : Bool} {r : Reach} {b0 : Nat} {v : Value} {d : DataW H} {p : List MemPlace} (hv : Value.okWide Tryz.prog w r b0 34 v) (h : DataW.Trod enc Tryz.prog w base spare held 34 v d p) :
    ∃ a : Sp, a.ok ∧ v = .agg #[.int .i64 a.id, .int .i64 a.par, .bool a.leaf, .int .u64 a.re.f, .int .u64 a.re.l, .int .u64 a.re.r, .int .u64 a.sh.f, .int .u64 a.sh.l, .int .u64 a.sh.r, .int .u64 a.up.f, .int .u64 a.up.l, .int .u64 a.up.r, .int .i64 a.pk, .int .i64 a.bt] := by
  obtain ⟨cs, rfl, hsz⟩ := okWide_struct Tryz.underlying34 hv
  obtain ⟨fuel, hf⟩ := h
  have hc : cs.size = 14 := hsz.trans (by kernel_rfl)
  obtain ⟨a, b, c, d, e, f, g, i, j, k, l, m, n, o, rfl⟩ := fourteen hc
  have hO := open_flat 3 34 [.i64, .i64, .b, .u64, .u64, .u64, .u64, .u64, .u64, .u64, .u64, .u64, .i64, .i64] fuel _ _ (by kernel_rfl) rfl (by simpa [Value.cells] using hf)
  obtain ⟨⟨x0, rfl, h0⟩, ⟨x1, rfl, h1⟩, ⟨x2, rfl⟩, ⟨x3, rfl, h3⟩, ⟨x4, rfl, h4⟩, ⟨x5, rfl, h5⟩, ⟨x6, rfl, h6⟩, ⟨x7, rfl, h7⟩, ⟨x8, rfl, h8⟩, ⟨x9, rfl, h9⟩, ⟨x10, rfl, h10⟩, ⟨x11, rfl, h11⟩, ⟨x12, rfl, h12⟩, ⟨x13, rfl, h13⟩, _⟩ := hO
  exact ⟨⟨x0, x1, x2, ⟨x3, x4, x5⟩, ⟨x6, x7, x8⟩, ⟨x9, x10, x11⟩, x12, x13⟩, ⟨h0, h1, ⟨h3, h4, h5⟩, ⟨h6, h7, h8⟩, ⟨h9, h10, h11⟩, h12, h13⟩, rfl⟩
end Go.Proofs.YtpopcnebndgblaaGreat
