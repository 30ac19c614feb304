/- Acts that came in; a book behind acts; all its curves; the chapter's example. Condition: numbers are what the fields can hold. -/
import Derived.Test.YtjbpaapglamilaaRows
import Derived.WalkKit
import Derived.ProofKit
import Derived.OpenShut
import Derived.ShutString
import Derived.ChangeOld
import Derived.Lib.SmallJoins
import Derived.Below
import Derived.Carry
import Derived.Test.YtjbpaapglamilaaAdV
namespace Go.Proofs.Ytjbpaapglamilaa
open Go.ChangeShapes Go.WideShapes Go.RowKit Go.Joins
set_option linter.unusedVariables false
theorem pk_u8 {x : Int} (h : (Lit.int .u8 x).wf = true) : 0 ≤ x ∧ x < 256 := by
  simp [Lit.wf, IntKind.min, IntKind.max, IntKind.bits, IntKind.signed] at h
  omega
theorem pk_u64 {x : Int} (h : (Lit.int .u64 x).wf = true) : 0 ≤ x ∧ x < 18446744073709551616 := by
  simp [Lit.wf, IntKind.min, IntKind.max, IntKind.bits, IntKind.signed] at h
  omega
theorem pk_i64 {x : Int} (h : (Lit.int .i64 x).wf = true) : -9223372036854775808 ≤ x ∧ x < 9223372036854775808 := by
  simp [Lit.wf, IntKind.min, IntKind.max, IntKind.bits, IntKind.signed] at h
  omega
/-! ### Elements: structs whose fields are one cell each -/
/-- What a field of one cell holds. -/
inductive Fk where
  | u8 | u64 | i64 | b
/-- The values that a field may hold. -/
def Fk.ok : Fk → Value → Prop
  | .u8, v => ∃ n : Int, v = .int .u8 n ∧ 0 ≤ n ∧ n < 256
  | .u64, v => ∃ n : Int, v = .int .u64 n ∧ 0 ≤ n ∧ n < 18446744073709551616
  | .i64, v => ∃ n : Int, v = .int .i64 n ∧ -9223372036854775808 ≤ n ∧ n < 9223372036854775808
  | .b, v => ∃ x : Bool, v = .bool x
def Fk.desc : Fk → TypeDesc
  | .u8 => .int .u8
  | .u64 => .int .u64
  | .i64 => .int .i64
  | .b => .bool
section
variable {H : Type} {enc : TypeId × Value → H} {P : Program} {w : World} {base : Nat} {spare : Nat → Bool} {held : Bool}
theorem open_fk {t : TypeId} {k : Fk} {n : Nat} {v : Value} {x : DataW H × List MemPlace} (ht : P.underlying t = some k.desc) (h : DataW.trod enc P w base spare held n t [v] = some x) : k.ok v := by
  cases k with
  | u8 =>
    obtain ⟨m, e, _, hw⟩ := DataW.trod_int (k := .u8) ht h
    simp at e; subst e
    exact ⟨m, rfl, pk_u8 hw⟩
  | u64 =>
    obtain ⟨m, e, _, hw⟩ := DataW.trod_int (k := .u64) ht h
    simp at e; subst e
    exact ⟨m, rfl, pk_u64 hw⟩
  | i64 =>
    obtain ⟨m, e, _, hw⟩ := DataW.trod_int (k := .i64) ht h
    simp at e; subst e
    exact ⟨m, rfl, pk_i64 hw⟩
  | b =>
    obtain ⟨m, e, _⟩ := DataW.trod_bool ht h
    simp at e; subst e
    exact ⟨m, rfl⟩
/-- Values of those kinds, one by one. -/
def Oks : List Fk → List Value → Prop
  | [], [] => True
  | k :: ks, v :: vs => k.ok v ∧ Oks ks vs
  | _, _ => False
theorem Oks.append : ∀ {a b : List Fk} {x y : List Value}, Oks a x → Oks b y → Oks (a ++ b) (x ++ y)
  | [], _, [], _, _, h => h
  | k :: a, _, v :: x, _, h1, h2 => ⟨h1.1, Oks.append h1.2 h2⟩
def flatFs (P : Program) (g : TypeId → Option (List Fk)) : List Field → Nat → Option (List Fk)
  | [], _ => some []
  | f :: r, o => match g f.type with
    | none => none
    | some a => if f.offset = o ∧ P.cellsOf f.type = a.length then (match flatFs P g r (o + a.length) with | none => none | some b => some (a ++ b)) else none
/-- The kinds of a type's cells: of a number, a bool, a struct of such. -/
def flatB (P : Program) : Nat → TypeId → Option (List Fk)
  | 0, _ => none
  | n + 1, t => match P.underlying t with
    | some (.int .u8) => some [.u8]
    | some (.int .u64) => some [.u64]
    | some (.int .i64) => some [.i64]
    | some .bool => some [.b]
    | some (.struct fs) => flatFs P (flatB P n) fs.toList 0
    | _ => none
theorem one_of {cs : List Value} (h : cs.length = 1) : ∃ v, cs = [v] := by
  match cs, h with
  | [v], _ => exact ⟨v, rfl⟩
theorem open_flatFs {g : TypeId → Option (List Fk)} {m : Nat} (ih : ∀ t ks cs x, g t = some ks → cs.length = ks.length → DataW.trod enc P w base spare held m t cs = some x → Oks ks cs) :
    ∀ (fs : List Field) (o : Nat) (ks : List Fk) (cs : List Value), flatFs P g fs o = some ks → cs.length = o + ks.length → (∀ f ∈ fs, ∃ y, DataW.trod enc P w base spare held m f.type ((cs.drop f.offset).take (P.cellsOf f.type)) = some y) → Oks ks (cs.drop o)
  | [], o, ks, cs, h, hl, _ => by
    simp only [flatFs, Option.some.injEq] at h
    subst h
    rw [List.drop_eq_nil_of_le (by simp at hl; omega)]
    trivial
  | f :: r, o, ks, cs, h, hl, hf => by
    rw [flatFs] at h
    cases hg : g f.type with
    | none => rw [hg] at h; cases h
    | some a =>
      rw [hg] at h
      simp only at h
      split at h
      · rename_i hc
        cases hr : flatFs P g r (o + a.length) with
        | none => rw [hr] at h; cases h
        | some b =>
          rw [hr] at h
          simp only [Option.some.injEq] at h
          subst h
          obtain ⟨y, hy⟩ := hf f (by simp)
          rw [hc.1, hc.2] at hy
          rw [List.length_append] at hl
          have h1 := ih f.type a _ y hg (by rw [List.length_take, List.length_drop]; omega) hy
          have h2 := open_flatFs ih r (o + a.length) b cs hr (by omega) (fun f' hf' => hf f' (by simp [hf']))
          have e : cs.drop o = (cs.drop o).take a.length ++ cs.drop (o + a.length) := by
            rw [← List.drop_drop, List.take_append_drop]
          rw [e]
          exact h1.append h2
      · cases h
theorem open_flat : ∀ (n : Nat) (t : TypeId) (ks : List Fk) (fuel : Nat) (cs : List Value) (x : DataW H × List MemPlace), flatB P n t = some ks → cs.length = ks.length → DataW.trod enc P w base spare held fuel t cs = some x → Oks ks cs
  | 0, _, _, _, _, _, h, _, _ => by simp [flatB] at h
  | n + 1, t, ks, fuel, cs, x, h, hl, hx => by
    rw [flatB] at h
    split at h
    · rename_i hu
      simp only [Option.some.injEq] at h; subst h
      obtain ⟨v, rfl⟩ := one_of hl
      exact ⟨open_fk (k := .u8) hu hx, trivial⟩
    · rename_i hu
      simp only [Option.some.injEq] at h; subst h
      obtain ⟨v, rfl⟩ := one_of hl
      exact ⟨open_fk (k := .u64) hu hx, trivial⟩
    · rename_i hu
      simp only [Option.some.injEq] at h; subst h
      obtain ⟨v, rfl⟩ := one_of hl
      exact ⟨open_fk (k := .i64) hu hx, trivial⟩
    · rename_i hu
      simp only [Option.some.injEq] at h; subst h
      obtain ⟨v, rfl⟩ := one_of hl
      exact ⟨open_fk (k := .b) hu hx, trivial⟩
    · rename_i fs hu
      obtain ⟨ys, m, _, _, _, hys, hf⟩ := DataW.trod_struct hu hx
      have := open_flatFs (m := m) (fun t ks cs x h1 h2 h3 => open_flat n t ks m cs x h1 h2 h3) fs.toList 0 ks cs h (by omega) (fun f hf' => by
        obtain ⟨i, hi, e⟩ := List.getElem_of_mem hf'
        have hi2 : i < fs.size := by simpa using hi
        have hy : i < ys.length := by rw [hys]; exact hi2
        exact ⟨ys[i], (hf i f (by rw [Array.getElem?_eq_getElem hi2]; simpa using e)).trans (List.getElem?_eq_getElem hy)⟩)
      simpa using this
    · cases h
end
end Go.Proofs.Ytjbpaapglamilaa

namespace Go.Proofs.Ytjbpaapglamilaa.H
open Go.ChangeShapes Go.WideShapes Go.Deep Go.RowKit W
set_option linter.unusedVariables false
set_option linter.unusedSimpArgs false
/-- Something done to a book. -/
structure Ac where
  k : Int
  i : Int
  c : Cv
  keep : Bool
def Ac.ok (a : Ac) : Prop := (0 ≤ a.k ∧ a.k < 256) ∧ I64 a.i ∧ a.c.word
def aV (a : Ac) : List Value := [.int .u8 a.k, eI a.i, eU a.c.f, eU a.c.l, eU a.c.r, .bool a.keep]
theorem aV_len (a : Ac) : (aV a).length = 6 := rfl
def Ac.zero : Ac := ⟨0, 0, zC, false⟩
theorem i64_zero : I64 0 := ⟨by decide, by decide⟩
theorem six {l : List Value} (h : l.length = 6) : ∃ a b c d e f, l = [a, b, c, d, e, f] := by
  match l, h with
  | [a, b, c, d, e, f], _ => exact ⟨a, b, c, d, e, f, rfl⟩
theorem open_acts {H : Type} {enc : TypeId × Value → H} {w : World} {base : Nat} {spare : Nat → Bool} {held : Bool} {fuel : Nat} {cs : List Value} {x : DataW H × List MemPlace} (h : DataW.trod enc Try.prog w base spare held fuel 53 cs = some x) :
    ∃ (a : Option Addr) (n c : Nat) (xs : Nat → Ac), cs = [.slice a n c] ∧ IsRow aV 6 w a n c xs ∧ (∀ i, (xs i).ok) ∧ c ≤ maxLen ∧ (a = none → n = 0 ∧ c = 0) := by
  refine open_row (e := 70) (ok := Ac.ok) Ac.zero ⟨by decide, i64_zero, zC_word⟩ (by decide) aV_len Try.underlying53 (by kernel_rfl) (fun n cs x hl hx => ?_) h
  obtain ⟨a, b, c, d, e, f, rfl⟩ := six hl
  have hO := open_flat 4 70 [.u8, .i64, .u64, .u64, .u64, .b] n _ _ (by kernel_rfl) rfl hx
  obtain ⟨⟨y, rfl, hy⟩, ⟨x0, rfl, h0⟩, ⟨x1, rfl, h1⟩, ⟨x2, rfl, h2⟩, ⟨x3, rfl, h3⟩, ⟨x4, rfl⟩, _⟩ := hO
  exact ⟨⟨y, x0, ⟨x1, x2, x3⟩, x4⟩, ⟨hy, h0, h1, h2, h3⟩, rfl⟩
theorem three {cs : Array Value} (h : cs.size = 3) : ∃ a b c, cs = #[a, b, c] := by
  obtain ⟨l⟩ := cs
  match l, h with
  | [a, b, c], _ => exact ⟨a, b, c, rfl⟩
set_option maxRecDepth 100000 in
theorem open_curve {H : Type} {enc : TypeId × Value → H} {w : World} {base : Nat} {spare : Nat → Bool} {held : Bool} {r : Reach} {b0 : Nat} {v : Value} {d : DataW H} {p : List MemPlace} (hv : Value.okWide Try.prog w r b0 25 v) (h : DataW.Trod enc Try.prog w base spare held 25 v d p) :
    ∃ a : Cv, a.word ∧ v = .agg (cA a) := by
  obtain ⟨cs, rfl, hsz⟩ := okWide_struct Try.underlying25 hv
  obtain ⟨fuel, hf⟩ := h
  have hc : cs.size = 3 := hsz.trans (by kernel_rfl)
  obtain ⟨a, b, c, rfl⟩ := three hc
  have hO := open_flat 3 25 [.u64, .u64, .u64] fuel _ _ (by kernel_rfl) rfl (by simpa [Value.cells] using hf)
  obtain ⟨⟨x0, rfl, h0⟩, ⟨x1, rfl, h1⟩, ⟨x2, rfl, h2⟩, _⟩ := hO
  exact ⟨⟨x0, x1, x2⟩, ⟨h0, h1, h2⟩, rfl⟩
theorem three_l {l : List Value} (h : l.length = 3) : ∃ a b c, l = [a, b, c] := by
  match l, h with
  | [a, b, c], _ => exact ⟨a, b, c, rfl⟩
set_option maxRecDepth 100000 in
theorem open_curves {H : Type} {enc : TypeId × Value → H} {w : World} {base : Nat} {spare : Nat → Bool} {held : Bool} {fuel : Nat} {cs : List Value} {x : DataW H × List MemPlace} (h : DataW.trod enc Try.prog w base spare held fuel 23 cs = some x) :
    ∃ (a : Option Addr) (n c : Nat) (xs : Nat → Cv), cs = [.slice a n c] ∧ IsRow fC 3 w a n c xs ∧ (∀ i, (xs i).word) ∧ c ≤ maxLen ∧ (a = none → n = 0 ∧ c = 0) := by
  refine open_row (e := 25) (ok := Cv.word) zC zC_word (by decide) (fun _ => rfl) Try.underlying23 (by kernel_rfl) (fun n cs x hl hx => ?_) h
  obtain ⟨a, b, c, rfl⟩ := three_l hl
  have hO := open_flat 3 25 [.u64, .u64, .u64] n _ _ (by kernel_rfl) rfl hx
  obtain ⟨⟨x0, rfl, h0⟩, ⟨x1, rfl, h1⟩, ⟨x2, rfl, h2⟩, _⟩ := hO
  exact ⟨⟨x0, x1, x2⟩, ⟨h0, h1, h2⟩, rfl⟩
theorem act_at {w0 : World} {a : Option Addr} {n c : Nat} {xs : Nat → Ac} (hI : IsRow aV 6 w0 a n c xs) (k : Nat) (hk : k < n) : ∃ b o, a = some ⟨b, o, none⟩ ∧ b < w0.heap.size ∧ ∀ w', Below w0.heap.size w0 w' →
    w'.cell? ⟨b, o + k * 6, none⟩ = some (.int .u8 (xs k).k) ∧ w'.cell? ⟨b, o + k * 6 + 1, none⟩ = some (.int .i64 (xs k).i) ∧ w'.rangeAt b (o + k * 6 + 2) (cA (xs k).c).toList ∧ w'.cell? ⟨b, o + k * 6 + 5, none⟩ = some (.bool (xs k).keep) := by
  obtain ⟨b, o, e, hb, h⟩ := row_at hI k hk
  refine ⟨b, o, e, hb, fun w' hw => ⟨h w' hw 0 _ rfl, h w' hw 1 _ rfl, fun j u hu => ?_, h w' hw 5 _ rfl⟩⟩
  match j, hu with
  | 0, hu => exact h w' hw 2 u hu
  | 1, hu => exact h w' hw 3 u hu
  | 2, hu => exact h w' hw 4 u hu
theorem xl_loadC {o : Oper} {a : Act} {w : World} {x : Operand} {B k : Nat} {p : Cv} (hr : w.rangeAt B k (cA p).toList) (ho : o.op = .load 25 x) (hx : a.eval x = .pointer (some ⟨B, k, none⟩)) : (execOp a.eval o).run Try.prog w = .ok (.value (.agg (cA p))) w := by
  unfold execOp
  have h := run_loadVar_mid (P := Try.prog) w B k 25 (cA p).toList _ hr Try.underlying25 rfl (by rw [size25]; rfl)
  simp only [ho, hx, Instr.loadAt, Instr.sureAddr, Sem.run_bind, Sem.run_pure, Result.andThen_ok, h, Array.toArray_toList]
theorem xl_at {P : Program} {o : Oper} {a : Act} {w : World} (ty : TypeId) {x : Operand} {B k : Nat} {v : Value} {d : TypeDesc} (hcell : w.cell? ⟨B, k, none⟩ = some v) (ho : o.op = .load ty x) (hx : a.eval x = .pointer (some ⟨B, k, none⟩))
    (hu : P.underlying ty = some d) (hd : d.isRow = false) : (execOp a.eval o).run P w = .ok (.value v) w := by
  have hl : (loadVar ty ⟨B, k, none⟩).run P w = .ok v w := by
    have hagg : (isAgg ty).run P w = .ok false w := by
      unfold isAgg
      rw [Sem.run_bind, run_underlying hu w]
      cases d <;> simp_all
    simp [loadVar, Sem.run_bind, hagg, run_load, hcell]
  unfold execOp
  simp only [ho, hx, Instr.loadAt, Instr.sureAddr, Sem.run_bind, Sem.run_pure, Result.andThen_ok, hl]
section
variable {V0 w w' : World} {t n : Nat} {b b' : Bk} {k : Int} {x : Cv}
/-- One book, made behind V0. -/
def Bn (V0 w : World) (t n : Nat) (b : Bk) : Prop := ∃ χ, Fr V0 χ w ∧ Bo w χ 1 t n b
theorem Bn.world (h : Bn V0 w t n b) : Below V0.heap.size V0 w := by obtain ⟨χ, hf, _⟩ := h; exact hf.world
theorem Bn.fit (h : Bn V0 w t n b) : b.Fit n := by obtain ⟨χ, _, h1⟩ := h; exact h1.2
theorem Bn.mono {m : Nat} (h : Bn V0 w t n b) (hm : n ≤ m) : Bn V0 w t m b := by obtain ⟨χ, hf, h1⟩ := h; exact ⟨χ, hf, h1.mono hm⟩
theorem Bn.below (h : Bn V0 w t n b) (hb : Below w.heap.size w w') : Bn V0 w' t n b := by
  obtain ⟨χ, hf, h1⟩ := h
  exact ⟨χ, hf.below hb, h1.below hb⟩
theorem bn_new {R : Int} (hR : Word R) (hb : Below V0.heap.size V0 w) : Calls Try.prog 6 #[eU R] w fun e w' => if 1 ≤ R ∧ R ≤ 1048576 then (∃ C, e = .returned (.tuple #[ptr C, eI 0]) ∧ Bn V0 w' C 0 ⟨R, [], []⟩) else (e = .returned (.tuple #[.pointer none, eI 240]) ∧ w = w') := by
  refine (new_any hR (fun _ => 0) 1).mono ?_
  intro e w' h
  by_cases hc : 1 ≤ R ∧ R ≤ 1048576
  · rw [if_pos hc] at h ⊢
    obtain ⟨C, rfl, h1, T⟩ := h
    exact ⟨C, rfl, _, ((Fr.start V0).below hb).next (Col.new (c := 1) T 1) (by decide), h1⟩
  · rw [if_neg hc] at h ⊢
    exact h
theorem bn_put (h : Bn V0 w t n b) (hn : n ≤ 200) (hk : I64 k) (hx : x.word) {e0 : Int} (he : b.putE k x = e0) (hb : b.put k x = b') : Calls Try.prog 9 #[ptr t, eI k, .agg (cA x)] w fun e w' => e = .returned (eI e0) ∧ Bn V0 w' t (n + 1) b' := by
  subst he hb
  obtain ⟨χ, hf, h1⟩ := h
  refine (put_any h1 hn hk hx).mono ?_
  rintro e w' ⟨e1, χ', hT, hC⟩
  exact ⟨e1, χ', hf.next hC (by decide), hT⟩
theorem bn_swap (h : Bn V0 w t n b) (hn : n ≤ 200) (hk : I64 k) (hx : x.word) (keep : Bool) : Calls Try.prog 13 #[ptr t, eI k, .agg (cA x), .bool keep] w fun e w' => e = .returned (eI (b.swpE k x keep)) ∧ Bn V0 w' t (n + 1) (b.swp k x keep) := by
  obtain ⟨χ, hf, h1⟩ := h
  refine (swap_any h1 hn hk hx keep).mono ?_
  rintro e w' ⟨e1, χ', hT, hC⟩
  exact ⟨e1, χ', hf.next hC (by decide), hT⟩
theorem bn_drop (h : Bn V0 w t n b) (hn : n ≤ 200) (hk : I64 k) (keep : Bool) {q : Bool} (hq : b.has k = q) (hb : b.drop k keep = b') : Calls Try.prog 14 #[ptr t, eI k, .bool keep] w fun e w' => e = .returned (.bool q) ∧ Bn V0 w' t n b' := by
  subst hq hb
  obtain ⟨χ, hf, h1⟩ := h
  refine (drop_any h1 hn hk keep).mono ?_
  rintro e w' ⟨e1, hT, hC⟩
  exact ⟨e1, _, hf.next hC (by decide), hT⟩
theorem bn_settle (h : Bn V0 w t n b) {m : Nat} (hm : b.G.length = m) : Calls Try.prog 15 #[ptr t] w fun e w' => e = .returned (eI (m : Int)) ∧ Bn V0 w' t n b.settle := by
  subst hm
  obtain ⟨χ, hf, h1⟩ := h
  refine (settle_any h1).mono ?_
  rintro e w' ⟨e1, χ', hT, hC⟩
  exact ⟨e1, χ', hf.next hC (by decide), hT⟩
theorem bn_fits (h : Bn V0 w t n b) (hn : n ≤ 200) (hx : x.word) {q : Bool} (hq : b.fits x = q) : Calls Try.prog 10 #[ptr t, .agg (cA x)] w fun e w' => e = .returned (.bool q) ∧ Below w.heap.size w w' := by
  subst hq
  obtain ⟨χ, hf, h1⟩ := h
  exact fits_any h1 hn hx
theorem bn_live (h : Bn V0 w t n b) (hk : I64 k) : Calls Try.prog 12 #[ptr t, eI k] w fun e w' => e = .returned (.tuple #[.agg (cA (b.get k)), .bool (b.has k)]) ∧ Below w.heap.size w w' := by
  obtain ⟨χ, hf, h1⟩ := h
  exact live_any h1 hk
theorem long_any {a : Option Addr} {n c : Nat} (hc : n ≤ c) (w : World) : Calls Try.prog 21 #[.slice a n c] w fun e w' => e = .returned (.bool (decide (60 < n))) ∧ w = w' := by
  have j : (n : Int) ≤ (c : Int) := by omega
  by_cases h : 60 < n
  · have i : (60 : Int) < (n : Int) := by omega
    go_enter Try.func21, Try.ntmps21
    go_wp2
    go_ret
    exact ⟨by simp [h], rfl⟩
  · have i : ¬ (60 : Int) < (n : Int) := by omega
    go_enter Try.func21, Try.ntmps21
    go_wp2
    go_ret
    exact ⟨by simp [h], rfl⟩
def st (a : Int) : Cv := ⟨0, 0, a⟩
set_option maxHeartbeats 4000000 in
set_option maxRecDepth 100000 in
theorem straight_any (a : Int) (w : World) : Calls Try.prog 38 #[eU a] w fun e w' => e = .returned (.agg (cA (st a))) ∧ Below w.heap.size w w' := by
  have hb : Try.prog.built 25 [(2, eU a)] = some (cA (st a)) := by kernel_rfl
  go_enter Try.func38, Try.ntmps38
  go_wp2_with (first
    | (refine wl_alloc 25 rfl rfl zero25 ?_; intro w1 X1 T1)
    | (refine wl_run (xl_build 25 (parts := [(2, .tmp 3)]) hb rfl) rfl ?_)
    | (refine wl_store 25 X1 rfl rfl rfl rfl size25 rfl (by omega : 0 + 3 ≤ 3) (cA_one _) (spl_cc _ _) ?_; intro w2 X2 K2))
  refine bodyPost_ret (v := .agg (cA (st a))) ?_ rfl ⟨rfl, K2.up T1 (Nat.le_refl _)⟩
  exact results_cell_row rfl _ _ _ _ _ _ _ rfl X2 Try.underlying25 rfl size25
theorem cvs_get {L : Lv} (hs : Srt L) : cvsK L = (idsK L).map (getK L) := by
  unfold cvsK idsK
  rw [List.map_map]
  exact List.map_congr_left (fun p hp => (getK_mem hs hp).symm)
theorem take_cvs {L : Lv} (hs : Srt L) {i : Nat} {k : Int} (h : (idsK L)[i]? = some k) : (cvsK L).take (i + 1) = (cvsK L).take i ++ [getK L k] := by
  have e : (cvsK L)[i]? = some (getK L k) := by rw [cvs_get hs, List.getElem?_map, h]; rfl
  have hl : i < (cvsK L).length := (List.getElem?_eq_some_iff.1 e).1
  rw [List.take_succ_eq_append_getElem hl]
  rw [List.getElem?_eq_getElem hl] at e
  rw [Option.some.inj e]
theorem own_own {w : World} {b1 b2 s1 s2 n1 n2 : Nat} {e1 e2 : TypeId} {v1 v2 : Value} {x1 x2 : List Value} (h1 : w.ownsRow b1 e1 s1 v1 n1 x1) (h2 : w.ownsRow b2 e2 s2 v2 n2 x2) (he : e2 ≠ e1) : ∀ q, v2.ownBlock = some q → v1.ownBlock ≠ some q := fun q e => by
  rcases h2.2 with ⟨rfl, _⟩ | ⟨g, cap, cur, rfl, _, hg, _⟩
  · cases e
  · have e' : g = q := by simpa [Value.ownBlock] using e
    subst e'
    exact own_not h1 (show Box w g cur e2 from hg) he
set_option maxHeartbeats 4000000 in
set_option maxRecDepth 100000 in
theorem all_of {χ : Nat → Nat} {c B : Nat} (h : Bo w χ c B n b) (hn : n ≤ 200) : Calls Try.prog 23 #[ptr B] w fun e w' => ∃ v, e = .returned v ∧ w'.ownsRow w.heap.size 25 3 v b.all.length (rowC fC b.all) ∧ Below w.heap.size w w' := by
  have hF := h.2
  have hfew := hF.few
  have hG := ghosts_any h (by omega)
  have hal : b.all = b.G ++ cvsK b.L := rfl
  have hal2 : b.all.length = b.G.length + b.L.length := Bk.all_len b
  have hcl : (cvsK b.L).length = b.L.length := List.length_map _
  have hil := lv_len b.L
  have hs := hF.srt
  have hids := hF.ids
  obtain ⟨N, hN⟩ : ∃ N, b.L.length = N := ⟨_, rfl⟩
  rw [hN] at hal2 hcl hil hfew
  go_enter Try.func23, Try.ntmps23
  go_upto_region 4 with (first
    | (go_at_call 18; (with_reducible refine hG.mono ?_); rintro e w1 ⟨v1, rfl, O1, T1⟩; have hI := ids_any (h.below T1) (by omega); rw [hN] at hI)
    | (go_at_call 17; (with_reducible refine hI.mono ?_); rintro e w2 ⟨v2, rfl, O2, T2⟩))
  obtain ⟨a2, c2, rfl, hc2, hm2⟩ := own_len O2
  have j1 : (N : Int) ≤ (c2 : Int) := by omega
  have S2 := ups T1 T2 T1.size
  have O1' := own_below O1 T2
  have O1z := Lib.hid O1'
  clear hG hI O1 hF
  clear O1'
  have hB0 := Lib.hid h
  clear h
  go_loopw [3, 5, 7] (fun s3 s5 s7 wr => ∃ i : Nat, s5 = .int .i64 i ∧ i ≤ N ∧ wr.ownsRow w.heap.size 25 3 s3 (b.G.length + i) (rowC fC (b.G ++ (cvsK b.L).take i)) ∧ wr.ownsRow 0 3 1 (.slice a2 N c2) N ((idsK b.L).map eI) ∧ Below w.heap.size w wr) (fun _ s5 _ _ => N - (intOf s5).toNat)
  case atStart => exact ⟨0, rfl, by omega, by simpa using O1z.out, own_mono O2 (Nat.zero_le _), S2⟩
  case round =>
    clear O2 S2 T1 T2
    obtain ⟨i, rfl, hi, hO, O2r, S⟩ := hrel
    by_cases hlt : i < N
    · have i1 : (i : Int) < (N : Int) := by omega
      have i2 : (0 : Int) ≤ (i : Int) := by omega
      have hw1 : IntKind.i64.wrap ((i : Int) + 1) = (i : Int) + 1 := i64_id (by omega)
      obtain ⟨k, hk⟩ : ∃ k, (idsK b.L)[i]? = some k := ⟨_, List.getElem?_eq_getElem (by omega)⟩
      have hkI : I64 k := hids _ (mem_getK (List.mem_of_getElem? hk))
      have hL := live_any (hB0.out.below S) hkI
      have hcv := Lib.hid (take_cvs hs hk)
      have hlen : (b.G ++ (cvsK b.L).take i).length = b.G.length + i := by rw [List.length_append, List.length_take]; omega
      obtain ⟨g, cap, e, _⟩ := (own_form O2r).resolve_left (by omega)
      cases e
      have d0 : wr.cell? ⟨g, i, none⟩ = some (eI k) := by
        have := O2r.cells rfl i (eI k) (by rw [List.getElem?_map, hk]; rfl)
        rw [add_plain, Nat.zero_add] at this
        exact this
      go_wp2_with (first
        | (go_at_call 12; (with_reducible refine hL.mono ?_); rintro e w3 ⟨rfl, T3⟩; have S3 := ups S T3 S.size; have O3 := own_below hO T3; have Q3 := own_below O2r T3)
        | (refine wl_alloc 25 rfl rfl zero25 ?_; intro w4 X4 T4; have S4 := ups S3 T4 S3.size; have O4 := own_below O3 T4; have Q4 := own_below Q3 T4)
        | (refine wl_store 25 X4 rfl rfl rfl rfl size25 rfl (by omega : 0 + 3 ≤ 3) (cA_one _) (spl_cc _ _) ?_; intro w5 X5 K5; have S5 := K5.up S4 S3.size; have O5 := own_but O4 K5 (own_lt_ne O3 (Nat.le_refl _)); have Q5 := own_but Q4 K5 (own_lt_ne Q3 (Nat.le_refl _)))
        | (refine wl_run (xl_load 25 X5 rfl rfl Try.underlying25 rfl size25 (by omega : 0 + 3 ≤ 3) (cA_all _)) rfl ?_)
        | (refine wl_sl 23 25 rfl rfl rfl Try.underlying23 (bslC _) ?_; intro w8 X8 T8; have O8 := own_below O5 T8; have Q8 := own_below Q5 T8; have S8 := ups S5 T8 S5.size; have F8 := flat_new (f := fC) (x := b.get k) X8 rfl)
        | (refine wpList_more rowCv cellsC rfl _ _ rfl w.heap.size u3 (b.G ++ (cvsK b.L).take i) [b.get k] (b.G.length + i) 1 hlen rfl rfl O8 _ 1 rfl F8 (by omega) S8.size ?_; intro v9 w9 O9 G9 N9 _; have S9 := S8.grown G9 S8.size (fun g e => (O8.lt g e).1); have Q9 := Q8.grown' G9 (own_own O8 Q8 (by decide))))
      refine ⟨⟨i + 1, rfl, by omega, ?_, Q9, S9⟩, by simp [intOf]; omega⟩
      rw [hcv.out, ← List.append_assoc]
      exact O9
    · have i1 : ¬ (i : Int) < (N : Int) := by omega
      obtain rfl : i = N := by omega
      go_wp2
      go_ret
      rw [List.take_of_length_le (by omega)] at hO
      exact ⟨_, rfl, hO, S⟩
end
end Go.Proofs.Ytjbpaapglamilaa.H

namespace Go.Proofs.Ytjbpaapglamilaa.H
open Go.ChangeShapes Go.WideShapes Go.Deep Go.RowKit W
set_option linter.unusedVariables false
set_option linter.unusedSimpArgs false
section
variable {b : Bk} {k : Int} {c : Cv} {keep : Bool}
theorem Bk.note_R : (b.note k c).R = b.R := by unfold Bk.note; split <;> rfl
theorem Bk.put_R : (b.put k c).R = b.R := by
  unfold Bk.put
  split
  · exact Bk.note_R
  · rfl
theorem Bk.swp_R : (b.swp k c keep).R = b.R := by
  unfold Bk.swp
  split
  · rw [Bk.note_R]; exact Bk.drop_R
  · rfl
end
theorem played_bad (a : Option Addr) (n c : Nat) (R : Int) (hR : Word R) (hb : ¬ (1 ≤ R ∧ R ≤ 1048576)) (w : World) : Calls Try.prog 22 #[eU R, .slice a n c] w fun e w' => e = .returned (.pointer none) ∧ w = w' := by
  have hN := bn_new (V0 := w) hR (Below.refl _ w)
  simp only [if_neg hb] at hN
  clear hb
  go_enter Try.func22, Try.ntmps22
  go_wp2_with (first
    | (go_at_call 6; (with_reducible refine hN.mono ?_); rintro e w1 ⟨rfl, rfl⟩))
  go_ret
  exact ⟨rfl, rfl⟩
set_option maxHeartbeats 4000000 in
set_option maxRecDepth 100000 in
theorem played_any (a : Option Addr) (n c : Nat) (xs : Nat → Ac) (R : Int) (hR : Word R) (hb : 1 ≤ R ∧ R ≤ 1048576) (V0 w : World) (hT0 : Below V0.heap.size V0 w) (hI : IsRow aV 6 V0 a n c xs) (hok : ∀ i, (xs i).ok) (hcm : c ≤ maxLen) (hn : n ≤ 60) :
    Calls Try.prog 22 #[eU R, .slice a n c] w fun e w' => ∃ C b, e = .returned (ptr C) ∧ b.R = R ∧ Bn V0 w' C 60 b := by
  have hN := bn_new (V0 := V0) hR hT0
  simp only [if_pos hb] at hN
  have j1 : (n : Int) ≤ (c : Int) := by have := hI.1; omega
  have hIh := Lib.hid hI
  have hoh := Lib.hid hok
  clear hI hok hb
  have hcl : c ≤ 9223372036854775807 := Nat.le_trans hcm (by decide)
  go_enter Try.func22, Try.ntmps22
  go_upto_region 5 with (first
    | (go_at_call 6; (with_reducible refine hN.mono ?_); rintro e w1 ⟨C, rfl, H1⟩))
  clear hN
  go_loopw [7] (fun s7 wr => ∃ i : Nat, s7 = .int .i64 i ∧ i ≤ n ∧ ∃ b, b.R = R ∧ Bn V0 wr C i b) (fun s7 _ => n - (intOf s7).toNat)
  case atStart => exact ⟨0, rfl, by omega, _, rfl, H1⟩
  case round =>
    clear H1
    obtain ⟨i, rfl, hi, b, hbR, hP⟩ := hrel
    by_cases hlt : i < n
    · have i1 : (i : Int) < (n : Int) := by omega
      have i2 : (0 : Int) ≤ (i : Int) := by omega
      have hw1 : IntKind.i64.wrap ((i : Int) + 1) = (i : Int) + 1 := i64_id (by omega)
      obtain ⟨bb, q, rfl, hbl, hcell⟩ := act_at hIh.out i hlt
      obtain ⟨hk0, hi0, hs⟩ := hoh.out i
      generalize xs i = y at *
      have x0 := (hcell wr hP.world).1
      have hx1 : ∀ W, Below V0.heap.size V0 W → _ := fun W hW => (hcell W hW).2.1
      have hx2 : ∀ W, Below V0.heap.size V0 W → _ := fun W hW => (hcell W hW).2.2.1
      have hx3 : ∀ W, Below V0.heap.size V0 W → _ := fun W hW => (hcell W hW).2.2.2
      have hbRh := Lib.hid hbR
      have hP' := hP.below (drew_below wr)
      clear hcell hbR
      have hm5 : y.k % 5 = 0 ∨ y.k % 5 = 1 ∨ y.k % 5 = 2 ∨ y.k % 5 = 3 ∨ y.k % 5 = 4 := by omega
      have htm : y.k.tmod 5 = y.k % 5 := Int.tmod_eq_emod_of_nonneg hk0.1
      rcases hm5 with hm | hm | hm | hm | hm
      · have hr : y.k.tmod 5 = 0 := by rw [htm]; exact hm
        have hC := bn_put hP' (by omega) hi0 hs rfl rfl
        clear htm hm
        go_upto_region 9 with fail
        refine wp_region_held_drew (S := fun W => Below V0.heap.size V0 W) (by kernel_rfl) (hP.world.drew) (fun hHeld => ?_)
        refine wpAnyH_take (i := 0) (v := ?_) (by simp only [List.getElem?_toArray, List.getElem?_cons_zero]; rfl) (by kernel_rfl) (by kernel_rfl) (by kernel_rfl) (by exact fun _ _ _ h => h) (Or.inl ⟨by rfl, ?_⟩) (by assumption) ?_
        rotate_left
        · (intro w hSw; (try dsimp only at hSw); go_simp; (try with_reducible rfl))
        try simp only [Act.put, List.setIfInBounds_toArray, List.set_cons_zero, List.set_cons_succ]
        refine wpAnyH_take (i := 1) (v := ?_) (by simp only [List.getElem?_toArray, List.getElem?_cons_zero, List.getElem?_cons_succ]; rfl) (by kernel_rfl) (by kernel_rfl) (by kernel_rfl) (by exact fun _ _ _ h => h) (Or.inl ⟨by rfl, ?_⟩) (by assumption) ?_
        rotate_left
        · (intro w hSw; (try dsimp only at hSw); go_simp; (try with_reducible rfl))
        try simp only [Act.put, List.setIfInBounds_toArray, List.set_cons_zero, List.set_cons_succ]
        refine wpAnyH_take (i := 2) (v := ?_) (by simp only [List.getElem?_toArray, List.getElem?_cons_zero, List.getElem?_cons_succ]; rfl) (by kernel_rfl) (by kernel_rfl) (by kernel_rfl) (by exact fun _ _ _ h => h) (Or.inl ⟨by rfl, ?_⟩) (by assumption) ?_
        rotate_left
        · (intro w hSw; (try dsimp only at hSw); go_simp; (try with_reducible rfl))
        try simp only [Act.put, List.setIfInBounds_toArray, List.set_cons_zero, List.set_cons_succ]
        refine wpAnyH_take (i := 3) (v := ?_) (by simp only [List.getElem?_toArray, List.getElem?_cons_zero, List.getElem?_cons_succ]; rfl) (by kernel_rfl) (by kernel_rfl) (by kernel_rfl) (by exact fun _ _ _ h => h) (Or.inl ⟨by rfl, ?_⟩) (by assumption) ?_
        rotate_left
        · (intro w hSw; (try dsimp only at hSw); go_simp; (try with_reducible rfl))
        try simp only [Act.put, List.setIfInBounds_toArray, List.set_cons_zero, List.set_cons_succ]
        refine wpAnyH_take (i := 4) (v := ?_) (by simp only [List.getElem?_toArray, List.getElem?_cons_zero, List.getElem?_cons_succ]; rfl) (by kernel_rfl) (by kernel_rfl) (by kernel_rfl) (by exact fun _ _ _ h => h) (Or.inl ⟨by rfl, ?_⟩) (by assumption) ?_
        rotate_left
        · (intro w hSw; (try dsimp only at hSw); go_simp; (try with_reducible rfl))
        try simp only [Act.put, List.setIfInBounds_toArray, List.set_cons_zero, List.set_cons_succ]
        refine wpAnyH_take (i := 5) (v := eI y.i) (by simp only [List.getElem?_toArray, List.getElem?_cons_zero, List.getElem?_cons_succ]; rfl) (by kernel_rfl) (by kernel_rfl) (by kernel_rfl) (by exact fun _ _ _ h => h) (Or.inl ⟨by rfl, fun w hSw => xl_at 3 (hx1 _ hSw) rfl rfl Try.underlying3 rfl⟩) (by assumption) ?_
        try simp only [Act.put, List.setIfInBounds_toArray, List.set_cons_zero, List.set_cons_succ]
        refine wpAnyH_take (i := 6) (v := ?_) (by simp only [List.getElem?_toArray, List.getElem?_cons_zero, List.getElem?_cons_succ]; rfl) (by kernel_rfl) (by kernel_rfl) (by kernel_rfl) (by exact fun _ _ _ h => h) (Or.inl ⟨by rfl, ?_⟩) (by assumption) ?_
        rotate_left
        · (intro w hSw; (try dsimp only at hSw); go_simp; (try with_reducible rfl))
        try simp only [Act.put, List.setIfInBounds_toArray, List.set_cons_zero, List.set_cons_succ]
        refine wpAnyH_take (i := 7) (v := ?_) (by simp only [List.getElem?_toArray, List.getElem?_cons_zero, List.getElem?_cons_succ]; rfl) (by kernel_rfl) (by kernel_rfl) (by kernel_rfl) (by exact fun _ _ _ h => h) (Or.inl ⟨by rfl, ?_⟩) (by assumption) ?_
        rotate_left
        · (intro w hSw; (try dsimp only at hSw); go_simp; (try with_reducible rfl))
        try simp only [Act.put, List.setIfInBounds_toArray, List.set_cons_zero, List.set_cons_succ]
        refine wpAnyH_take (i := 8) (v := ?_) (by simp only [List.getElem?_toArray, List.getElem?_cons_zero, List.getElem?_cons_succ]; rfl) (by kernel_rfl) (by kernel_rfl) (by kernel_rfl) (by exact fun _ _ _ h => h) (Or.inl ⟨by rfl, ?_⟩) (by assumption) ?_
        rotate_left
        · (intro w hSw; (try dsimp only at hSw); go_simp; (try with_reducible rfl))
        try simp only [Act.put, List.setIfInBounds_toArray, List.set_cons_zero, List.set_cons_succ]
        refine wpAnyH_take (i := 9) (v := ?_) (by simp only [List.getElem?_toArray, List.getElem?_cons_zero, List.getElem?_cons_succ]; rfl) (by kernel_rfl) (by kernel_rfl) (by kernel_rfl) (by exact fun _ _ _ h => h) (Or.inl ⟨by rfl, ?_⟩) (by assumption) ?_
        rotate_left
        · (intro w hSw; (try dsimp only at hSw); go_simp; (try with_reducible rfl))
        try simp only [Act.put, List.setIfInBounds_toArray, List.set_cons_zero, List.set_cons_succ]
        refine wpAnyH_take (i := 10) (v := .agg (cA y.c)) (by simp only [List.getElem?_toArray, List.getElem?_cons_zero, List.getElem?_cons_succ]; rfl) (by kernel_rfl) (by kernel_rfl) (by kernel_rfl) (by exact fun _ _ _ h => h) (Or.inl ⟨by rfl, fun w hSw => xl_loadC (hx2 _ hSw) rfl rfl⟩) (by assumption) ?_
        try simp only [Act.put, List.setIfInBounds_toArray, List.set_cons_zero, List.set_cons_succ]
        refine wpAnyH_ready (rs := [11]) (by kernel_rfl) (by simp) ?_
        refine AllReadyH.cons (by simp only [List.getElem?_toArray, List.getElem?_cons_zero, List.getElem?_cons_succ]; rfl) (fun K hK => ?_) AllReadyH.nil
        go_simp
        go_at_call 9
        (with_reducible refine hC.mono ?_)
        rintro e wc ⟨rfl, Qc⟩
        refine hK.out _ _ Qc.world (fun hHeld => ?_)
        clear hK K
        try simp only [Act.put, List.setIfInBounds_toArray, List.set_cons_zero, List.set_cons_succ]
        refine wpAnyH_done (by kernel_rfl) ?_ _
        go_wp2_with fail
        exact ⟨⟨i + 1, rfl, by omega, _, Bk.put_R.trans hbRh.out, Qc⟩, by simp [intOf]; omega⟩
      · have hr : y.k.tmod 5 = 1 := by rw [htm]; exact hm
        have hC := bn_swap hP' (by omega) hi0 hs y.keep
        clear htm hm
        go_upto_region 11 with fail
        refine wp_region_held_drew (S := fun W => Below V0.heap.size V0 W) (by kernel_rfl) (hP.world.drew) (fun hHeld => ?_)
        refine wpAnyH_take (i := 0) (v := ?_) (by simp only [List.getElem?_toArray, List.getElem?_cons_zero]; rfl) (by kernel_rfl) (by kernel_rfl) (by kernel_rfl) (by exact fun _ _ _ h => h) (Or.inl ⟨by rfl, ?_⟩) (by assumption) ?_
        rotate_left
        · (intro w hSw; (try dsimp only at hSw); go_simp; (try with_reducible rfl))
        try simp only [Act.put, List.setIfInBounds_toArray, List.set_cons_zero, List.set_cons_succ]
        refine wpAnyH_take (i := 1) (v := ?_) (by simp only [List.getElem?_toArray, List.getElem?_cons_zero, List.getElem?_cons_succ]; rfl) (by kernel_rfl) (by kernel_rfl) (by kernel_rfl) (by exact fun _ _ _ h => h) (Or.inl ⟨by rfl, ?_⟩) (by assumption) ?_
        rotate_left
        · (intro w hSw; (try dsimp only at hSw); go_simp; (try with_reducible rfl))
        try simp only [Act.put, List.setIfInBounds_toArray, List.set_cons_zero, List.set_cons_succ]
        refine wpAnyH_take (i := 2) (v := ?_) (by simp only [List.getElem?_toArray, List.getElem?_cons_zero, List.getElem?_cons_succ]; rfl) (by kernel_rfl) (by kernel_rfl) (by kernel_rfl) (by exact fun _ _ _ h => h) (Or.inl ⟨by rfl, ?_⟩) (by assumption) ?_
        rotate_left
        · (intro w hSw; (try dsimp only at hSw); go_simp; (try with_reducible rfl))
        try simp only [Act.put, List.setIfInBounds_toArray, List.set_cons_zero, List.set_cons_succ]
        refine wpAnyH_take (i := 3) (v := ?_) (by simp only [List.getElem?_toArray, List.getElem?_cons_zero, List.getElem?_cons_succ]; rfl) (by kernel_rfl) (by kernel_rfl) (by kernel_rfl) (by exact fun _ _ _ h => h) (Or.inl ⟨by rfl, ?_⟩) (by assumption) ?_
        rotate_left
        · (intro w hSw; (try dsimp only at hSw); go_simp; (try with_reducible rfl))
        try simp only [Act.put, List.setIfInBounds_toArray, List.set_cons_zero, List.set_cons_succ]
        refine wpAnyH_take (i := 4) (v := ?_) (by simp only [List.getElem?_toArray, List.getElem?_cons_zero, List.getElem?_cons_succ]; rfl) (by kernel_rfl) (by kernel_rfl) (by kernel_rfl) (by exact fun _ _ _ h => h) (Or.inl ⟨by rfl, ?_⟩) (by assumption) ?_
        rotate_left
        · (intro w hSw; (try dsimp only at hSw); go_simp; (try with_reducible rfl))
        try simp only [Act.put, List.setIfInBounds_toArray, List.set_cons_zero, List.set_cons_succ]
        refine wpAnyH_take (i := 5) (v := eI y.i) (by simp only [List.getElem?_toArray, List.getElem?_cons_zero, List.getElem?_cons_succ]; rfl) (by kernel_rfl) (by kernel_rfl) (by kernel_rfl) (by exact fun _ _ _ h => h) (Or.inl ⟨by rfl, fun w hSw => xl_at 3 (hx1 _ hSw) rfl rfl Try.underlying3 rfl⟩) (by assumption) ?_
        try simp only [Act.put, List.setIfInBounds_toArray, List.set_cons_zero, List.set_cons_succ]
        refine wpAnyH_take (i := 6) (v := ?_) (by simp only [List.getElem?_toArray, List.getElem?_cons_zero, List.getElem?_cons_succ]; rfl) (by kernel_rfl) (by kernel_rfl) (by kernel_rfl) (by exact fun _ _ _ h => h) (Or.inl ⟨by rfl, ?_⟩) (by assumption) ?_
        rotate_left
        · (intro w hSw; (try dsimp only at hSw); go_simp; (try with_reducible rfl))
        try simp only [Act.put, List.setIfInBounds_toArray, List.set_cons_zero, List.set_cons_succ]
        refine wpAnyH_take (i := 7) (v := ?_) (by simp only [List.getElem?_toArray, List.getElem?_cons_zero, List.getElem?_cons_succ]; rfl) (by kernel_rfl) (by kernel_rfl) (by kernel_rfl) (by exact fun _ _ _ h => h) (Or.inl ⟨by rfl, ?_⟩) (by assumption) ?_
        rotate_left
        · (intro w hSw; (try dsimp only at hSw); go_simp; (try with_reducible rfl))
        try simp only [Act.put, List.setIfInBounds_toArray, List.set_cons_zero, List.set_cons_succ]
        refine wpAnyH_take (i := 8) (v := ?_) (by simp only [List.getElem?_toArray, List.getElem?_cons_zero, List.getElem?_cons_succ]; rfl) (by kernel_rfl) (by kernel_rfl) (by kernel_rfl) (by exact fun _ _ _ h => h) (Or.inl ⟨by rfl, ?_⟩) (by assumption) ?_
        rotate_left
        · (intro w hSw; (try dsimp only at hSw); go_simp; (try with_reducible rfl))
        try simp only [Act.put, List.setIfInBounds_toArray, List.set_cons_zero, List.set_cons_succ]
        refine wpAnyH_take (i := 9) (v := ?_) (by simp only [List.getElem?_toArray, List.getElem?_cons_zero, List.getElem?_cons_succ]; rfl) (by kernel_rfl) (by kernel_rfl) (by kernel_rfl) (by exact fun _ _ _ h => h) (Or.inl ⟨by rfl, ?_⟩) (by assumption) ?_
        rotate_left
        · (intro w hSw; (try dsimp only at hSw); go_simp; (try with_reducible rfl))
        try simp only [Act.put, List.setIfInBounds_toArray, List.set_cons_zero, List.set_cons_succ]
        refine wpAnyH_take (i := 10) (v := .agg (cA y.c)) (by simp only [List.getElem?_toArray, List.getElem?_cons_zero, List.getElem?_cons_succ]; rfl) (by kernel_rfl) (by kernel_rfl) (by kernel_rfl) (by exact fun _ _ _ h => h) (Or.inl ⟨by rfl, fun w hSw => xl_loadC (hx2 _ hSw) rfl rfl⟩) (by assumption) ?_
        try simp only [Act.put, List.setIfInBounds_toArray, List.set_cons_zero, List.set_cons_succ]
        refine wpAnyH_take (i := 11) (v := ?_) (by simp only [List.getElem?_toArray, List.getElem?_cons_zero, List.getElem?_cons_succ]; rfl) (by kernel_rfl) (by kernel_rfl) (by kernel_rfl) (by exact fun _ _ _ h => h) (Or.inl ⟨by rfl, ?_⟩) (by assumption) ?_
        rotate_left
        · (intro w hSw; (try dsimp only at hSw); go_simp; (try with_reducible rfl))
        try simp only [Act.put, List.setIfInBounds_toArray, List.set_cons_zero, List.set_cons_succ]
        refine wpAnyH_take (i := 12) (v := ?_) (by simp only [List.getElem?_toArray, List.getElem?_cons_zero, List.getElem?_cons_succ]; rfl) (by kernel_rfl) (by kernel_rfl) (by kernel_rfl) (by exact fun _ _ _ h => h) (Or.inl ⟨by rfl, ?_⟩) (by assumption) ?_
        rotate_left
        · (intro w hSw; (try dsimp only at hSw); go_simp; (try with_reducible rfl))
        try simp only [Act.put, List.setIfInBounds_toArray, List.set_cons_zero, List.set_cons_succ]
        refine wpAnyH_take (i := 13) (v := ?_) (by simp only [List.getElem?_toArray, List.getElem?_cons_zero, List.getElem?_cons_succ]; rfl) (by kernel_rfl) (by kernel_rfl) (by kernel_rfl) (by exact fun _ _ _ h => h) (Or.inl ⟨by rfl, ?_⟩) (by assumption) ?_
        rotate_left
        · (intro w hSw; (try dsimp only at hSw); go_simp; (try with_reducible rfl))
        try simp only [Act.put, List.setIfInBounds_toArray, List.set_cons_zero, List.set_cons_succ]
        refine wpAnyH_take (i := 14) (v := ?_) (by simp only [List.getElem?_toArray, List.getElem?_cons_zero, List.getElem?_cons_succ]; rfl) (by kernel_rfl) (by kernel_rfl) (by kernel_rfl) (by exact fun _ _ _ h => h) (Or.inl ⟨by rfl, ?_⟩) (by assumption) ?_
        rotate_left
        · (intro w hSw; (try dsimp only at hSw); go_simp; (try with_reducible rfl))
        try simp only [Act.put, List.setIfInBounds_toArray, List.set_cons_zero, List.set_cons_succ]
        refine wpAnyH_take (i := 15) (v := .bool y.keep) (by simp only [List.getElem?_toArray, List.getElem?_cons_zero, List.getElem?_cons_succ]; rfl) (by kernel_rfl) (by kernel_rfl) (by kernel_rfl) (by exact fun _ _ _ h => h) (Or.inl ⟨by rfl, fun w hSw => xl_at 4 (hx3 _ hSw) rfl rfl Try.underlying4 rfl⟩) (by assumption) ?_
        try simp only [Act.put, List.setIfInBounds_toArray, List.set_cons_zero, List.set_cons_succ]
        refine wpAnyH_ready (rs := [16]) (by kernel_rfl) (by simp) ?_
        refine AllReadyH.cons (by simp only [List.getElem?_toArray, List.getElem?_cons_zero, List.getElem?_cons_succ]; rfl) (fun K hK => ?_) AllReadyH.nil
        go_simp
        go_at_call 13
        (with_reducible refine hC.mono ?_)
        rintro e wc ⟨rfl, Qc⟩
        refine hK.out _ _ Qc.world (fun hHeld => ?_)
        clear hK K
        try simp only [Act.put, List.setIfInBounds_toArray, List.set_cons_zero, List.set_cons_succ]
        refine wpAnyH_done (by kernel_rfl) ?_ _
        go_wp2_with fail
        exact ⟨⟨i + 1, rfl, by omega, _, Bk.swp_R.trans hbRh.out, Qc⟩, by simp [intOf]; omega⟩
      · have hr : y.k.tmod 5 = 2 := by rw [htm]; exact hm
        have hC := bn_drop hP' (by omega) hi0 y.keep rfl rfl
        clear htm hm
        go_upto_region 13 with fail
        refine wp_region_held_drew (S := fun W => Below V0.heap.size V0 W) (by kernel_rfl) (hP.world.drew) (fun hHeld => ?_)
        refine wpAnyH_take (i := 0) (v := ?_) (by simp only [List.getElem?_toArray, List.getElem?_cons_zero]; rfl) (by kernel_rfl) (by kernel_rfl) (by kernel_rfl) (by exact fun _ _ _ h => h) (Or.inl ⟨by rfl, ?_⟩) (by assumption) ?_
        rotate_left
        · (intro w hSw; (try dsimp only at hSw); go_simp; (try with_reducible rfl))
        try simp only [Act.put, List.setIfInBounds_toArray, List.set_cons_zero, List.set_cons_succ]
        refine wpAnyH_take (i := 1) (v := ?_) (by simp only [List.getElem?_toArray, List.getElem?_cons_zero, List.getElem?_cons_succ]; rfl) (by kernel_rfl) (by kernel_rfl) (by kernel_rfl) (by exact fun _ _ _ h => h) (Or.inl ⟨by rfl, ?_⟩) (by assumption) ?_
        rotate_left
        · (intro w hSw; (try dsimp only at hSw); go_simp; (try with_reducible rfl))
        try simp only [Act.put, List.setIfInBounds_toArray, List.set_cons_zero, List.set_cons_succ]
        refine wpAnyH_take (i := 2) (v := ?_) (by simp only [List.getElem?_toArray, List.getElem?_cons_zero, List.getElem?_cons_succ]; rfl) (by kernel_rfl) (by kernel_rfl) (by kernel_rfl) (by exact fun _ _ _ h => h) (Or.inl ⟨by rfl, ?_⟩) (by assumption) ?_
        rotate_left
        · (intro w hSw; (try dsimp only at hSw); go_simp; (try with_reducible rfl))
        try simp only [Act.put, List.setIfInBounds_toArray, List.set_cons_zero, List.set_cons_succ]
        refine wpAnyH_take (i := 3) (v := ?_) (by simp only [List.getElem?_toArray, List.getElem?_cons_zero, List.getElem?_cons_succ]; rfl) (by kernel_rfl) (by kernel_rfl) (by kernel_rfl) (by exact fun _ _ _ h => h) (Or.inl ⟨by rfl, ?_⟩) (by assumption) ?_
        rotate_left
        · (intro w hSw; (try dsimp only at hSw); go_simp; (try with_reducible rfl))
        try simp only [Act.put, List.setIfInBounds_toArray, List.set_cons_zero, List.set_cons_succ]
        refine wpAnyH_take (i := 4) (v := ?_) (by simp only [List.getElem?_toArray, List.getElem?_cons_zero, List.getElem?_cons_succ]; rfl) (by kernel_rfl) (by kernel_rfl) (by kernel_rfl) (by exact fun _ _ _ h => h) (Or.inl ⟨by rfl, ?_⟩) (by assumption) ?_
        rotate_left
        · (intro w hSw; (try dsimp only at hSw); go_simp; (try with_reducible rfl))
        try simp only [Act.put, List.setIfInBounds_toArray, List.set_cons_zero, List.set_cons_succ]
        refine wpAnyH_take (i := 5) (v := eI y.i) (by simp only [List.getElem?_toArray, List.getElem?_cons_zero, List.getElem?_cons_succ]; rfl) (by kernel_rfl) (by kernel_rfl) (by kernel_rfl) (by exact fun _ _ _ h => h) (Or.inl ⟨by rfl, fun w hSw => xl_at 3 (hx1 _ hSw) rfl rfl Try.underlying3 rfl⟩) (by assumption) ?_
        try simp only [Act.put, List.setIfInBounds_toArray, List.set_cons_zero, List.set_cons_succ]
        refine wpAnyH_take (i := 6) (v := ?_) (by simp only [List.getElem?_toArray, List.getElem?_cons_zero, List.getElem?_cons_succ]; rfl) (by kernel_rfl) (by kernel_rfl) (by kernel_rfl) (by exact fun _ _ _ h => h) (Or.inl ⟨by rfl, ?_⟩) (by assumption) ?_
        rotate_left
        · (intro w hSw; (try dsimp only at hSw); go_simp; (try with_reducible rfl))
        try simp only [Act.put, List.setIfInBounds_toArray, List.set_cons_zero, List.set_cons_succ]
        refine wpAnyH_take (i := 7) (v := ?_) (by simp only [List.getElem?_toArray, List.getElem?_cons_zero, List.getElem?_cons_succ]; rfl) (by kernel_rfl) (by kernel_rfl) (by kernel_rfl) (by exact fun _ _ _ h => h) (Or.inl ⟨by rfl, ?_⟩) (by assumption) ?_
        rotate_left
        · (intro w hSw; (try dsimp only at hSw); go_simp; (try with_reducible rfl))
        try simp only [Act.put, List.setIfInBounds_toArray, List.set_cons_zero, List.set_cons_succ]
        refine wpAnyH_take (i := 8) (v := ?_) (by simp only [List.getElem?_toArray, List.getElem?_cons_zero, List.getElem?_cons_succ]; rfl) (by kernel_rfl) (by kernel_rfl) (by kernel_rfl) (by exact fun _ _ _ h => h) (Or.inl ⟨by rfl, ?_⟩) (by assumption) ?_
        rotate_left
        · (intro w hSw; (try dsimp only at hSw); go_simp; (try with_reducible rfl))
        try simp only [Act.put, List.setIfInBounds_toArray, List.set_cons_zero, List.set_cons_succ]
        refine wpAnyH_take (i := 9) (v := ?_) (by simp only [List.getElem?_toArray, List.getElem?_cons_zero, List.getElem?_cons_succ]; rfl) (by kernel_rfl) (by kernel_rfl) (by kernel_rfl) (by exact fun _ _ _ h => h) (Or.inl ⟨by rfl, ?_⟩) (by assumption) ?_
        rotate_left
        · (intro w hSw; (try dsimp only at hSw); go_simp; (try with_reducible rfl))
        try simp only [Act.put, List.setIfInBounds_toArray, List.set_cons_zero, List.set_cons_succ]
        refine wpAnyH_take (i := 10) (v := .bool y.keep) (by simp only [List.getElem?_toArray, List.getElem?_cons_zero, List.getElem?_cons_succ]; rfl) (by kernel_rfl) (by kernel_rfl) (by kernel_rfl) (by exact fun _ _ _ h => h) (Or.inl ⟨by rfl, fun w hSw => xl_at 4 (hx3 _ hSw) rfl rfl Try.underlying4 rfl⟩) (by assumption) ?_
        try simp only [Act.put, List.setIfInBounds_toArray, List.set_cons_zero, List.set_cons_succ]
        refine wpAnyH_ready (rs := [11]) (by kernel_rfl) (by simp) ?_
        refine AllReadyH.cons (by simp only [List.getElem?_toArray, List.getElem?_cons_zero, List.getElem?_cons_succ]; rfl) (fun K hK => ?_) AllReadyH.nil
        go_simp
        go_at_call 14
        (with_reducible refine hC.mono ?_)
        rintro e wc ⟨rfl, Qc⟩
        refine hK.out _ _ Qc.world (fun hHeld => ?_)
        clear hK K
        try simp only [Act.put, List.setIfInBounds_toArray, List.set_cons_zero, List.set_cons_succ]
        refine wpAnyH_done (by kernel_rfl) ?_ _
        go_wp2_with fail
        exact ⟨⟨i + 1, rfl, by omega, _, Bk.drop_R.trans hbRh.out, Qc.mono (by omega)⟩, by simp [intOf]; omega⟩
      · have hr : y.k.tmod 5 = 3 := by rw [htm]; exact hm
        have hC := bn_settle hP rfl
        clear htm hm
        go_wp2_with (first
          | (go_at_call 15; (with_reducible refine hC.mono ?_); rintro e wc ⟨rfl, Qc⟩))
        exact ⟨⟨i + 1, rfl, by omega, b.settle, hbRh.out, Qc.mono (by omega)⟩, by simp [intOf]; omega⟩
      · have hr : y.k.tmod 5 = 4 := by rw [htm]; exact hm
        clear htm hm
        go_wp2_with fail
        exact ⟨⟨i + 1, rfl, by omega, _, hbRh.out, hP.mono (by omega)⟩, by simp [intOf]; omega⟩
    · have i1 : ¬ (i : Int) < (n : Int) := by omega
      go_wp2_with fail
      go_ret
      first | exact ⟨_, _, rfl, hbR, hP.mono (by omega)⟩ | exact ⟨_, rfl, _, hbR, hP.mono (by omega)⟩ | exact ⟨b, hbR, hP.mono (by omega)⟩
/-! ### The chapter's example -/
theorem st_may {a : Int} (h : 0 ≤ a ∧ a ≤ 1048576) : mB (st a) = true := by
  unfold mB st mayB
  simp; omega
theorem st_word {a : Int} (h : 0 ≤ a ∧ a ≤ 1048576) : (st a).word := by unfold Cv.word Word st; dsimp only; omega
theorem st_one {a : Int} (h : 0 ≤ a ∧ a ≤ 1048576) {t : Int} (ht : 0 ≤ t) : oneW (st a) t = a * t := by
  unfold oneW
  rw [if_pos (show (st a).may from mayB_is.1 (st_may h))]
  unfold cW st
  simp [Int.max_eq_left ht]
  intro h0
  obtain rfl : t = 0 := by omega
  simp
def sumI : List Int → Int
  | [] => 0
  | a :: l => a + sumI l
theorem st_sum : ∀ {l : List Int}, (∀ a ∈ l, 0 ≤ a ∧ a ≤ 1048576) → ∀ {t : Int}, 0 ≤ t → sW (l.map st) t = sumI l * t
  | [], _, t, _ => by simp [sW, sumI]
  | a :: l, h, t, ht => by
    rw [List.map_cons, sW, st_one (h a (by simp)) ht, st_sum (fun b hb => h b (by simp [hb])) ht, sumI, Int.add_mul]
theorem kB_st {l : List Int} {R : Int} (h : ∀ a ∈ l, 0 ≤ a ∧ a ≤ 1048576) : kB (l.map st) R = decide (sumI l ≤ R) := by
  rw [Bool.eq_iff_iff, kB_iff, decide_eq_true_iff]
  unfold kept lateAt
  constructor
  · intro k
    have := k 1 (by omega) (by omega)
    rw [st_sum h (by omega)] at this
    omega
  · intro k t h0 h1
    rw [st_sum h h0]
    have := Int.mul_le_mul_of_nonneg_right k h0
    omega
theorem k1 : kB [st 60] 100 = true := (kB_st (l := [60]) (by decide)).trans rfl
theorem k2 : kB [st 40, st 60] 100 = true := (kB_st (l := [40, 60]) (by decide)).trans rfl
theorem k3 : kB [st 1, st 60, st 40] 100 = false := (kB_st (l := [1, 60, 40]) (by decide)).trans rfl
theorem k4 : kB [st 1, st 40, st 60] 100 = false := (kB_st (l := [1, 40, 60]) (by decide)).trans rfl
def b0 : Bk := ⟨100, [], []⟩
def b1 : Bk := ⟨100, [(1, st 60)], []⟩
def b2 : Bk := ⟨100, [(1, st 60), (2, st 40)], []⟩
def b3 : Bk := ⟨100, [(1, st 60)], [st 40]⟩
def b5 : Bk := ⟨100, [(1, st 60), (3, st 40)], []⟩
theorem putE_ok {b : Bk} {k : Int} {c : Cv} (hm : mB c = true) (hh : b.has k = false) (hk : kB (c :: b.all) b.R = true) : b.putE k c = 0 := by unfold Bk.putE; rw [hm, hh, hk]; rfl
theorem putE_no {b : Bk} {k : Int} {c : Cv} (hm : mB c = true) (hh : b.has k = false) (hk : kB (c :: b.all) b.R = false) : b.putE k c = 170 := by unfold Bk.putE; rw [hm, hh, hk]; rfl
theorem putE_twice {b : Bk} {k : Int} {c : Cv} (hm : mB c = true) (hh : b.has k = true) : b.putE k c = 80 := by unfold Bk.putE; rw [hm, hh]; rfl
theorem put_ok {b b' : Bk} {k : Int} {c : Cv} (h : b.putE k c = 0) (hb : b.note k c = b') : b.put k c = b' := by unfold Bk.put; rw [if_pos h]; exact hb
theorem put_no {b : Bk} {k : Int} {c : Cv} {e : Int} (h : b.putE k c = e) (he : e ≠ 0) : b.put k c = b := by unfold Bk.put; rw [if_neg (by rw [h]; exact he)]
theorem m0 : mB (st 0) = true := st_may (by decide)
theorem m1 : mB (st 1) = true := st_may (by decide)
theorem m40 : mB (st 40) = true := st_may (by decide)
theorem m60 : mB (st 60) = true := st_may (by decide)
theorem e1 : b0.putE 1 (st 60) = 0 := putE_ok m60 rfl k1
theorem p1 : b0.put 1 (st 60) = b1 := put_ok e1 rfl
theorem e2 : b1.putE 2 (st 40) = 0 := putE_ok m40 rfl k2
theorem p2 : b1.put 2 (st 40) = b2 := put_ok e2 rfl
theorem e3 : b2.putE 3 (st 1) = 170 := putE_no m1 rfl k3
theorem p3 : b2.put 3 (st 1) = b2 := put_no e3 (by decide)
theorem d4 : b2.has 2 = true := rfl
theorem p4 : b2.drop 2 true = b3 := rfl
theorem e5 : b3.putE 3 (st 1) = 170 := putE_no m1 rfl k4
theorem p5 : b3.put 3 (st 1) = b3 := put_no e5 (by decide)
theorem p6 : b3.settle = b1 := rfl
theorem e7 : b1.putE 3 (st 40) = 0 := putE_ok m40 rfl k2
theorem p7 : b1.put 3 (st 40) = b5 := put_ok e7 rfl
theorem e8 : b5.putE 3 (st 0) = 80 := putE_twice m0 rfl
theorem p8 : b5.put 3 (st 0) = b5 := put_no e8 (by decide)
theorem f9 : b5.fits (st 1) = false := by unfold Bk.fits; rw [show kB (st 1 :: b5.all) b5.R = false from k3, Bool.and_false]
set_option maxHeartbeats 4000000 in
set_option maxRecDepth 100000 in
theorem awake_any (w : World) : Calls Try.prog 20 #[] w fun e w' => e = .returned (.bool true) ∧ Below w.heap.size w w' := by
  have j1 : I64 1 := ⟨by decide, by decide⟩
  have j2 : I64 2 := ⟨by decide, by decide⟩
  have j3 : I64 3 := ⟨by decide, by decide⟩
  have hN := bn_new (V0 := w) (R := 100) ⟨by decide, by decide⟩ (Below.refl w.heap.size w)
  simp only [if_pos (show (1 : Int) ≤ 100 ∧ (100 : Int) ≤ 1048576 by decide)] at hN
  have hN0 := fun W => bn_new (V0 := W) (w := W) (R := 0) ⟨by decide, by decide⟩ (Below.refl _ W)
  simp only [if_neg (show ¬ ((1 : Int) ≤ 0 ∧ (0 : Int) ≤ 1048576) by decide)] at hN0
  have s60 := fun W => straight_any 60 W
  have s40 := fun W => straight_any 40 W
  have s1 := fun W => straight_any 1 W
  have s0 := fun W => straight_any 0 W
  have w60 := st_word (a := 60) (by decide)
  have w40 := st_word (a := 40) (by decide)
  have w1 := st_word (a := 1) (by decide)
  have w0 := st_word (a := 0) (by decide)
  go_enter Try.func20, Try.ntmps20
  go_upto_region 5 with (first
    | (go_at_call 6; (with_reducible refine hN.mono ?_); rintro e W1 ⟨C, rfl, H1⟩; have hp := ptr_eq C)
    | (go_at_call 6; (with_reducible refine (hN0 _).mono ?_); rintro e W2 ⟨rfl, rfl⟩))
  clear hN hN0
  go_upto_region 6 with (first
    | (go_at_call 38; (with_reducible refine (s60 _).mono ?_); rintro e W3 ⟨rfl, T3⟩; have H3 := H1.below T3; clear H1; have hC := bn_put H3 (by omega) j1 w60 e1 p1)
    | (go_at_call 9; (with_reducible refine hC.mono ?_); rintro e W4 ⟨rfl, H4⟩; clear hC H3)
    | (go_at_call 38; (with_reducible refine (s40 _).mono ?_); rintro e W5 ⟨rfl, T5⟩; have H5 := H4.below T5; clear H4; have hC := bn_put H5 (by omega) j2 w40 e2 p2)
    | (go_at_call 9; (with_reducible refine hC.mono ?_); rintro e W6 ⟨rfl, H6⟩; clear hC H5)
    | (go_at_call 38; (with_reducible refine (s1 _).mono ?_); rintro e W7 ⟨rfl, T7⟩; have H7 := H6.below T7; clear H6; have hC := bn_put H7 (by omega) j3 w1 e3 p3)
    | (go_at_call 9; (with_reducible refine hC.mono ?_); rintro e W8 ⟨rfl, H8⟩; clear hC H7; have hD := bn_drop H8 (by omega) j2 true d4 p4))
  go_upto_region 9 with (first
    | (go_at_call 14; (with_reducible refine hD.mono ?_); rintro e W9 ⟨rfl, H9⟩; clear hD H8)
    | (go_at_call 38; (with_reducible refine (s1 _).mono ?_); rintro e Wa ⟨rfl, Ta⟩; have Ha := H9.below Ta; clear H9; have hC := bn_put Ha (by omega) j3 w1 e5 p5)
    | (go_at_call 9; (with_reducible refine hC.mono ?_); rintro e Wb ⟨rfl, Hb⟩; clear hC Ha; have hS := bn_settle Hb (m := 1) rfl; rw [p6] at hS)
    | (go_at_call 15; (with_reducible refine hS.mono ?_); rintro e Wc ⟨rfl, Hc⟩; clear hS Hb))
  go_wp2_with (first
    | (go_at_call 38; (with_reducible refine (s40 _).mono ?_); rintro e Wd ⟨rfl, Td⟩; have Hd := Hc.below Td; clear Hc; have hC := bn_put Hd (by omega) j3 w40 e7 p7)
    | (go_at_call 9; (with_reducible refine hC.mono ?_); rintro e We ⟨rfl, He⟩; clear hC Hd)
    | (go_at_call 38; (with_reducible refine (s0 _).mono ?_); rintro e Wf ⟨rfl, Tf⟩; have Hf := He.below Tf; clear He; have hC := bn_put Hf (by omega) j3 w0 e8 p8)
    | (go_at_call 9; (with_reducible refine hC.mono ?_); rintro e Wg ⟨rfl, Hg⟩; clear hC Hf)
    | (go_at_call 38; (with_reducible refine (s1 _).mono ?_); rintro e Wh ⟨rfl, Th⟩; have Hh := Hg.below Th; clear Hg; have hF := bn_fits Hh (by omega) w1 f9)
    | (go_at_call 10; (with_reducible refine hF.mono ?_); rintro e Wi ⟨rfl, Ti⟩))
  go_ret
  exact ⟨rfl, (Hh.below Ti).world⟩
end Go.Proofs.Ytjbpaapglamilaa.H
