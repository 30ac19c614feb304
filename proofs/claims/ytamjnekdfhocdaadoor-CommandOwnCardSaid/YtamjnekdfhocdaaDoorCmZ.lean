/- A command, a reply that came in by value; the names that the row lists. No condition. -/
import Derived.Test.YtamjnekdfhocdaaDoorRows
import Derived.Test.YtamjnekdfhocdaaDoorCmX
import Derived.WalkKit
import Derived.ProofKit
import Derived.OpenShut
import Derived.ShutString
import Derived.ChangeOld
import Derived.Lib.SmallJoins
import Derived.Below
import Derived.Carry
import Derived.Lib.LaidTab
import Derived.LaidMore
import Derived.Lay
namespace Go.Proofs.YtamjnekdfhocdaaDoor
open Go.ChangeShapes Go.WideShapes Go.RowKit Go.Joins
set_option linter.unusedVariables false
theorem pk_u8 {x : Int} (h : (Lit.int .u8 x).wf = true) : 0 ≤ x ∧ x < 256 := by
  simp [Lit.wf, IntKind.min, IntKind.max, IntKind.bits, IntKind.signed] at h
  omega
theorem pk_u64 {x : Int} (h : (Lit.int .u64 x).wf = true) : 0 ≤ x ∧ x < 18446744073709551616 := by
  simp [Lit.wf, IntKind.min, IntKind.max, IntKind.bits, IntKind.signed] at h
  omega
theorem pk_i64 {x : Int} (h : (Lit.int .i64 x).wf = true) : -9223372036854775808 ≤ x ∧ x < 9223372036854775808 := by
  simp [Lit.wf, IntKind.min, IntKind.max, IntKind.bits, IntKind.signed] at h
  omega
/-! ### Elements: structs whose fields are one cell each -/
/-- What a field of one cell holds. -/
inductive Fk where
  | u8 | u64 | i64 | b
/-- The values that a field may hold. -/
def Fk.ok : Fk → Value → Prop
  | .u8, v => ∃ n : Int, v = .int .u8 n ∧ 0 ≤ n ∧ n < 256
  | .u64, v => ∃ n : Int, v = .int .u64 n ∧ 0 ≤ n ∧ n < 18446744073709551616
  | .i64, v => ∃ n : Int, v = .int .i64 n ∧ -9223372036854775808 ≤ n ∧ n < 9223372036854775808
  | .b, v => ∃ x : Bool, v = .bool x
def Fk.desc : Fk → TypeDesc
  | .u8 => .int .u8
  | .u64 => .int .u64
  | .i64 => .int .i64
  | .b => .bool
section
variable {H : Type} {enc : TypeId × Value → H} {P : Program} {w : World} {base : Nat} {spare : Nat → Bool} {held : Bool}
theorem open_fk {t : TypeId} {k : Fk} {n : Nat} {v : Value} {x : DataW H × List MemPlace} (ht : P.underlying t = some k.desc) (h : DataW.trod enc P w base spare held n t [v] = some x) : k.ok v := by
  cases k with
  | u8 =>
    obtain ⟨m, e, _, hw⟩ := DataW.trod_int (k := .u8) ht h
    simp at e; subst e
    exact ⟨m, rfl, pk_u8 hw⟩
  | u64 =>
    obtain ⟨m, e, _, hw⟩ := DataW.trod_int (k := .u64) ht h
    simp at e; subst e
    exact ⟨m, rfl, pk_u64 hw⟩
  | i64 =>
    obtain ⟨m, e, _, hw⟩ := DataW.trod_int (k := .i64) ht h
    simp at e; subst e
    exact ⟨m, rfl, pk_i64 hw⟩
  | b =>
    obtain ⟨m, e, _⟩ := DataW.trod_bool ht h
    simp at e; subst e
    exact ⟨m, rfl⟩
/-- Values of those kinds, one by one. -/
def Oks : List Fk → List Value → Prop
  | [], [] => True
  | k :: ks, v :: vs => k.ok v ∧ Oks ks vs
  | _, _ => False
theorem Oks.append : ∀ {a b : List Fk} {x y : List Value}, Oks a x → Oks b y → Oks (a ++ b) (x ++ y)
  | [], _, [], _, _, h => h
  | k :: a, _, v :: x, _, h1, h2 => ⟨h1.1, Oks.append h1.2 h2⟩
def flatFs (P : Program) (g : TypeId → Option (List Fk)) : List Field → Nat → Option (List Fk)
  | [], _ => some []
  | f :: r, o => match g f.type with
    | none => none
    | some a => if f.offset = o ∧ P.cellsOf f.type = a.length then (match flatFs P g r (o + a.length) with | none => none | some b => some (a ++ b)) else none
/-- The kinds of a type's cells: of a number, a bool, a struct of such. -/
def flatB (P : Program) : Nat → TypeId → Option (List Fk)
  | 0, _ => none
  | n + 1, t => match P.underlying t with
    | some (.int .u8) => some [.u8]
    | some (.int .u64) => some [.u64]
    | some (.int .i64) => some [.i64]
    | some .bool => some [.b]
    | some (.struct fs) => flatFs P (flatB P n) fs.toList 0
    | _ => none
theorem one_of {cs : List Value} (h : cs.length = 1) : ∃ v, cs = [v] := by
  match cs, h with
  | [v], _ => exact ⟨v, rfl⟩
theorem open_flatFs {g : TypeId → Option (List Fk)} {m : Nat} (ih : ∀ t ks cs x, g t = some ks → cs.length = ks.length → DataW.trod enc P w base spare held m t cs = some x → Oks ks cs) :
    ∀ (fs : List Field) (o : Nat) (ks : List Fk) (cs : List Value), flatFs P g fs o = some ks → cs.length = o + ks.length → (∀ f ∈ fs, ∃ y, DataW.trod enc P w base spare held m f.type ((cs.drop f.offset).take (P.cellsOf f.type)) = some y) → Oks ks (cs.drop o)
  | [], o, ks, cs, h, hl, _ => by
    simp only [flatFs, Option.some.injEq] at h
    subst h
    rw [List.drop_eq_nil_of_le (by simp at hl; omega)]
    trivial
  | f :: r, o, ks, cs, h, hl, hf => by
    rw [flatFs] at h
    cases hg : g f.type with
    | none => rw [hg] at h; cases h
    | some a =>
      rw [hg] at h
      simp only at h
      split at h
      · rename_i hc
        cases hr : flatFs P g r (o + a.length) with
        | none => rw [hr] at h; cases h
        | some b =>
          rw [hr] at h
          simp only [Option.some.injEq] at h
          subst h
          obtain ⟨y, hy⟩ := hf f (by simp)
          rw [hc.1, hc.2] at hy
          rw [List.length_append] at hl
          have h1 := ih f.type a _ y hg (by rw [List.length_take, List.length_drop]; omega) hy
          have h2 := open_flatFs ih r (o + a.length) b cs hr (by omega) (fun f' hf' => hf f' (by simp [hf']))
          have e : cs.drop o = (cs.drop o).take a.length ++ cs.drop (o + a.length) := by
            rw [← List.drop_drop, List.take_append_drop]
          rw [e]
          exact h1.append h2
      · cases h
theorem open_flat : ∀ (n : Nat) (t : TypeId) (ks : List Fk) (fuel : Nat) (cs : List Value) (x : DataW H × List MemPlace), flatB P n t = some ks → cs.length = ks.length → DataW.trod enc P w base spare held fuel t cs = some x → Oks ks cs
  | 0, _, _, _, _, _, h, _, _ => by simp [flatB] at h
  | n + 1, t, ks, fuel, cs, x, h, hl, hx => by
    rw [flatB] at h
    split at h
    · rename_i hu
      simp only [Option.some.injEq] at h; subst h
      obtain ⟨v, rfl⟩ := one_of hl
      exact ⟨open_fk (k := .u8) hu hx, trivial⟩
    · rename_i hu
      simp only [Option.some.injEq] at h; subst h
      obtain ⟨v, rfl⟩ := one_of hl
      exact ⟨open_fk (k := .u64) hu hx, trivial⟩
    · rename_i hu
      simp only [Option.some.injEq] at h; subst h
      obtain ⟨v, rfl⟩ := one_of hl
      exact ⟨open_fk (k := .i64) hu hx, trivial⟩
    · rename_i hu
      simp only [Option.some.injEq] at h; subst h
      obtain ⟨v, rfl⟩ := one_of hl
      exact ⟨open_fk (k := .b) hu hx, trivial⟩
    · rename_i fs hu
      obtain ⟨ys, m, _, _, _, hys, hf⟩ := DataW.trod_struct hu hx
      have := open_flatFs (m := m) (fun t ks cs x h1 h2 h3 => open_flat n t ks m cs x h1 h2 h3) fs.toList 0 ks cs h (by omega) (fun f hf' => by
        obtain ⟨i, hi, e⟩ := List.getElem_of_mem hf'
        have hi2 : i < fs.size := by simpa using hi
        have hy : i < ys.length := by rw [hys]; exact hi2
        exact ⟨ys[i], (hf i f (by rw [Array.getElem?_eq_getElem hi2]; simpa using e)).trans (List.getElem?_eq_getElem hy)⟩)
      simpa using this
    · cases h
end
set_option maxRecDepth 100000 in
theorem cells_24 {cs : Array Value} (h : cs.size = 24) : ∃ a0 a1 a2 a3 a4 a5 a6 a7 a8 a9 a10 a11 a12 a13 a14 a15 a16 a17 a18 a19 a20 a21 a22 a23, cs = #[a0, a1, a2, a3, a4, a5, a6, a7, a8, a9, a10, a11, a12, a13, a14, a15, a16, a17, a18, a19, a20, a21, a22, a23] := by
  obtain ⟨l⟩ := cs
  match l, h with
  | [a0, a1, a2, a3, a4, a5, a6, a7, a8, a9, a10, a11, a12, a13, a14, a15, a16, a17, a18, a19, a20, a21, a22, a23], _ => exact ⟨a0, a1, a2, a3, a4, a5, a6, a7, a8, a9, a10, a11, a12, a13, a14, a15, a16, a17, a18, a19, a20, a21, a22, a23, rfl⟩
set_option maxHeartbeats 4000000 in
set_option maxRecDepth 100000 in
theorem open_cmd {H : Type} {enc : TypeId × Value → H} {w : World} {base : Nat} {spare : Nat → Bool} {held : Bool} {r : Reach} {b0 : Nat} {v : Value} {d : DataW H} {p : List MemPlace} (hv : Value.okWide Tryd.prog w r b0 32 v) (h : DataW.Trod enc Tryd.prog w base spare held 32 v d p) :
    ∃ a : Cm, a.ok ∧ v = .agg (cmV a) := by
  obtain ⟨cs, rfl, hsz⟩ := okWide_struct Tryd.underlying32 hv
  obtain ⟨fuel, hf⟩ := h
  have hc : cs.size = 24 := hsz.trans (by kernel_rfl)
  obtain ⟨a0, a1, a2, a3, a4, a5, a6, a7, a8, a9, a10, a11, a12, a13, a14, a15, a16, a17, a18, a19, a20, a21, a22, a23, rfl⟩ := cells_24 hc
  have hO := open_flat 4 32 [.u8, .u64, .i64, .u64, .i64, .i64, .b, .u64, .u64, .u64, .u64, .u64, .u64, .u64, .u64, .u64, .i64, .i64, .i64, .u64, .i64, .i64, .u64, .u64] fuel _ _ (by kernel_rfl) rfl (by simpa [Value.cells] using hf)
  obtain ⟨⟨x0, rfl, h0⟩, ⟨x1, rfl, h1⟩, ⟨x2, rfl, h2⟩, ⟨x3, rfl, h3⟩, ⟨x4, rfl, h4⟩, ⟨x5, rfl, h5⟩, ⟨x6, rfl⟩, ⟨x7, rfl, h7⟩, ⟨x8, rfl, h8⟩, ⟨x9, rfl, h9⟩, ⟨x10, rfl, h10⟩, ⟨x11, rfl, h11⟩, ⟨x12, rfl, h12⟩, ⟨x13, rfl, h13⟩, ⟨x14, rfl, h14⟩, ⟨x15, rfl, h15⟩, ⟨x16, rfl, h16⟩, ⟨x17, rfl, h17⟩, ⟨x18, rfl, h18⟩, ⟨x19, rfl, h19⟩, ⟨x20, rfl, h20⟩, ⟨x21, rfl, h21⟩, ⟨x22, rfl, h22⟩, ⟨x23, rfl, h23⟩, _⟩ := hO
  refine ⟨⟨x0.toNat, x1.toNat, x2, x3.toNat, x4, x5, x6, x7.toNat, x8.toNat, x9.toNat, x10.toNat, x11.toNat, x12.toNat, x13.toNat, x14.toNat, x15.toNat, x16, x17, x18, x19.toNat, x20, x21, x22.toNat, x23.toNat⟩, ⟨by show x0.toNat < 256; omega, by
    simp only [List.forall_mem_cons, List.not_mem_nil, false_implies, implies_true, and_true]
    exact ⟨(by show x1.toNat < _; omega), h2, (by show x3.toNat < _; omega), h4, h5, (by show x7.toNat < _; omega), (by show x8.toNat < _; omega), (by show x9.toNat < _; omega), (by show x10.toNat < _; omega), (by show x11.toNat < _; omega), (by show x12.toNat < _; omega), (by show x13.toNat < _; omega), (by show x14.toNat < _; omega), (by show x15.toNat < _; omega), h16, h17, h18, (by show x19.toNat < _; omega), h20, h21, (by show x22.toNat < _; omega), (by show x23.toNat < _; omega)⟩⟩, ?_⟩
  unfold cmV
  simp only [Int.toNat_of_nonneg h0.1, Int.toNat_of_nonneg h1.1, Int.toNat_of_nonneg h3.1, Int.toNat_of_nonneg h7.1, Int.toNat_of_nonneg h8.1, Int.toNat_of_nonneg h9.1, Int.toNat_of_nonneg h10.1, Int.toNat_of_nonneg h11.1, Int.toNat_of_nonneg h12.1, Int.toNat_of_nonneg h13.1, Int.toNat_of_nonneg h14.1, Int.toNat_of_nonneg h15.1, Int.toNat_of_nonneg h19.1, Int.toNat_of_nonneg h22.1, Int.toNat_of_nonneg h23.1]
set_option maxRecDepth 100000 in
theorem cells_10 {cs : Array Value} (h : cs.size = 10) : ∃ a0 a1 a2 a3 a4 a5 a6 a7 a8 a9, cs = #[a0, a1, a2, a3, a4, a5, a6, a7, a8, a9] := by
  obtain ⟨l⟩ := cs
  match l, h with
  | [a0, a1, a2, a3, a4, a5, a6, a7, a8, a9], _ => exact ⟨a0, a1, a2, a3, a4, a5, a6, a7, a8, a9, rfl⟩
set_option maxHeartbeats 4000000 in
set_option maxRecDepth 100000 in
theorem open_rep {H : Type} {enc : TypeId × Value → H} {w : World} {base : Nat} {spare : Nat → Bool} {held : Bool} {r : Reach} {b0 : Nat} {v : Value} {d : DataW H} {p : List MemPlace} (hv : Value.okWide Tryd.prog w r b0 37 v) (h : DataW.Trod enc Tryd.prog w base spare held 37 v d p) :
    ∃ a : Rp, a.ok ∧ v = .agg (rpV a) := by
  obtain ⟨cs, rfl, hsz⟩ := okWide_struct Tryd.underlying37 hv
  obtain ⟨fuel, hf⟩ := h
  have hc : cs.size = 10 := hsz.trans (by kernel_rfl)
  obtain ⟨a0, a1, a2, a3, a4, a5, a6, a7, a8, a9, rfl⟩ := cells_10 hc
  have hO := open_flat 4 37 [.i64, .u64, .u64, .u64, .u64, .u64, .u64, .u64, .u64, .u64] fuel _ _ (by kernel_rfl) rfl (by simpa [Value.cells] using hf)
  obtain ⟨⟨x0, rfl, h0⟩, ⟨x1, rfl, h1⟩, ⟨x2, rfl, h2⟩, ⟨x3, rfl, h3⟩, ⟨x4, rfl, h4⟩, ⟨x5, rfl, h5⟩, ⟨x6, rfl, h6⟩, ⟨x7, rfl, h7⟩, ⟨x8, rfl, h8⟩, ⟨x9, rfl, h9⟩, _⟩ := hO
  refine ⟨⟨x0, x1.toNat, x2.toNat, x3.toNat, x4.toNat, x5.toNat, x6.toNat, x7.toNat, x8.toNat, x9.toNat⟩, by
    unfold Rp.ok hasR
    simp only [List.forall_mem_cons, List.not_mem_nil, false_implies, implies_true, and_true]
    exact ⟨h0, (by show x1.toNat < _; omega), (by show x2.toNat < _; omega), (by show x3.toNat < _; omega), (by show x4.toNat < _; omega), (by show x5.toNat < _; omega), (by show x6.toNat < _; omega), (by show x7.toNat < _; omega), (by show x8.toNat < _; omega), (by show x9.toNat < _; omega)⟩, ?_⟩
  unfold rpV
  simp only [Int.toNat_of_nonneg h1.1, Int.toNat_of_nonneg h2.1, Int.toNat_of_nonneg h3.1, Int.toNat_of_nonneg h4.1, Int.toNat_of_nonneg h5.1, Int.toNat_of_nonneg h6.1, Int.toNat_of_nonneg h7.1, Int.toNat_of_nonneg h8.1, Int.toNat_of_nonneg h9.1]
/-- An array of strings that reads as those holds them, cell for cell. -/
theorem cells_of_strs {H : Type} {enc : TypeId × Value → H} {P : Program} {w : World} {base : Nat} {sp : Nat → Bool} {held : Bool} {fuel : Nat} {t e : TypeId} {n : Nat} {cs : List Value} {zs : List (List UInt8)} {p : List MemPlace}
    (ht : P.underlying t = some (.array n e)) (he : P.underlying e = some .string) (hce : P.cellsOf e = 1) (hct : P.cellsOf t = n)
    (h : DataW.trod enc P w base sp held fuel t cs = some (.agg (zs.map fun z => .lit (.string z)), p)) : cs = zs.map fun z => Value.string (bs z) := by
  cases fuel with
  | zero => simp [DataW.trod] at h
  | succ fuel =>
    simp only [DataW.trod, ht, hce, hct, Nat.mul_one] at h
    split at h
    · rename_i hl
      obtain ⟨xs, hm, hx⟩ := Option.map_eq_some_iff.1 h
      have hxs : xs.map (·.1) = zs.map fun z => (DataW.lit (.string z) : DataW H) := by
        have := congrArg Prod.fst hx
        simpa using this
      have hxl : xs.length = n := by simpa using Lib.mapM_length hm
      have hzl : zs.length = n := by
        have := congrArg List.length hxs
        simp at this
        omega
      apply List.ext_getElem?
      intro i
      by_cases hi : i < n
      · obtain ⟨b, hb, hf⟩ := Lib.mapM_at hm i i (by simp [hi])
        obtain ⟨z, hc, rfl, _⟩ := DataW.trod_string he hf
        have h1 : cs[i]? = some (.string z) := by
          have := congrArg (·[0]?) hc
          simpa [List.getElem?_take, List.getElem?_drop] using this
        have h2 : (xs.map (·.1))[i]? = some (DataW.lit (.string z.data.toList) : DataW H) := by simp [hb]
        rw [hxs] at h2
        simp only [List.getElem?_map, Option.map_eq_some_iff, DataW.lit.injEq, Lit.string.injEq] at h2
        obtain ⟨z', hz', rfl⟩ := h2
        simp [h1, hz', ← bs_of]
      · rw [List.getElem?_eq_none (by omega), List.getElem?_eq_none (by simp; omega)]
    · cases h
def nmB : List (List UInt8) := [[99, 111, 110, 102, 105, 103], [97, 100, 100], [99, 104, 97, 110, 103, 101], [100, 101, 108, 101, 116, 101], [97, 114, 114, 105, 118, 101], [97, 100, 118, 97, 110, 99, 101], [97, 115, 107]]
theorem nm_at (j : Nat) (hj : j < 7) : (nmB.map fun z => Value.string (bs z))[j]? = some (.string (nmT j)) := by
  rcases (by omega : j = 0 ∨ j = 1 ∨ j = 2 ∨ j = 3 ∨ j = 4 ∨ j = 5 ∨ j = 6) with rfl | rfl | rfl | rfl | rfl | rfl | rfl <;> rfl
set_option maxRecDepth 100000 in
theorem names_of {W : World} (h : laidMetH Tryd.prog [("distributary/command.names", Rows.laid_distributary_command_names)] W) : Names W := by
  rw [MakeChecks.laidMetH_plain _ _ _ (by kernel_rfl)] at h
  obtain ⟨ps, ⟨g', t', cs, fuel, p, q, hg', ht', hvar, hd, _, _⟩, _⟩ := h
  obtain rfl := Option.some.inj ((show Tryd.prog.globalNamed "distributary/command.names" = some 0 by kernel_rfl).symm.trans hg')
  obtain rfl := Option.some.inj ((show (Tryd.prog.globals[0]?).map (·.type) = some 83 by kernel_rfl).symm.trans ht')
  have hcs := cells_of_strs (zs := nmB) Tryd.underlying83 Tryd.underlying9 (by kernel_rfl) (by kernel_rfl) hd
  have hc : ∀ j, j < 7 → W.cell? ⟨0, j, none⟩ = some (.string (nmT j)) := fun j hj => by
    rw [World.var?_cell hg' hvar j, ← nm_at j hj, ← hcs, Array.getElem?_toList]
  exact ⟨World.block_lt_of_cell? W _ (hc 0 (by decide)), hc⟩
end Go.Proofs.YtamjnekdfhocdaaDoor
