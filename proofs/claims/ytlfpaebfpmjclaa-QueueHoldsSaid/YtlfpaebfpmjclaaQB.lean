/- Packets, rows of packets, what a queue holds behind each act, in plain numbers; the cells of such rows; blocks of memory and what a call leaves of them. No condition. -/
import Derived.Test.YtlfpaebfpmjclaaChecked
import Derived.WalkKit
import Derived.ProofKit
import Derived.Below
import Derived.Outline
import Derived.Lib.Hide
import Derived.Laws.Externs
import Derived.RowKit3
import Derived.BigQuiet
import Derived.Deep.QuietTactic
import Derived.WalkSmall
import Derived.OwnWalk
import Derived.RegionTactic
import Derived.Deep.Slices
import Derived.Deep.Fields
import Derived.ChangeSame
import Derived.OpenShut
import Derived.Deep.AppendLies
import Derived.Laws.CopyOwn
import Derived.IntWalk
namespace Go.Proofs.Ytlfpaebfpmjclaa
open Go.ChangeShapes Go.WideShapes Go.Deep Go.RowKit
set_option linter.unusedVariables false
abbrev eU (n : Int) : Value := .int .u64 n
abbrev eI (n : Int) : Value := .int .i64 n
theorem add_plain (b o j : Nat) : (⟨b, o, none⟩ : Addr).add j = ⟨b, o + j, none⟩ := by unfold Addr.add; split <;> simp_all
/-- A packet's four numbers. -/
structure Pk where
  id : Int
  cls : Int
  len : Int
  tick : Int
/-- They are what the fields can hold. -/
def Pk.ok (p : Pk) : Prop := (0 ≤ p.id ∧ p.id < 18446744073709551616) ∧ (-9223372036854775808 ≤ p.cls ∧ p.cls < 9223372036854775808) ∧ (-9223372036854775808 ≤ p.len ∧ p.len < 9223372036854775808) ∧ (0 ≤ p.tick ∧ p.tick < 18446744073709551616)
def Pk.zero : Pk := ⟨0, 0, 0, 0⟩
theorem Pk.zero_ok : Pk.zero.ok := by unfold Pk.ok Pk.zero; decide
/-- A packet as a value. -/
abbrev pkV (p : Pk) : Value := .agg #[.int .u64 p.id, .int .i64 p.cls, .int .i64 p.len, .int .u64 p.tick]
abbrev pkC (p : Pk) : Array Value := #[.int .u64 p.id, .int .i64 p.cls, .int .i64 p.len, .int .u64 p.tick]
theorem pk_u64 {x : Int} (h : (Lit.int .u64 x).wf = true) : 0 ≤ x ∧ x < 18446744073709551616 := by
  simp [Lit.wf, IntKind.min, IntKind.max, IntKind.bits, IntKind.signed] at h
  omega
theorem pk_i64 {x : Int} (h : (Lit.int .i64 x).wf = true) : -9223372036854775808 ≤ x ∧ x < 9223372036854775808 := by
  simp [Lit.wf, IntKind.min, IntKind.max, IntKind.bits, IntKind.signed] at h
  omega
/-- An act: a packet that is pushed; or, by pop, the first one goes. -/
structure Aq where
  p : Pk
  pop : Bool
def Aq.ok (a : Aq) : Prop := a.p.ok
def Aq.zero : Aq := ⟨Pk.zero, false⟩
/-- So many acts lie in a row. -/
def ActRow (w : World) (b o n : Nat) (xs : Nat → Aq) : Prop :=
  b < w.heap.size ∧ ∀ i, i < n → w.cell? ⟨b, o + i * 5, none⟩ = some (.int .u64 (xs i).p.id) ∧ w.cell? ⟨b, o + i * 5 + 1, none⟩ = some (.int .i64 (xs i).p.cls) ∧ w.cell? ⟨b, o + i * 5 + 2, none⟩ = some (.int .i64 (xs i).p.len) ∧ w.cell? ⟨b, o + i * 5 + 3, none⟩ = some (.int .u64 (xs i).p.tick) ∧ w.cell? ⟨b, o + i * 5 + 4, none⟩ = some (.bool (xs i).pop)
theorem ActRow.below {W w : World} {b o n : Nat} {xs : Nat → Aq} (h : ActRow W b o n xs) (hb : Below W.heap.size W w) : ActRow w b o n xs :=
  ⟨Nat.lt_of_lt_of_le h.1 hb.size, fun i hi => by
    obtain ⟨a, b', c, d, e⟩ := h.2 i hi
    exact ⟨(hb.cell (p := ⟨b, _, none⟩) h.1).trans a, (hb.cell (p := ⟨b, _, none⟩) h.1).trans b', (hb.cell (p := ⟨b, _, none⟩) h.1).trans c, (hb.cell (p := ⟨b, _, none⟩) h.1).trans d, (hb.cell (p := ⟨b, _, none⟩) h.1).trans e⟩⟩
/-- A slice of acts: nil, empty, or a row in memory. -/
def IsActs (w : World) (a : Option Addr) (n c : Nat) (xs : Nat → Aq) : Prop :=
  n ≤ c ∧ (n = 0 ∨ ∃ b o, a = some ⟨b, o, none⟩ ∧ ActRow w b o n xs)
theorem IsActs.below {W w : World} {a : Option Addr} {n c : Nat} {xs : Nat → Aq} (h : IsActs W a n c xs) (hb : Below W.heap.size W w) : IsActs w a n c xs := by
  obtain ⟨h2, h3⟩ := h
  refine ⟨h2, ?_⟩
  rcases h3 with h3 | ⟨b, o, e, h3⟩
  · exact .inl h3
  · exact .inr ⟨b, o, e, h3.below hb⟩
section
variable {H : Type} {enc : TypeId × Value → H} {P : Program} {w : World} {base : Nat} {spare : Nat → Bool} {held : Bool}
theorem open_act1 {e : TypeId} {k0 k1 f0 f1 f2 f3 : Field} {n : Nat} {a : Addr} {cs : List Value} {x : DataW H × List MemPlace} (he : P.underlying e = some (.struct #[k0, k1])) (hp : P.underlying k0.type = some (.struct #[f0, f1, f2, f3])) (hb : P.underlying k1.type = some .bool)
    (u0 : P.underlying f0.type = some (.int .u64)) (u1 : P.underlying f1.type = some (.int .i64)) (u2 : P.underlying f2.type = some (.int .i64)) (u3 : P.underlying f3.type = some (.int .u64))
    (q0 : k0.offset = 0 ∧ P.cellsOf k0.type = 4) (q1 : k1.offset = 4 ∧ P.cellsOf k1.type = 1)
    (o0 : f0.offset = 0 ∧ P.cellsOf f0.type = 1) (o1 : f1.offset = 1 ∧ P.cellsOf f1.type = 1) (o2 : f2.offset = 2 ∧ P.cellsOf f2.type = 1) (o3 : f3.offset = 3 ∧ P.cellsOf f3.type = 1)
    (hc : w.cells? base a 5 = some cs) (h : DataW.trod enc P w base spare held n e cs = some x) :
    ∃ v : Aq, v.ok ∧ w.cell? (a.add 0) = some (.int .u64 v.p.id) ∧ w.cell? (a.add 1) = some (.int .i64 v.p.cls) ∧ w.cell? (a.add 2) = some (.int .i64 v.p.len) ∧ w.cell? (a.add 3) = some (.int .u64 v.p.tick) ∧ w.cell? (a.add 4) = some (.bool v.pop) := by
  obtain ⟨_, hl, hat⟩ := World.cells?_some hc
  obtain ⟨zs, m0, _, _, _, hzs, hz⟩ := DataW.trod_struct he h
  match cs, hl with
  | [c0, c1, c2, c3, c4], _ =>
    match zs, hzs with
    | [z0, z1], _ =>
      have gp := hz 0 k0 rfl
      have gb := hz 1 k1 rfl
      rw [q0.1, q0.2] at gp
      rw [q1.1, q1.2] at gb
      obtain ⟨b, eb, _⟩ := DataW.trod_bool hb (x := z1) (by simpa using gb)
      obtain ⟨ys, m, _, _, _, hys, hf⟩ := DataW.trod_struct hp (show DataW.trod enc P w base spare held m0 k0.type [c0, c1, c2, c3] = some z0 by simpa using gp)
      match ys, hys with
      | [y0, y1, y2, y3], _ =>
        have g0 := hf 0 f0 rfl
        have g1 := hf 1 f1 rfl
        have g2 := hf 2 f2 rfl
        have g3 := hf 3 f3 rfl
        rw [o0.1, o0.2] at g0
        rw [o1.1, o1.2] at g1
        rw [o2.1, o2.2] at g2
        rw [o3.1, o3.2] at g3
        obtain ⟨n0, e0, _, w0⟩ := DataW.trod_int u0 (x := y0) (by simpa using g0)
        obtain ⟨n1, e1, _, w1⟩ := DataW.trod_int u1 (x := y1) (by simpa using g1)
        obtain ⟨n2, e2, _, w2⟩ := DataW.trod_int u2 (x := y2) (by simpa using g2)
        obtain ⟨n3, e3, _, w3⟩ := DataW.trod_int u3 (x := y3) (by simpa using g3)
        simp at e0 e1 e2 e3 eb
        subst e0 e1 e2 e3 eb
        exact ⟨⟨⟨n0, n1, n2, n3⟩, b⟩, ⟨pk_u64 w0, pk_i64 w1, pk_i64 w2, pk_u64 w3⟩, hat 0 (by omega), hat 1 (by omega), hat 2 (by omega), hat 3 (by omega), hat 4 (by omega)⟩
/-- The slice: acts. -/
theorem open_acts {t e : TypeId} {k0 k1 f0 f1 f2 f3 : Field} {fuel : Nat} {cs : List Value} {x : DataW H × List MemPlace} (ht : P.underlying t = some (.slice e)) (he : P.underlying e = some (.struct #[k0, k1])) (hp : P.underlying k0.type = some (.struct #[f0, f1, f2, f3])) (hb : P.underlying k1.type = some .bool)
    (u0 : P.underlying f0.type = some (.int .u64)) (u1 : P.underlying f1.type = some (.int .i64)) (u2 : P.underlying f2.type = some (.int .i64)) (u3 : P.underlying f3.type = some (.int .u64))
    (q0 : k0.offset = 0 ∧ P.cellsOf k0.type = 4) (q1 : k1.offset = 4 ∧ P.cellsOf k1.type = 1)
    (o0 : f0.offset = 0 ∧ P.cellsOf f0.type = 1) (o1 : f1.offset = 1 ∧ P.cellsOf f1.type = 1) (o2 : f2.offset = 2 ∧ P.cellsOf f2.type = 1) (o3 : f3.offset = 3 ∧ P.cellsOf f3.type = 1)
    (hC : P.cellsOf e = 5) (h : DataW.trod enc P w base spare held fuel t cs = some x) :
    ∃ (a : Option Addr) (n c : Nat) (xs : Nat → Aq), cs = [.slice a n c] ∧ IsActs w a n c xs ∧ (∀ i, (xs i).ok) ∧ c ≤ maxLen ∧ (a = none → n = 0 ∧ c = 0) := by
  have z : Aq.zero.ok := Pk.zero_ok
  rcases open_slice ht h with ⟨h0, _⟩ | ⟨a, len, cap, m, n, D, Pl, hcs, hb', hl, hm, hmm, hx, hi⟩
  · exact ⟨none, 0, 0, fun _ => Aq.zero, h0, ⟨Nat.le_refl _, .inl rfl⟩, fun _ => z, by decide, fun _ => ⟨rfl, rfl⟩⟩
  · have hlm : len ≤ m := by rw [hmm]; split <;> omega
    have key : ∀ i, i < len → ∃ v : Aq, v.ok ∧ w.cell? (a.add (i * 5)) = some (.int .u64 v.p.id) ∧ w.cell? (a.add (i * 5 + 1)) = some (.int .i64 v.p.cls) ∧ w.cell? (a.add (i * 5 + 2)) = some (.int .i64 v.p.len) ∧ w.cell? (a.add (i * 5 + 3)) = some (.int .u64 v.p.tick) ∧ w.cell? (a.add (i * 5 + 4)) = some (.bool v.pop) := by
      intro i hil
      obtain ⟨cs', hc, ht'⟩ := hi i (by omega)
      rw [hC] at hc
      obtain ⟨v, hv, g0, g1, g2, g3, g4⟩ := open_act1 he hp hb u0 u1 u2 u3 q0 q1 o0 o1 o2 o3 hc ht'
      rw [add_add] at g0 g1 g2 g3 g4
      exact ⟨v, hv, g0, g1, g2, g3, g4⟩
    obtain ⟨F, hF⟩ : ∃ F : Nat → Aq, ∀ i, (F i).ok ∧ (i < len → w.cell? (a.add (i * 5)) = some (.int .u64 (F i).p.id) ∧ w.cell? (a.add (i * 5 + 1)) = some (.int .i64 (F i).p.cls) ∧ w.cell? (a.add (i * 5 + 2)) = some (.int .i64 (F i).p.len) ∧ w.cell? (a.add (i * 5 + 3)) = some (.int .u64 (F i).p.tick) ∧ w.cell? (a.add (i * 5 + 4)) = some (.bool (F i).pop)) := by
      refine ⟨fun i => if q : i < len then Classical.choose (key i q) else Aq.zero, fun i => ?_⟩
      by_cases hil : i < len
      · simp only [hil, dif_pos]
        have h := Classical.choose_spec (key i hil)
        exact ⟨h.1, fun _ => h.2⟩
      · simp only [hil, dif_neg, not_false_eq_true]
        exact ⟨z, fun h => absurd h (by simp)⟩
    refine ⟨some a, len, cap, F, hcs, ⟨hl, ?_⟩, fun i => (hF i).1, hm, fun q => by cases q⟩
    by_cases hz : len = 0
    · exact .inl hz
    · have c0 := ((hF 0).2 (by omega)).1
      obtain ⟨b, off, spot⟩ := a
      have hspot : spot = none := by simpa [Addr.add] using World.cell?_spot c0
      subst hspot
      have hadd : ∀ j, (⟨b, off, none⟩ : Addr).add j = ⟨b, off + j, none⟩ := fun j => by unfold Addr.add; split <;> simp_all
      rw [hadd] at c0
      refine .inr ⟨b, off, rfl, World.block_lt_of_cell? w _ c0, fun i hil => ?_⟩
      obtain ⟨g0, g1, g2, g3, g4⟩ := (hF i).2 hil
      rw [hadd] at g0 g1 g2 g3 g4
      exact ⟨g0, g1, g2, g3, g4⟩
end
/-- How many bytes. -/
def bsum : List Pk → Int
  | [] => 0
  | p :: r => p.len + bsum r
theorem bsum_append : ∀ (a b : List Pk), bsum (a ++ b) = bsum a + bsum b
  | [], b => by simp [bsum]
  | p :: a, b => by rw [List.cons_append, bsum, bsum, bsum_append a b]; omega
theorem bsum_snoc (a : List Pk) (p : Pk) : bsum (a ++ [p]) = bsum a + p.len := by rw [bsum_append]; simp [bsum]
/-- What Push tells of a queue of that room. -/
def pushE (P R : Int) (L : List Pk) (p : Pk) : Int := if p.len < 1 ∨ 65535 < p.len then 100 else if P ≤ (L.length : Int) ∨ R < bsum L + p.len then 110 else 0
def pushL (P R : Int) (L : List Pk) (p : Pk) : List Pk := if pushE P R L p = 0 then L ++ [p] else L
theorem pushE_len {P R : Int} {L : List Pk} {p : Pk} (h : p.len < 1 ∨ 65535 < p.len) : pushE P R L p = 100 := by unfold pushE; rw [if_pos h]
theorem pushE_full {P R : Int} {L : List Pk} {p : Pk} (h : ¬ (p.len < 1 ∨ 65535 < p.len)) (k : P ≤ (L.length : Int) ∨ R < bsum L + p.len) : pushE P R L p = 110 := by unfold pushE; rw [if_neg h, if_pos k]
theorem pushE_ok {P R : Int} {L : List Pk} {p : Pk} (h : ¬ (p.len < 1 ∨ 65535 < p.len)) (k : ¬ (P ≤ (L.length : Int) ∨ R < bsum L + p.len)) : pushE P R L p = 0 := by unfold pushE; rw [if_neg h, if_neg k]
theorem pushE_or (P R : Int) (L : List Pk) (p : Pk) : pushE P R L p = 100 ∨ pushE P R L p = 110 ∨ pushE P R L p = 0 := by
  unfold pushE; split
  · exact .inl rfl
  · split
    · exact .inr (.inl rfl)
    · exact .inr (.inr rfl)
theorem pushL_ok {P R : Int} {L : List Pk} {p : Pk} (h : pushE P R L p = 0) : pushL P R L p = L ++ [p] := by unfold pushL; rw [if_pos h]
theorem pushL_no {P R : Int} {L : List Pk} {p : Pk} (h : pushE P R L p ≠ 0) : pushL P R L p = L := by unfold pushL; rw [if_neg h]
/-- The first one; none is told as one of noughts. -/
def headP : List Pk → Pk
  | [] => Pk.zero
  | p :: _ => p
def headB : List Pk → Bool
  | [] => false
  | _ :: _ => true
/-- What an act leaves. -/
def actL (P R : Int) (L : List Pk) (a : Aq) : List Pk := if a.pop then L.tail else pushL P R L a.p
/-- The row behind so many acts. -/
def runL (P R : Int) (xs : Nat → Aq) (L : List Pk) : Nat → List Pk
  | 0 => L
  | k + 1 => actL P R (runL P R xs L k) (xs k)
/-- What a queue of that room may hold. -/
structure Fit (P R : Int) (L : List Pk) : Prop where
  many : (L.length : Int) ≤ P
  room : bsum L ≤ R
  each : ∀ p ∈ L, p.ok ∧ 1 ≤ p.len ∧ p.len ≤ 65535
theorem Fit.nil {P R : Int} (hP : 0 ≤ P) (hR : 0 ≤ R) : Fit P R [] := ⟨by simpa using hP, by simpa [bsum] using hR, fun p h => by cases h⟩
theorem bsum_lo : ∀ (L : List Pk), (∀ p ∈ L, 1 ≤ p.len) → (L.length : Int) ≤ bsum L
  | [], _ => by simp [bsum]
  | p :: L, h => by
    have := bsum_lo L (fun q hq => h q (by simp [hq]))
    have := h p (by simp)
    simp [bsum]; omega
theorem Fit.bytes {P R : Int} {L : List Pk} (h : Fit P R L) : 0 ≤ bsum L := by
  have := bsum_lo L (fun p hp => (h.each p hp).2.1)
  omega
theorem Fit.tail {P R : Int} {L : List Pk} (h : Fit P R L) : Fit P R L.tail := by
  cases L with
  | nil => exact h
  | cons p L =>
    have a := h.many
    have b := h.room
    have c := (h.each p (by simp)).2.1
    simp only [List.length_cons, bsum] at a b
    exact ⟨by simp only [List.tail_cons]; omega, by simp only [List.tail_cons]; omega, fun q hq => h.each q (by simp [show q ∈ L from hq])⟩
theorem Fit.push {P R : Int} {L : List Pk} (h : Fit P R L) {p : Pk} (hp : p.ok) : Fit P R (pushL P R L p) := by
  by_cases e : pushE P R L p = 0
  · rw [pushL_ok e]
    unfold pushE at e
    split at e
    · cases e
    · split at e
      · cases e
      · rename_i k1 k2
        refine ⟨by simp only [List.length_append, List.length_cons, List.length_nil]; omega, by rw [bsum_snoc]; omega, fun q hq => ?_⟩
        rcases List.mem_append.1 hq with hq | hq
        · exact h.each q hq
        · simp only [List.mem_singleton] at hq
          subst hq
          exact ⟨hp, by omega, by omega⟩
  · rw [pushL_no e]; exact h
theorem Fit.act {P R : Int} {L : List Pk} (h : Fit P R L) {a : Aq} (ha : a.ok) : Fit P R (actL P R L a) := by
  unfold actL; split
  · exact h.tail
  · exact h.push ha
theorem Fit.run {P R : Int} {xs : Nat → Aq} {L : List Pk} (h : Fit P R L) (hx : ∀ i, (xs i).ok) : ∀ k, Fit P R (runL P R xs L k)
  | 0 => h
  | k + 1 => (Fit.run h hx k).act (hx k)

/-! ### The cells of a row -/
def rowV : List Pk → List Value
  | [] => []
  | p :: L => .int .u64 p.id :: .int .i64 p.cls :: .int .i64 p.len :: .int .u64 p.tick :: rowV L
theorem rowV_append : ∀ (a b : List Pk), rowV (a ++ b) = rowV a ++ rowV b
  | [], b => rfl
  | p :: a, b => by rw [List.cons_append, rowV, rowV_append a b, rowV]; rfl
theorem rowV_snoc (a : List Pk) (p : Pk) : rowV (a ++ [p]) = rowV a ++ [.int .u64 p.id, .int .i64 p.cls, .int .i64 p.len, .int .u64 p.tick] := by rw [rowV_append]; rfl
theorem rowV_len : ∀ (a : List Pk), (rowV a).length = a.length * 4
  | [] => rfl
  | p :: a => by simp only [rowV, List.length_cons, rowV_len a]; omega
theorem rowV_at : ∀ (a : List Pk) (i : Nat) (p : Pk), a[i]? = some p → (rowV a)[i * 4]? = some (.int .u64 p.id) ∧ (rowV a)[i * 4 + 1]? = some (.int .i64 p.cls) ∧ (rowV a)[i * 4 + 2]? = some (.int .i64 p.len) ∧ (rowV a)[i * 4 + 3]? = some (.int .u64 p.tick)
  | [], i, p, h => by simp at h
  | q :: a, 0, p, h => by
    simp only [List.getElem?_cons_zero, Option.some.injEq] at h
    subst h
    exact ⟨rfl, rfl, rfl, rfl⟩
  | q :: a, i + 1, p, h => by
    rw [List.getElem?_cons_succ] at h
    obtain ⟨x, y, z, t⟩ := rowV_at a i p h
    have e : ∀ j, (rowV (q :: a))[(i + 1) * 4 + j]? = (rowV a)[i * 4 + j]? := fun j => by
      rw [show (i + 1) * 4 + j = (i * 4 + j) + 1 + 1 + 1 + 1 by omega]; rfl
    have e0 := e 0
    rw [Nat.add_zero, Nat.add_zero] at e0
    exact ⟨e0.trans x, (e 1).trans y, (e 2).trans z, (e 3).trans t⟩
theorem rowV_one : ∀ (a : List Pk), ∀ u ∈ rowV a, u.oneCell' = true
  | [], u, h => by cases h
  | p :: a, u, h => by
    simp only [rowV, List.mem_cons] at h
    rcases h with rfl | rfl | rfl | rfl | h
    · rfl
    · rfl
    · rfl
    · rfl
    · exact rowV_one a u h
/-- A row that the call owns: packet by packet. -/
theorem own_at {w : World} {base g cap : Nat} {L : List Pk} (hc : ∀ j u, (rowV L)[j]? = some u → w.cell? ((⟨g, 0, none⟩ : Addr).add j) = some u) (i : Nat) (p : Pk) (h : L[i]? = some p) :
    w.cell? ⟨g, i * 4, none⟩ = some (.int .u64 p.id) ∧ w.cell? ⟨g, i * 4 + 1, none⟩ = some (.int .i64 p.cls) ∧ w.cell? ⟨g, i * 4 + 2, none⟩ = some (.int .i64 p.len) ∧ w.cell? ⟨g, i * 4 + 3, none⟩ = some (.int .u64 p.tick) := by
  obtain ⟨a, b, c, d⟩ := rowV_at L i p h
  have a := hc _ _ a
  have b := hc _ _ b
  have c := hc _ _ c
  have d := hc _ _ d
  rw [add_plain, Nat.zero_add] at a b c d
  exact ⟨a, b, c, d⟩

/-! ### Blocks -/
/-- Block B is a block of those values. -/
def Box (W : World) (B : Nat) (vs : Array Value) (t : TypeId) : Prop := W.heap[B]? = some (.cells vs t (0, 0))
theorem Box.lt {W : World} {B : Nat} {t : TypeId} {v : Array Value} (h : Box W B v t) : B < W.heap.size := (Array.getElem?_eq_some_iff.1 h).1
theorem Box.new (W : World) (t : TypeId) (v : Array Value) : Box (W.alloc (.cells v t)) W.heap.size v t := heap_alloc_new W _
theorem Box.alloc {W : World} {B : Nat} {t : TypeId} {v : Array Value} (h : Box W B v t) (o : Obj) : Box (W.alloc o) B v t := (Below.heap_alloc W o B h.lt).trans h
theorem Box.below {W w : World} {B : Nat} {t : TypeId} {v : Array Value} (h : Box W B v t) (hb : Below W.heap.size W w) : Box w B v t := (hb.block B h.lt).trans h
theorem Box.setNe {W : World} {B : Nat} {t : TypeId} {vs : Array Value} (h : Box W B vs t) {a : Addr} (hne : B ≠ a.block) (v : Value) : Box (W.setCell a v) B vs t := (Below.heap_setCell W a v B hne).trans h
theorem Box.drew {W : World} {B : Nat} {t : TypeId} {v : Array Value} (h : Box W B v t) : Box W.drew B v t := h
theorem up1 (w : World) (o1 : Obj) : Below w.heap.size w (w.alloc o1) := (Below.refl _ _).alloc (Nat.le_refl _) _
theorem up2 (w : World) (o1 o2 : Obj) : Below w.heap.size w ((w.alloc o1).alloc o2) := (up1 w o1).alloc (by simp) _
theorem ups {B : Nat} {W w w' : World} (h : Below B W w) (k : Below w.heap.size w w') (hB : B ≤ w.heap.size) : Below B W w' := h.trans (k.mono hB)
theorem undrew {w w' : World} (h : Below w.drew.heap.size w.drew w') : Below w.heap.size w w' := ((Below.refl _ w).drew).trans h
theorem undrewN {w w' : World} {n : Nat} (h : Below (w.drewN n).heap.size (w.drewN n) w') : Below w.heap.size w w' := (below_drewN (Below.refl _ w) n).trans h
/-- All blocks that lie, but B, lie as they lay. -/
structure But (B : Nat) (w w' : World) : Prop where
  os : w'.os = w.os
  tape : w'.tape = w.tape
  output : w'.output = w.output
  size : w.heap.size ≤ w'.heap.size
  block : ∀ k, k < w.heap.size → k ≠ B → w'.heap[k]? = w.heap[k]?
theorem But.of {B : Nat} {w w' : World} (h : Below w.heap.size w w') : But B w w' := ⟨h.os, h.tape, h.output, h.size, fun k hk _ => h.block k hk⟩
theorem But.refl (B : Nat) (w : World) : But B w w := But.of (Below.refl _ _)
theorem But.trans {B : Nat} {a b c : World} (h : But B a b) (k : But B b c) : But B a c :=
  ⟨k.os.trans h.os, k.tape.trans h.tape, k.output.trans h.output, Nat.le_trans h.size k.size, fun i hi hn => (k.block i (Nat.lt_of_lt_of_le hi h.size) hn).trans (h.block i hi hn)⟩
theorem But.set {B : Nat} {w w' : World} (h : But B w w') (i : Nat) (v : Value) : But B w (w'.setCell ⟨B, i, none⟩ v) :=
  ⟨h.os, h.tape, h.output, by simpa [World.setCell] using h.size, fun k hk hn => (Below.heap_setCell _ _ _ k hn).trans (h.block k hk hn)⟩
theorem But.below {B n : Nat} {w w' : World} (h : But B w w') (hB : n ≤ B) (hn : n ≤ w.heap.size) : Below n w w' :=
  ⟨h.os, h.tape, h.output, h.size, fun k hk => h.block k (Nat.lt_of_lt_of_le hk hn) (Nat.ne_of_lt (Nat.lt_of_lt_of_le hk hB))⟩
theorem But.box {B B' : Nat} {w w' : World} {vs : Array Value} {t : TypeId} (h : But B w w') (b : Box w B' vs t) (hne : B' ≠ B) : Box w' B' vs t :=
  (h.block B' b.lt hne).trans b
/-- Below the base of W everything stays, if B lies at it or behind it. -/
theorem But.up {B : Nat} {W w w' : World} (h : But B w w') (T : Below W.heap.size W w) (hB : W.heap.size ≤ B) : Below W.heap.size W w' :=
  T.trans (h.below hB T.size)
theorem But.cell {B : Nat} {w w' : World} {p : Addr} (h : But B w w') (hp : p.block < w.heap.size) (hne : p.block ≠ B) : w'.cell? p = w.cell? p := World.cell?_of_block (h.block _ hp hne)
theorem Box.set {W : World} {B : Nat} {vs : Array Value} {t : TypeId} (h : Box W B vs t) (i : Nat) (v : Value) : Box (W.setCell ⟨B, i, none⟩ v) B (vs.setIfInBounds i v) t := by
  have e : W.heap[B]? = some (.cells vs t (0, 0)) := h
  show (W.setCell ⟨B, i, none⟩ v).heap[B]? = _
  simp [World.setCell, Array.getElem?_modify, e]
theorem Box.cell {W : World} {B : Nat} {vs : Array Value} {t : TypeId} (h : Box W B vs t) (i : Nat) : W.cell? ⟨B, i, none⟩ = vs[i]? := by
  have e : W.heap[B]? = some (.cells vs t (0, 0)) := h
  simp [World.cell?, e]
theorem Box.thaw {W : World} {B : Nat} {vs : Array Value} {t : TypeId} (h : Box W B vs t) (i : Nat) : W.frozen? ⟨B, i, none⟩ = false := by
  have e : W.heap[B]? = some (.cells vs t (0, 0)) := h
  simp [World.frozen?, e]
end Go.Proofs.Ytlfpaebfpmjclaa
