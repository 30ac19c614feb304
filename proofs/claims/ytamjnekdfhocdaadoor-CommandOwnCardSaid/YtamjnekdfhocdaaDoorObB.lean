/- Blocks of memory and what a call leaves of them; the cells of a pen and of an eye; rows of things. No condition. -/
import Derived.Test.YtamjnekdfhocdaaDoorObM
import Derived.WalkKit
import Derived.ProofKit
import Derived.Below
import Derived.Outline
import Derived.Lib.Hide
import Derived.Laws.Externs
import Derived.RowKit3
import Derived.BigQuiet
import Derived.Deep.QuietTactic
import Derived.WalkSmall
import Derived.OwnWalk
import Derived.RegionTactic
import Derived.Deep.Slices
import Derived.Deep.Fields
import Derived.ChangeSame
import Derived.OpenShut
import Derived.Deep.AppendLies
import Derived.Laws.CopyOwn
import Derived.IntWalk
import Derived.Deep.WholeRow
namespace Go.Proofs.YtamjnekdfhocdaaDoor
open Go.ChangeShapes Go.WideShapes Go.Deep Go.RowKit
set_option linter.unusedVariables false
abbrev eU (n : Int) : Value := .int .u64 n
abbrev eI (n : Int) : Value := .int .i64 n
theorem add_plain (b o j : Nat) : (⟨b, o, none⟩ : Addr).add j = ⟨b, o + j, none⟩ := by unfold Addr.add; split <;> simp_all
/-! ### Blocks -/
/-- Block B is a block of those values. -/
def Box (W : World) (B : Nat) (vs : Array Value) (t : TypeId) : Prop := W.heap[B]? = some (.cells vs t (0, 0))
theorem Box.lt {W : World} {B : Nat} {t : TypeId} {v : Array Value} (h : Box W B v t) : B < W.heap.size := (Array.getElem?_eq_some_iff.1 h).1
theorem Box.new (W : World) (t : TypeId) (v : Array Value) : Box (W.alloc (.cells v t)) W.heap.size v t := heap_alloc_new W _
theorem Box.alloc {W : World} {B : Nat} {t : TypeId} {v : Array Value} (h : Box W B v t) (o : Obj) : Box (W.alloc o) B v t := (Below.heap_alloc W o B h.lt).trans h
theorem Box.below {W w : World} {B : Nat} {t : TypeId} {v : Array Value} (h : Box W B v t) (hb : Below W.heap.size W w) : Box w B v t := (hb.block B h.lt).trans h
theorem Box.setNe {W : World} {B : Nat} {t : TypeId} {vs : Array Value} (h : Box W B vs t) {a : Addr} (hne : B ≠ a.block) (v : Value) : Box (W.setCell a v) B vs t := (Below.heap_setCell W a v B hne).trans h
theorem Box.drew {W : World} {B : Nat} {t : TypeId} {v : Array Value} (h : Box W B v t) : Box W.drew B v t := h
theorem up1 (w : World) (o1 : Obj) : Below w.heap.size w (w.alloc o1) := (Below.refl _ _).alloc (Nat.le_refl _) _
theorem up2 (w : World) (o1 o2 : Obj) : Below w.heap.size w ((w.alloc o1).alloc o2) := (up1 w o1).alloc (by simp) _
theorem ups {B : Nat} {W w w' : World} (h : Below B W w) (k : Below w.heap.size w w') (hB : B ≤ w.heap.size) : Below B W w' := h.trans (k.mono hB)
theorem undrew {w w' : World} (h : Below w.drew.heap.size w.drew w') : Below w.heap.size w w' := ((Below.refl _ w).drew).trans h
theorem undrewN {w w' : World} {n : Nat} (h : Below (w.drewN n).heap.size (w.drewN n) w') : Below w.heap.size w w' := (below_drewN (Below.refl _ w) n).trans h
/-- All blocks that lie, but B, lie as they lay. -/
structure But (B : Nat) (w w' : World) : Prop where
  os : w'.os = w.os
  tape : w'.tape = w.tape
  output : w'.output = w.output
  size : w.heap.size ≤ w'.heap.size
  block : ∀ k, k < w.heap.size → k ≠ B → w'.heap[k]? = w.heap[k]?
theorem But.of {B : Nat} {w w' : World} (h : Below w.heap.size w w') : But B w w' := ⟨h.os, h.tape, h.output, h.size, fun k hk _ => h.block k hk⟩
theorem But.refl (B : Nat) (w : World) : But B w w := But.of (Below.refl _ _)
theorem But.trans {B : Nat} {a b c : World} (h : But B a b) (k : But B b c) : But B a c :=
  ⟨k.os.trans h.os, k.tape.trans h.tape, k.output.trans h.output, Nat.le_trans h.size k.size, fun i hi hn => (k.block i (Nat.lt_of_lt_of_le hi h.size) hn).trans (h.block i hi hn)⟩
theorem But.set {B : Nat} {w w' : World} (h : But B w w') (i : Nat) (v : Value) : But B w (w'.setCell ⟨B, i, none⟩ v) :=
  ⟨h.os, h.tape, h.output, by simpa [World.setCell] using h.size, fun k hk hn => (Below.heap_setCell _ _ _ k hn).trans (h.block k hk hn)⟩
theorem But.below {B n : Nat} {w w' : World} (h : But B w w') (hB : n ≤ B) (hn : n ≤ w.heap.size) : Below n w w' :=
  ⟨h.os, h.tape, h.output, h.size, fun k hk => h.block k (Nat.lt_of_lt_of_le hk hn) (Nat.ne_of_lt (Nat.lt_of_lt_of_le hk hB))⟩
theorem But.box {B B' : Nat} {w w' : World} {vs : Array Value} {t : TypeId} (h : But B w w') (b : Box w B' vs t) (hne : B' ≠ B) : Box w' B' vs t :=
  (h.block B' b.lt hne).trans b
/-- Below the base of W everything stays, if B lies at it or behind it. -/
theorem But.up {B : Nat} {W w w' : World} (h : But B w w') (T : Below W.heap.size W w) (hB : W.heap.size ≤ B) : Below W.heap.size W w' :=
  T.trans (h.below hB T.size)
theorem But.cell {B : Nat} {w w' : World} {p : Addr} (h : But B w w') (hp : p.block < w.heap.size) (hne : p.block ≠ B) : w'.cell? p = w.cell? p := World.cell?_of_block (h.block _ hp hne)
theorem Box.set {W : World} {B : Nat} {vs : Array Value} {t : TypeId} (h : Box W B vs t) (i : Nat) (v : Value) : Box (W.setCell ⟨B, i, none⟩ v) B (vs.setIfInBounds i v) t := by
  have e : W.heap[B]? = some (.cells vs t (0, 0)) := h
  show (W.setCell ⟨B, i, none⟩ v).heap[B]? = _
  simp [World.setCell, Array.getElem?_modify, e]
theorem Box.cell {W : World} {B : Nat} {vs : Array Value} {t : TypeId} (h : Box W B vs t) (i : Nat) : W.cell? ⟨B, i, none⟩ = vs[i]? := by
  have e : W.heap[B]? = some (.cells vs t (0, 0)) := h
  simp [World.cell?, e]
theorem Box.thaw {W : World} {B : Nat} {vs : Array Value} {t : TypeId} (h : Box W B vs t) (i : Nat) : W.frozen? ⟨B, i, none⟩ = false := by
  have e : W.heap[B]? = some (.cells vs t (0, 0)) := h
  simp [World.frozen?, e]

/-! ### A pen's cells -/
def gvL (L : List UInt8) (j : Nat) : Value := .int .u8 ((L.getD j 0).toNat : Int)
def penC (L : List UInt8) : Array Value := ((List.range 4096).map (gvL L) ++ [Value.int .i64 (L.length : Int)]).toArray
theorem penC_byte (L : List UInt8) {j : Nat} (h : j < 4096) : (penC L)[j]? = some (gvL L j) := by
  simp [penC, List.getElem?_append, h]
theorem penC_many (L : List UInt8) : (penC L)[4096]? = some (.int .i64 (L.length : Int)) := by
  simp [penC]
theorem penC_size (L : List UInt8) : (penC L).size = 4097 := by simp [penC]
theorem penC_off (L : List UInt8) {j : Nat} (h : 4097 ≤ j) : (penC L)[j]? = none := Array.getElem?_eq_none (by rw [penC_size]; exact h)
theorem getD_snoc (L : List UInt8) (b : UInt8) (j : Nat) (h : j ≠ L.length) : (L ++ [b]).getD j 0 = L.getD j 0 := by
  simp only [List.getD, List.getElem?_append]
  split
  · rfl
  · rw [List.getElem?_eq_none (l := L) (by omega), List.getElem?_eq_none (by simp; omega)]
theorem penC_put (L : List UInt8) (b : UInt8) (h : L.length < 4096) : ((penC L).setIfInBounds L.length (.int .u8 (b.toNat : Int))).setIfInBounds 4096 (.int .i64 ((L.length : Int) + 1)) = penC (L ++ [b]) := by
  apply Array.ext_getElem?
  intro j
  by_cases h1 : j = 4096
  · subst h1
    rw [Array.getElem?_setIfInBounds_self_of_lt (by simp [penC_size]), penC_many]
    simp
  · rw [Array.getElem?_setIfInBounds_ne (by omega)]
    by_cases h2 : j = L.length
    · subst h2
      rw [Array.getElem?_setIfInBounds_self_of_lt (by rw [penC_size]; omega), penC_byte _ h]
      simp [gvL, List.getD]
    · rw [Array.getElem?_setIfInBounds_ne (by omega)]
      by_cases h3 : j < 4096
      · rw [penC_byte _ h3, penC_byte _ h3, gvL, gvL, getD_snoc _ _ _ h2]
      · rw [penC_off _ (by omega), penC_off _ (by omega)]
theorem penC_over (L : List UInt8) (b : UInt8) (h : 4096 ≤ L.length) : (penC L).setIfInBounds 4096 (.int .i64 ((L.length : Int) + 1)) = penC (L ++ [b]) := by
  apply Array.ext_getElem?
  intro j
  by_cases h1 : j = 4096
  · subst h1
    rw [Array.getElem?_setIfInBounds_self_of_lt (by simp [penC_size]), penC_many]
    simp
  · rw [Array.getElem?_setIfInBounds_ne (by omega)]
    by_cases h3 : j < 4096
    · rw [penC_byte _ h3, penC_byte _ h3, gvL, gvL, getD_snoc _ _ _ (by omega)]
    · rw [penC_off _ (by omega), penC_off _ (by omega)]
/-- A string of those bytes. -/
def bs (L : List UInt8) : ByteArray := ⟨L.toArray⟩
theorem bs_size (L : List UInt8) : (bs L).size = L.length := by simp [bs, ByteArray.size]
theorem bs_inj {L M : List UInt8} : bs L = bs M ↔ L = M := by
  constructor
  · intro h
    have := congrArg (fun s : ByteArray => s.data.toList) h
    simpa [bs] using this
  · intro h; rw [h]
theorem bs_of (s : ByteArray) : s = bs s.data.toList := by cases s; rfl
theorem bs_append (L M : List UInt8) : bs L ++ bs M = bs (L ++ M) := by
  apply ByteArray.ext
  simp [bs, ByteArray.data_append]
/-- Block B is a pen that wrote those bytes. -/
def Pen (W : World) (B : Nat) (L : List UInt8) : Prop := Box W B (penC L) 69
/-- Block B is an eye of that state. -/
def Eye (W : World) (B : Nat) (s : Ey) : Prop := Box W B #[.string (bs s.left), .bool s.bad] 113
/-- Block B is an eye of the document's. -/
def Rye (W : World) (B : Nat) (s : Ey) : Prop := Box W B #[.string (bs s.left), .bool s.bad] 92
set_option maxRecDepth 100000 in
theorem pen_zero : (Tryd.prog.info? 69).map (fun i => (i.zero, i.size)) = some (some (.agg (penC [])), 4097) := by kernel_rfl
end Go.Proofs.YtamjnekdfhocdaaDoor
