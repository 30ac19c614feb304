/- The program's tree of classes as an object in memory; a class comes, is changed, goes. Condition: numbers are what the fields can hold. -/
import Derived.Test.YtpopcnebndgblaaGreatSpW
import Derived.Test.YtpopcnebndgblaaGreatSpX
import Derived.Test.YtpopcnebndgblaaGreatHiN
import Derived.WalkKit
import Derived.ProofKit
import Derived.Below
import Derived.Outline
import Derived.Lib.Hide
import Derived.Laws.Externs
import Derived.RowKit3
import Derived.BigQuiet
import Derived.Deep.QuietTactic
import Derived.WalkSmall
import Derived.OwnWalk
import Derived.RegionTactic
import Derived.Deep.Slices
import Derived.Deep.Fields
import Derived.ChangeSame
import Derived.OpenShut
import Derived.Deep.AppendLies
import Derived.Laws.CopyOwn
import Derived.IntWalk
import Derived.OneCell
import Derived.Deep.DeepCutAuto
import Derived.Deep.CutBlock
import Derived.Deep.CutRange
import Derived.Deep.RegionHeld3
import Derived.Deep.RegionLaw
import Derived.StillTailTactics
import Derived.Deep.MidRow
import Derived.Deep.WholeRow
import Derived.Laws.StructEq
import Derived.BigRegion
import Derived.Maps.OwnSet
import Derived.Maps.OwnIn
import Derived.Maps.RangeWalk
import Derived.Lib.AppendZerosOnto
import Derived.Lib.AppendZeros
import Derived.Lib.Overlaps
import Derived.Lib.Walk
import Derived.Lib.SliceRun
import Derived.Laws.NewBlocks
import Derived.Test.YtpopcnebndgblaaGreatShelfB
import Derived.Test.YtpopcnebndgblaaGreatShelfD
import Derived.Lib.OwnBridge
import Derived.Sort.OwnSortedInts
import Derived.Great.Walk
import Derived.Test.YtpopcnebndgblaaGreatSpN
import Derived.Test.YtpopcnebndgblaaGreatSpR
import Derived.ScopeJumps
import Derived.WalkMore
import Derived.Test.YtpopcnebndgblaaGreatSrt12
namespace Go.Proofs.YtpopcnebndgblaaGreat.H
open Go.ChangeShapes Go.WideShapes Go.Deep Go.RowKit
set_option linter.unusedVariables false
abbrev eU (n : Int) : Value := .int .u64 n
abbrev eI (n : Int) : Value := .int .i64 n
theorem add_plain (b o j : Nat) : (⟨b, o, none⟩ : Addr).add j = ⟨b, o + j, none⟩ := by unfold Addr.add; split <;> simp_all
theorem pk_u64 {x : Int} (h : (Lit.int .u64 x).wf = true) : 0 ≤ x ∧ x < 18446744073709551616 := by
  simp [Lit.wf, IntKind.min, IntKind.max, IntKind.bits, IntKind.signed] at h
  omega
theorem pk_i64 {x : Int} (h : (Lit.int .i64 x).wf = true) : -9223372036854775808 ≤ x ∧ x < 9223372036854775808 := by
  simp [Lit.wf, IntKind.min, IntKind.max, IntKind.bits, IntKind.signed] at h
  omega
theorem pk_u8 {x : Int} (h : (Lit.int .u8 x).wf = true) : 0 ≤ x ∧ x < 256 := by
  simp [Lit.wf, IntKind.min, IntKind.max, IntKind.bits, IntKind.signed] at h
  omega
/-! ### Blocks -/
/-- Block B is a block of those values. -/
def Box (W : World) (B : Nat) (vs : Array Value) (t : TypeId) : Prop := W.heap[B]? = some (.cells vs t (0, 0))
theorem Box.lt {W : World} {B : Nat} {t : TypeId} {v : Array Value} (h : Box W B v t) : B < W.heap.size := (Array.getElem?_eq_some_iff.1 h).1
theorem Box.new (W : World) (t : TypeId) (v : Array Value) : Box (W.alloc (.cells v t)) W.heap.size v t := heap_alloc_new W _
theorem Box.alloc {W : World} {B : Nat} {t : TypeId} {v : Array Value} (h : Box W B v t) (o : Obj) : Box (W.alloc o) B v t := (Below.heap_alloc W o B h.lt).trans h
theorem Box.below {W w : World} {B : Nat} {t : TypeId} {v : Array Value} (h : Box W B v t) (hb : Below W.heap.size W w) : Box w B v t := (hb.block B h.lt).trans h
theorem Box.setNe {W : World} {B : Nat} {t : TypeId} {vs : Array Value} (h : Box W B vs t) {a : Addr} (hne : B ≠ a.block) (v : Value) : Box (W.setCell a v) B vs t := (Below.heap_setCell W a v B hne).trans h
theorem Box.drew {W : World} {B : Nat} {t : TypeId} {v : Array Value} (h : Box W B v t) : Box W.drew B v t := h
theorem up1 (w : World) (o1 : Obj) : Below w.heap.size w (w.alloc o1) := (Below.refl _ _).alloc (Nat.le_refl _) _
theorem up2 (w : World) (o1 o2 : Obj) : Below w.heap.size w ((w.alloc o1).alloc o2) := (up1 w o1).alloc (by simp) _
theorem ups {B : Nat} {W w w' : World} (h : Below B W w) (k : Below w.heap.size w w') (hB : B ≤ w.heap.size) : Below B W w' := h.trans (k.mono hB)
theorem undrew {w w' : World} (h : Below w.drew.heap.size w.drew w') : Below w.heap.size w w' := ((Below.refl _ w).drew).trans h
theorem undrewN {w w' : World} {n : Nat} (h : Below (w.drewN n).heap.size (w.drewN n) w') : Below w.heap.size w w' := (show Below w.heap.size w (w.drewN n) from ⟨rfl, rfl, rfl, Nat.le_refl _, fun _ _ => rfl⟩).trans h
/-- All blocks that lie, but B, lie as they lay. -/
structure But (B : Nat) (w w' : World) : Prop where
  os : w'.os = w.os
  tape : w'.tape = w.tape
  output : w'.output = w.output
  size : w.heap.size ≤ w'.heap.size
  block : ∀ k, k < w.heap.size → k ≠ B → w'.heap[k]? = w.heap[k]?
theorem But.of {B : Nat} {w w' : World} (h : Below w.heap.size w w') : But B w w' := ⟨h.os, h.tape, h.output, h.size, fun k hk _ => h.block k hk⟩
theorem But.refl (B : Nat) (w : World) : But B w w := But.of (Below.refl _ _)
theorem But.trans {B : Nat} {a b c : World} (h : But B a b) (k : But B b c) : But B a c :=
  ⟨k.os.trans h.os, k.tape.trans h.tape, k.output.trans h.output, Nat.le_trans h.size k.size, fun i hi hn => (k.block i (Nat.lt_of_lt_of_le hi h.size) hn).trans (h.block i hi hn)⟩
theorem But.set {B : Nat} {w w' : World} (h : But B w w') (i : Nat) (v : Value) : But B w (w'.setCell ⟨B, i, none⟩ v) :=
  ⟨h.os, h.tape, h.output, by simpa [World.setCell] using h.size, fun k hk hn => (Below.heap_setCell _ _ _ k hn).trans (h.block k hk hn)⟩
theorem But.below {B n : Nat} {w w' : World} (h : But B w w') (hB : n ≤ B) (hn : n ≤ w.heap.size) : Below n w w' :=
  ⟨h.os, h.tape, h.output, h.size, fun k hk => h.block k (Nat.lt_of_lt_of_le hk hn) (Nat.ne_of_lt (Nat.lt_of_lt_of_le hk hB))⟩
theorem But.box {B B' : Nat} {w w' : World} {vs : Array Value} {t : TypeId} (h : But B w w') (b : Box w B' vs t) (hne : B' ≠ B) : Box w' B' vs t :=
  (h.block B' b.lt hne).trans b
/-- Below the base of W everything stays, if B lies at it or behind it. -/
theorem But.up {B : Nat} {W w w' : World} (h : But B w w') (T : Below W.heap.size W w) (hB : W.heap.size ≤ B) : Below W.heap.size W w' :=
  T.trans (h.below hB T.size)
theorem But.cell {B : Nat} {w w' : World} {p : Addr} (h : But B w w') (hp : p.block < w.heap.size) (hne : p.block ≠ B) : w'.cell? p = w.cell? p := World.cell?_of_block (h.block _ hp hne)
theorem Box.set {W : World} {B : Nat} {vs : Array Value} {t : TypeId} (h : Box W B vs t) (i : Nat) (v : Value) : Box (W.setCell ⟨B, i, none⟩ v) B (vs.setIfInBounds i v) t := by
  have e : W.heap[B]? = some (.cells vs t (0, 0)) := h
  show (W.setCell ⟨B, i, none⟩ v).heap[B]? = _
  simp [World.setCell, Array.getElem?_modify, e]
theorem Box.cell {W : World} {B : Nat} {vs : Array Value} {t : TypeId} (h : Box W B vs t) (i : Nat) : W.cell? ⟨B, i, none⟩ = vs[i]? := by
  have e : W.heap[B]? = some (.cells vs t (0, 0)) := h
  simp [World.cell?, e]
theorem Box.thaw {W : World} {B : Nat} {vs : Array Value} {t : TypeId} (h : Box W B vs t) (i : Nat) : W.frozen? ⟨B, i, none⟩ = false := by
  have e : W.heap[B]? = some (.cells vs t (0, 0)) := h
  simp [World.frozen?, e]
theorem i64_id {x : Int} (h : -9223372036854775808 ≤ x ∧ x < 9223372036854775808) : IntKind.i64.wrap x = x := by
  simp [IntKind.wrap, IntKind.bits, IntKind.signed]; omega
theorem box_ne {W : World} {B B' : Nat} {vs vs' : Array Value} {t t' : TypeId} (h : Box W B vs t) (h' : Box W B' vs' t') (ht : t ≠ t') : B ≠ B' := fun e => by
  subst e
  have h1 : W.heap[B]? = some (.cells vs t (0, 0)) := h
  rw [show W.heap[B]? = some (.cells vs' t' (0, 0)) from h'] at h1
  injection h1 with h3
  injection h3 with _ h4 _
  exact ht h4.symm
/-- All blocks that lie, but those of a set, lie as they lay. -/
structure Off (S : Nat → Prop) (w w' : World) : Prop where
  os : w'.os = w.os
  tape : w'.tape = w.tape
  output : w'.output = w.output
  size : w.heap.size ≤ w'.heap.size
  block : ∀ k, k < w.heap.size → ¬ S k → w'.heap[k]? = w.heap[k]?
theorem Off.of {S : Nat → Prop} {w w' : World} (h : Below w.heap.size w w') : Off S w w' := ⟨h.os, h.tape, h.output, h.size, fun k hk _ => h.block k hk⟩
theorem Off.mono {S T : Nat → Prop} {w w' : World} (h : Off S w w') (hS : ∀ k, k < w.heap.size → S k → T k) : Off T w w' :=
  ⟨h.os, h.tape, h.output, h.size, fun k hk hT => h.block k hk (fun hs => hT (hS k hk hs))⟩
theorem Off.trans {S T : Nat → Prop} {a b c : World} (h : Off S a b) (k : Off T b c) (hT : ∀ i, i < a.heap.size → T i → S i) : Off S a c :=
  ⟨k.os.trans h.os, k.tape.trans h.tape, k.output.trans h.output, Nat.le_trans h.size k.size, fun i hi hS => (k.block i (Nat.lt_of_lt_of_le hi h.size) (fun ht => hS (hT i hi ht))).trans (h.block i hi hS)⟩
theorem Off.below {S : Nat → Prop} {n : Nat} {w w' : World} (h : Off S w w') (hS : ∀ k, k < w.heap.size → S k → n ≤ k) (hn : n ≤ w.heap.size) : Below n w w' :=
  ⟨h.os, h.tape, h.output, h.size, fun k hk => h.block k (by omega) (fun hs => by have := hS k (by omega) hs; omega)⟩
theorem Off.box {S : Nat → Prop} {w w' : World} {B : Nat} {vs : Array Value} {t : TypeId} (h : Off S w w') (b : Box w B vs t) (hn : ¬ S B) : Box w' B vs t := (h.block B b.lt hn).trans b
theorem Off.set {S : Nat → Prop} {w w' : World} (h : Off S w w') {B : Nat} (hB : S B) (i : Nat) (v : Value) : Off S w (w'.setCell ⟨B, i, none⟩ v) :=
  ⟨h.os, h.tape, h.output, by simpa [World.setCell] using h.size, fun k hk hn => (Below.heap_setCell _ _ _ k (fun e => hn (by rw [show k = B from e]; exact hB))).trans (h.block k hk hn)⟩
theorem Off.owns {S : Nat → Prop} {w w' : World} {base n : Nat} {e : TypeId} {size : Nat} {v : Value} {xs : List Value} (h : Off S w w') (o : w.ownsRow base e size v n xs) (hn : ∀ g, v.ownBlock = some g → ¬ S g) : w'.ownsRow base e size v n xs := by
  obtain ⟨h1, h2⟩ := o
  refine ⟨h1, h2.imp id ?_⟩
  rintro ⟨g, cap, cur, rfl, a2, a3, a4⟩
  exact ⟨g, cap, cur, rfl, a2, (h.block g (Array.getElem?_eq_some_iff.1 a3).1 (hn g rfl)).trans a3, a4⟩
theorem own_below {w w' : World} {base : Nat} {e : TypeId} {size : Nat} {v : Value} {n : Nat} {xs : List Value} (h : w.ownsRow base e size v n xs) (hb : Below w.heap.size w w') : w'.ownsRow base e size v n xs :=
  h.kept (row := none) ⟨hb.os, hb.tape, hb.output, hb.size, fun k hk _ => hb.block k hk⟩ (by cases hv : v.ownBlock <;> simp)
theorem own_mono {w : World} {base base' size n : Nat} {e : TypeId} {v : Value} {xs : List Value} (h : w.ownsRow base e size v n xs) (hb : base' ≤ base) : w.ownsRow base' e size v n xs := by
  obtain ⟨h1, h2⟩ := h
  refine ⟨h1, h2.imp id ?_⟩
  rintro ⟨g, cap, cur, a1, a2, a3⟩
  exact ⟨g, cap, cur, a1, Nat.le_trans hb a2, a3⟩
theorem own_some {w : World} {base : Nat} {e : TypeId} {size : Nat} {v : Value} {n : Nat} {xs : List Value} (h : w.ownsRow base e size v n xs) (hn : 0 < n) :
    ∃ g cap cur, v = .slice (some ⟨g, 0, none⟩) n cap ∧ base ≤ g ∧ g < w.heap.size ∧ n ≤ cap ∧ cap ≤ maxLen ∧ Box w g cur e ∧ ∀ j u, xs[j]? = some u → w.cell? ((⟨g, 0, none⟩ : Addr).add j) = some u := by
  have hc := fun g (e : v.ownBlock = some g) => h.cells e
  have hl := h.lt
  rcases h.2 with ⟨_, h0⟩ | ⟨g, cap, cur, rfl, hb, hB, hk, hm, _, _⟩
  · omega
  · exact ⟨g, cap, cur, rfl, hb, (hl g rfl).2, hk, hm, hB, hc g rfl⟩
theorem own_len {w : World} {base : Nat} {e : TypeId} {size : Nat} {v : Value} {n : Nat} {xs : List Value} (h : w.ownsRow base e size v n xs) : ∃ a cap, v = .slice a n cap ∧ n ≤ cap ∧ cap ≤ maxLen := by
  rcases h.2 with ⟨rfl, rfl⟩ | ⟨g, cap, cur, rfl, _, _, hk, hm, _, _⟩
  · exact ⟨none, 0, rfl, Nat.le_refl _, by decide⟩
  · exact ⟨_, cap, rfl, hk, hm⟩

theorem own_not {w : World} {base n : Nat} {e : TypeId} {size : Nat} {v : Value} {xs : List Value} {B : Nat} {vs : Array Value} {t : TypeId} (h : w.ownsRow base e size v n xs) (b : Box w B vs t) (ht : t ≠ e) : v.ownBlock ≠ some B := by
  rcases h.2 with ⟨rfl, _⟩ | ⟨g, cap, cur, rfl, _, hg, _⟩
  · simp [Value.ownBlock]
  · intro k
    have e' : g = B := by simpa [Value.ownBlock] using k
    exact box_ne (show Box w g cur e from hg) b (fun h => ht h.symm) e'
theorem Box.grown {W w : World} {B : Nat} {vs : Array Value} {t : TypeId} {row : Option Nat} (h : Box W B vs t) (g : W.grownBy w row) (hr : some B ≠ row) : Box w B vs t := (g.block B h.lt hr).trans h
theorem Off.drew {S : Nat → Prop} {W w : World} (h : Off S w W) : Off S w W.drew := ⟨h.os, h.tape, h.output, h.size, h.block⟩
theorem Off.setHi {S : Nat → Prop} {w w' : World} (h : Off S w w') {B : Nat} (hB : w.heap.size ≤ B) (i : Nat) (v : Value) : Off S w (w'.setCell ⟨B, i, none⟩ v) :=
  ⟨h.os, h.tape, h.output, by simpa [World.setCell] using h.size, fun k hk hn => (Below.heap_setCell _ _ _ k (by show k ≠ B; omega)).trans (h.block k hk hn)⟩
theorem Off.grown {S : Nat → Prop} {w W W' : World} {row : Option Nat} (h : Off S w W) (hg : W.grownBy W' row) (hr : ∀ k, row = some k → S k ∨ w.heap.size ≤ k) : Off S w W' :=
  ⟨hg.os.trans h.os, hg.tape.trans h.tape, hg.output.trans h.output, Nat.le_trans h.size hg.size, fun k hk hn => (hg.block k (Nat.lt_of_lt_of_le hk h.size) (fun e => by
    rcases hr k e.symm with h1 | h1
    · exact hn h1
    · omega)).trans (h.block k hk hn)⟩
theorem Off.alloc {S : Nat → Prop} {w W : World} (h : Off S w W) (o : Obj) : Off S w (W.alloc o) :=
  ⟨h.os, h.tape, h.output, Nat.le_trans h.size (by simp), fun k hk hn => (Below.heap_alloc W o k (Nat.lt_of_lt_of_le hk h.size)).trans (h.block k hk hn)⟩
/-- An object's own blocks: its box, and its row's. -/
def Own2 (B : Nat) (v : Value) (k : Nat) : Prop := k = B ∨ v.ownBlock = some k
/-- Blocks that lie keep their colours; those of another colour than c lie as they lay. -/
structure Col (χ χ' : Nat → Nat) (c : Nat) (w w' : World) : Prop where
  os : w'.os = w.os
  tape : w'.tape = w.tape
  output : w'.output = w.output
  size : w.heap.size ≤ w'.heap.size
  col : ∀ k, k < w.heap.size → χ' k = χ k
  block : ∀ k, k < w.heap.size → χ k ≠ c → w'.heap[k]? = w.heap[k]?
/-- What is new gets a colour. -/
def recol (χ : Nat → Nat) (n c : Nat) : Nat → Nat := fun k => if k < n then χ k else c
theorem recol_lt {χ : Nat → Nat} {n c k : Nat} (h : k < n) : recol χ n c k = χ k := by unfold recol; rw [if_pos h]
theorem recol_ge {χ : Nat → Nat} {n c k : Nat} (h : n ≤ k) : recol χ n c k = c := by unfold recol; rw [if_neg (by omega)]
section
variable {w0 w w' w'' : World} {χ χ' χ'' : Nat → Nat} {c d : Nat}
theorem Col.of (h : Below w.heap.size w w') : Col χ χ c w w' := ⟨h.os, h.tape, h.output, h.size, fun _ _ => rfl, fun k hk _ => h.block k hk⟩
theorem Col.new (h : Below w.heap.size w w') (d : Nat) : Col χ (recol χ w.heap.size d) c w w' := ⟨h.os, h.tape, h.output, h.size, fun _ hk => recol_lt hk, fun k hk _ => h.block k hk⟩
theorem Col.off {S : Nat → Prop} (h : Off S w w') (hS : ∀ k, S k → χ k = c) : Col χ (recol χ w.heap.size c) c w w' :=
  ⟨h.os, h.tape, h.output, h.size, fun _ hk => recol_lt hk, fun k hk hn => h.block k hk (fun hs => hn (hS k hs))⟩
theorem Col.trans (h : Col χ χ' c w w') (k : Col χ' χ'' c w' w'') : Col χ χ'' c w w'' :=
  ⟨k.os.trans h.os, k.tape.trans h.tape, k.output.trans h.output, Nat.le_trans h.size k.size, fun i hi => (k.col i (Nat.lt_of_lt_of_le hi h.size)).trans (h.col i hi),
   fun i hi hn => (k.block i (Nat.lt_of_lt_of_le hi h.size) (by rw [h.col i hi]; exact hn)).trans (h.block i hi hn)⟩
/-- What lay ahead of the call has the colour 0, and lies as it lay. -/
structure Fr (w0 : World) (χ : Nat → Nat) (w : World) : Prop where
  zero : ∀ k, k < w0.heap.size → χ k = 0
  world : Below w0.heap.size w0 w
theorem Fr.start (w0 : World) : Fr w0 (fun _ => 0) w0 := ⟨fun _ _ => rfl, Below.refl _ _⟩
theorem Fr.next (h : Fr w0 χ w) (k : Col χ χ' c w w') (hc : c ≠ 0) : Fr w0 χ' w' :=
  ⟨fun i hi => (k.col i (Nat.lt_of_lt_of_le hi h.world.size)).trans (h.zero i hi), h.world.trans ⟨k.os, k.tape, k.output, k.size, fun i hi => k.block i (Nat.lt_of_lt_of_le hi h.world.size) (by rw [h.zero i hi]; exact fun e => hc e.symm)⟩⟩
theorem Fr.below (h : Fr w0 χ w) (k : Below w.heap.size w w') : Fr w0 χ w' := ⟨h.zero, ups h.world k h.world.size⟩
/-- A block of colour c. -/
def Bx (w : World) (χ : Nat → Nat) (c N : Nat) (vs : Array Value) (t : TypeId) : Prop := Box w N vs t ∧ χ N = c
theorem Bx.other {N : Nat} {vs : Array Value} {t : TypeId} (h : Bx w χ c N vs t) (k : Col χ χ' d w w') (hd : c ≠ d) : Bx w' χ' c N vs t :=
  ⟨(k.block N h.1.lt (by rw [h.2]; exact hd)).trans h.1, (k.col N h.1.lt).trans h.2⟩
theorem Bx.below {N : Nat} {vs : Array Value} {t : TypeId} (h : Bx w χ c N vs t) (k : Below w.heap.size w w') : Bx w' χ c N vs t := ⟨h.1.below k, h.2⟩
end
/-! ### Rows of elements -/
/-- The cells of a row, element by element. -/
def rowC {α : Type} (f : α → List Value) : List α → List Value
  | [] => []
  | x :: L => f x ++ rowC f L
/-- So many cells an element, each a plain one. -/
structure Cells {α : Type} (f : α → List Value) (s : Nat) : Prop where
  len : ∀ x, (f x).length = s
  one : ∀ x, ∀ u ∈ f x, u.oneCell' = true
section
variable {α : Type} {f : α → List Value} {s : Nat}
theorem rowC_append : ∀ (a b : List α), rowC f (a ++ b) = rowC f a ++ rowC f b
  | [], b => rfl
  | x :: a, b => by rw [List.cons_append, rowC, rowC, rowC_append a b, List.append_assoc]
theorem rowC_one (x : α) : rowC f [x] = f x := by simp [rowC]
theorem rowC_len (h : Cells f s) : ∀ (L : List α), (rowC f L).length = L.length * s
  | [] => by simp [rowC]
  | x :: L => by rw [rowC, List.length_append, h.len, rowC_len h L, List.length_cons, Nat.add_mul]; omega
theorem rowC_at (h : Cells f s) : ∀ (L : List α) (i : Nat) (x : α), L[i]? = some x → ∀ j, j < s → (rowC f L)[i * s + j]? = (f x)[j]?
  | [], i, x, hx, j, hj => by simp at hx
  | y :: L, 0, x, hx, j, hj => by
    simp only [List.getElem?_cons_zero, Option.some.injEq] at hx
    subst hx
    rw [rowC, Nat.zero_mul, Nat.zero_add, List.getElem?_append_left (by rw [h.len]; exact hj)]
  | y :: L, i + 1, x, hx, j, hj => by
    rw [List.getElem?_cons_succ] at hx
    rw [rowC, List.getElem?_append_right (by rw [h.len, Nat.add_mul]; omega), h.len, show (i + 1) * s + j - s = i * s + j by rw [Nat.add_mul]; omega]
    exact rowC_at h L i x hx j hj
theorem rowC_take (h : Cells f s) : ∀ (L : List α) (k : Nat), (rowC f L).take (k * s) = rowC f (L.take k)
  | _, 0 => by simp [rowC]
  | [], k + 1 => by simp [rowC]
  | x :: L, k + 1 => by
    rw [List.take_succ_cons, rowC, rowC, ← rowC_take h L k, List.take_append, h.len, List.take_of_length_le (by rw [h.len, Nat.add_mul]; omega)]
    congr 2; rw [Nat.add_mul]; omega
theorem rowC_drop (h : Cells f s) : ∀ (L : List α) (k : Nat), (rowC f L).drop (k * s) = rowC f (L.drop k)
  | _, 0 => by simp
  | [], k + 1 => by simp [rowC]
  | x :: L, k + 1 => by
    rw [List.drop_succ_cons, rowC, ← rowC_drop h L k, List.drop_append, h.len, List.drop_eq_nil_of_le (by rw [h.len, Nat.add_mul]; omega), List.nil_append]
    congr 1; rw [Nat.add_mul]; omega
theorem rowC_cells (h : Cells f s) : ∀ (L : List α), ∀ u ∈ rowC f L, u.oneCell' = true
  | [], u, hu => by cases hu
  | x :: L, u, hu => by
    rw [rowC] at hu
    rcases List.mem_append.1 hu with hu | hu
    · exact h.one x u hu
    · exact rowC_cells h L u hu
theorem rowC_set (h : Cells f s) : ∀ (L : List α) (i : Nat) (x y : α) (j : Nat) (u : Value), L[i]? = some x → j < s → f y = (f x).set j u → (rowC f L).set (i * s + j) u = rowC f (L.set i y)
  | [], i, x, y, j, u, hx, hj, hy => by simp at hx
  | z :: L, 0, x, y, j, u, hx, hj, hy => by
    simp only [List.getElem?_cons_zero, Option.some.injEq] at hx
    subst hx
    rw [List.set_cons_zero, rowC, rowC, hy, Nat.zero_mul, Nat.zero_add, List.set_append_left _ _ (by rw [h.len]; exact hj)]
  | z :: L, i + 1, x, y, j, u, hx, hj, hy => by
    rw [List.getElem?_cons_succ] at hx
    rw [List.set_cons_succ, rowC, rowC, ← rowC_set h L i x y j u hx hj hy, List.set_append_right _ _ (by rw [h.len, Nat.add_mul]; omega), h.len]
    congr 2; rw [Nat.add_mul]; omega
/-- A slice type of the program's, and its elements: so many cells, so many bytes. -/
structure RowTy (P : Program) (sl el : TypeId) (s : Nat) : Prop where
  und : P.underlying sl = some (.slice el)
  pos : 0 < s
  info : ∃ i z b, P.info? el = some i ∧ i.zero = some z ∧ i.size = s ∧ i.bytes = b ∧ z.cells.size = s ∧ b ≤ 1024
variable {P : Program} {sl el : TypeId}
/-- An element's cells, of a row that the call owns. -/
theorem own_elem {w : World} {base g n cap : Nat} {L : List α} (hf : Cells f s) (h : w.ownsRow base el s (.slice (some ⟨g, 0, none⟩) n cap) n (rowC f L)) (i : Nat) (x : α) (hx : L[i]? = some x) (j : Nat) (hj : j < s) (u : Value) (hu : (f x)[j]? = some u) : w.cell? ⟨g, i * s + j, none⟩ = some u := by
  have e := h.cells (g := g) rfl (i * s + j) u (by rw [rowC_at hf L i x hx j hj]; exact hu)
  rw [add_plain, Nat.zero_add] at e
  exact e
theorem own_form {w : World} {base n : Nat} {v : Value} {xs : List Value} (h : w.ownsRow base el s v n xs) : (v = .slice none 0 0 ∧ n = 0) ∨ ∃ g cap, v = .slice (some ⟨g, 0, none⟩) n cap ∧ n ≤ cap ∧ base ≤ g ∧ g < w.heap.size := by
  rcases h.2 with h | ⟨g, cap, cur, e, h1, h2, h3, _⟩
  · exact .inl h
  · exact .inr ⟨g, cap, e, h3, h1, (Array.getElem?_eq_some_iff.1 h2).1⟩
/-- What append makes of a row that the call owns, and elements that lie somewhere. -/
theorem run_more (T : RowTy P sl el s) (hf : Cells f s) (w : World) (ty : TypeId) (m : Nat) (v : Value) (X Y : List α) (n k : Nat) (hn : X.length = n) (hk : Y.length = k) (hown : w.ownsRow m el s v n (rowC f X)) (ad : Addr) (c : Nat) (hflat : ∀ j u, (rowC f Y)[j]? = some u → w.cell? (ad.add j) = some u) (hl : n + k ≤ 1000000) (hm : m ≤ w.heap.size) :
    ∃ v' w', (Builtin.append_ #[sl, sl] ty #[v, .slice (some ad) k c]).run P w = .ok v' w' ∧ w'.ownsRow m el s v' (n + k) (rowC f (X ++ Y)) ∧ w.grownBy w' v.ownBlock ∧ (∀ g, v'.ownBlock = some g → v.ownBlock = some g ∨ g = w.heap.size) ∧ (v ≠ .slice none 0 0 → v' ≠ .slice none 0 0) := by
  obtain ⟨i, z, b, h1, h2, h3, h4, h5, h6⟩ := T.info
  subst hn hk
  have hb : (X.length + Y.length) * b ≤ 140737488355328 := Nat.le_trans (Nat.mul_le_mul hl h6) (by decide)
  obtain ⟨v', w', hr, k2, k3, k4, k5⟩ := run_append_own_at (P := P) w m sl ty el i z s b T.und h1 h2 h3 h4 h5 T.pos v X.length (rowC f X) hown ad Y.length c (rowC f Y) (rowC_len hf Y) hflat (rowC_cells hf Y) (by unfold maxLen; omega) hb hm
  rw [← rowC_append] at k2
  refine ⟨v', w', hr, k2, k3, fun g e => ?_, fun hv e => hv (k4.1 e).1⟩
  rcases k5 with k5 | k5
  · exact .inl (by rw [← k5]; exact e)
  · rw [k5] at e; cases e; exact .inr rfl
theorem wpList_more (T : RowTy P sl el s) (hf : Cells f s) {w : World} {ops : Array Oper} {rest : List Oper} {o : Oper} {a : Act} {Q : Exit → Act → World → Prop} (hgd : o.guard = none) (q x : Operand)
    (ho : o.op = .call { callee := .builtin .append, args := #[q, x], argTypes := #[sl, sl] })
    (m : Nat) (v : Value) (X Y : List α) (n k : Nat) (hn : X.length = n) (hk : Y.length = k) (hs : a.eval q = v) (hown : w.ownsRow m el s v n (rowC f X)) (ad : Addr) (c : Nat) (hx : a.eval x = .slice (some ad) k c) (hflat : ∀ j u, (rowC f Y)[j]? = some u → w.cell? (ad.add j) = some u) (hl : n + k ≤ 1000000) (hm : m ≤ w.heap.size)
    (h : ∀ v' w', w'.ownsRow m el s v' (n + k) (rowC f (X ++ Y)) → w.grownBy w' v.ownBlock → (∀ g, v'.ownBlock = some g → v.ownBlock = some g ∨ g = w.heap.size) → (v ≠ .slice none 0 0 → v' ≠ .slice none 0 0) → wpList P ops Q rest (a.put o.dst v') w') :
    wpList P ops Q (o :: rest) a w := by
  refine wpList_plain hgd fun K hK => ?_
  obtain ⟨v', w', hr, h2, h3, h4, h5⟩ := run_more T hf w o.type m v X Y n k hn hk hown ad c hflat hl hm
  unfold Oper.wp execOp
  simp only [ho, resolve, invoke, builtin, Sem.run_bind, Sem.run_pure, Result.andThen_ok, List.map_toArray, List.map_cons, List.map_nil, hs, hx, hr]
  exact hK _ _ (h v' w' h2 h3 h4 h5)
theorem step_more (T : RowTy P sl el s) (hf : Cells f s) {w : World} {ops : Array Oper} {o : Oper} {a : Act} {K : Act → World → Prop} {Q : Exit → Act → World → Prop} {E : Prop} (hw : Region.wanted o (yielded ops a.tmps) = true) (q x : Operand)
    (ho : o.op = .call { callee := .builtin .append, args := #[q, x], argTypes := #[sl, sl] })
    (m : Nat) (v : Value) (X Y : List α) (n k : Nat) (hn : X.length = n) (hk : Y.length = k) (hs : a.eval q = v) (hown : w.ownsRow m el s v n (rowC f X)) (ad : Addr) (c : Nat) (hx : a.eval x = .slice (some ad) k c) (hflat : ∀ j u, (rowC f Y)[j]? = some u → w.cell? (ad.add j) = some u) (hl : n + k ≤ 1000000) (hm : m ≤ w.heap.size)
    (h : ∀ v' w', w'.ownsRow m el s v' (n + k) (rowC f (X ++ Y)) → w.grownBy w' v.ownBlock → (∀ g, v'.ownBlock = some g → v.ownBlock = some g ∨ g = w.heap.size) → (v ≠ .slice none 0 0 → v' ≠ .slice none 0 0) → K (a.put o.dst v') w') :
    if Region.wanted o (yielded ops a.tmps) = true then Oper.wp P o a w K Q else E := by
  rw [if_pos hw]
  obtain ⟨v', w', hr, h2, h3, h4, h5⟩ := run_more T hf w o.type m v X Y n k hn hk hown ad c hflat hl hm
  unfold Oper.wp execOp
  simp only [ho, resolve, invoke, builtin, Sem.run_bind, Sem.run_pure, Result.andThen_ok, List.map_toArray, List.map_cons, List.map_nil, hs, hx, hr]
  exact h v' w' h2 h3 h4 h5
/-- Nothing is appended. -/
theorem wpList_nomore (T : RowTy P sl el s) {w : World} {ops : Array Oper} {rest : List Oper} {o : Oper} {a : Act} {Q : Exit → Act → World → Prop} (hgd : o.guard = none) (q x : Operand)
    (ho : o.op = .call { callee := .builtin .append, args := #[q, x], argTypes := #[sl, sl] }) (m n : Nat) (v : Value) (xs : List Value) (hs : a.eval q = v) (hown : w.ownsRow m el s v n xs) (hx : a.eval x = .slice none 0 0)
    (h : wpList P ops Q rest (a.put o.dst v) w) : wpList P ops Q (o :: rest) a w := by
  obtain ⟨i, z, b, h1, h2, h3, h4, h5, h6⟩ := T.info
  have hr := run_append_owned_none (P := P) w m sl o.type el i s T.und h1 v n xs hown
  refine wpList_plain hgd fun K hK => ?_
  unfold Oper.wp execOp
  simp only [ho, resolve, invoke, builtin, Sem.run_bind, Sem.run_pure, Result.andThen_ok, List.map_toArray, List.map_cons, List.map_nil, hs, hx, hr]
  exact hK _ _ h
theorem step_nomore (T : RowTy P sl el s) {w : World} {ops : Array Oper} {o : Oper} {a : Act} {K : Act → World → Prop} {Q : Exit → Act → World → Prop} {E : Prop} (hw : Region.wanted o (yielded ops a.tmps) = true) (q x : Operand)
    (ho : o.op = .call { callee := .builtin .append, args := #[q, x], argTypes := #[sl, sl] }) (m n : Nat) (v : Value) (xs : List Value) (hs : a.eval q = v) (hown : w.ownsRow m el s v n xs) (hx : a.eval x = .slice none 0 0)
    (h : K (a.put o.dst v) w) : if Region.wanted o (yielded ops a.tmps) = true then Oper.wp P o a w K Q else E := by
  rw [if_pos hw]
  obtain ⟨i, z, b, h1, h2, h3, h4, h5, h6⟩ := T.info
  have hr := run_append_owned_none (P := P) w m sl o.type el i s T.und h1 v n xs hown
  unfold Oper.wp execOp
  simp only [ho, resolve, invoke, builtin, Sem.run_bind, Sem.run_pure, Result.andThen_ok, List.map_toArray, List.map_cons, List.map_nil, hs, hx, hr]
  exact h
/-- An element that was laid now, as a slice of one. -/
theorem flat_new {w : World} {N : Nat} {t : TypeId} {x : α} {cs : Array Value} (hB : Box w N cs t) (hc : cs.toList = f x) : ∀ j u, (rowC f [x])[j]? = some u → w.cell? ((⟨N, 0, none⟩ : Addr).add j) = some u := by
  intro j u hu
  rw [rowC_one, ← hc] at hu
  exact World.news_of_block hB j u hu
/-- A part of an owned row lies at its place. -/
theorem flat_part {w w' : World} {base g n cap : Nat} {L : List α} (hf : Cells f s) (h : w.ownsRow base el s (.slice (some ⟨g, 0, none⟩) n cap) n (rowC f L)) (hb : Below w.heap.size w w') (k : Nat) {ad : Addr} (had : L.drop k ≠ [] → ad = ⟨g, k * s, none⟩) : ∀ j u, (rowC f (L.drop k))[j]? = some u → w'.cell? (ad.add j) = some u := by
  intro j u hu
  by_cases hd : L.drop k = []
  · rw [hd] at hu; simp [rowC] at hu
  · rw [had hd, add_plain]
    rw [← rowC_drop hf, List.getElem?_drop] at hu
    have e := h.cells (g := g) rfl _ _ hu
    rw [add_plain, Nat.zero_add] at e
    exact (hb.cell (p := ⟨g, k * s + j, none⟩) (h.lt g rfl).2).trans e
theorem flat_first {w w' : World} {base g n cap : Nat} {L : List α} (hf : Cells f s) (h : w.ownsRow base el s (.slice (some ⟨g, 0, none⟩) n cap) n (rowC f L)) (hb : Below w.heap.size w w') (k : Nat) : ∀ j u, (rowC f (L.take k))[j]? = some u → w'.cell? ((⟨g, 0, none⟩ : Addr).add j) = some u := by
  intro j u hu
  rw [add_plain, Nat.zero_add]
  rw [← rowC_take hf, List.getElem?_take] at hu
  split at hu
  · have e := h.cells (g := g) rfl _ _ hu
    rw [add_plain, Nat.zero_add] at e
    exact (hb.cell (p := ⟨g, j, none⟩) (h.lt g rfl).2).trans e
  · cases hu
theorem own_take {w : World} {m n g cap k : Nat} {L : List α} (hf : Cells f s) (h : w.ownsRow m el s (.slice (some ⟨g, 0, none⟩) n cap) n (rowC f L)) (hL : L.length = n) (hk : k ≤ n) : w.ownsRow m el s (.slice (some ⟨g, 0, none⟩) k cap) k (rowC f (L.take k)) := by
  obtain ⟨h1, h2 | ⟨g', cap', cur, e, h3, h4, h5, h6, h7, h8⟩⟩ := h
  · cases h2.1
  · cases e
    refine ⟨by rw [rowC_len hf, List.length_take, hL, Nat.min_eq_left hk], .inr ⟨g, cap, cur, rfl, h3, h4, by omega, h6, h7, ?_⟩⟩
    rw [← rowC_take hf, ← h8, List.take_take, Nat.min_eq_left (Nat.mul_le_mul_right s hk)]
/-- A row of one's own, with nothing in it: '[]T{}'. -/
theorem own_empty {w : World} {g m : Nat} (h : Box w g #[] el) (hm : m ≤ g) : w.ownsRow m el s (.slice (some ⟨g, 0, none⟩) 0 0) 0 (rowC f ([] : List α)) :=
  ⟨by simp [rowC], .inr ⟨g, 0, #[], rfl, hm, h, Nat.le_refl _, by decide, by simp, by simp [rowC]⟩⟩
end
/-- A slice of elements: nil, empty, or a row in memory. -/
def IsRow {α : Type} (f : α → List Value) (s : Nat) (w : World) (a : Option Addr) (n c : Nat) (xs : Nat → α) : Prop :=
  n ≤ c ∧ (n = 0 ∨ ∃ b o, a = some ⟨b, o, none⟩ ∧ b < w.heap.size ∧ ∀ i, i < n → ∀ j u, (f (xs i))[j]? = some u → w.cell? ⟨b, o + i * s + j, none⟩ = some u)
section
variable {α : Type} {f : α → List Value} {s : Nat}
theorem IsRow.below {W w : World} {a : Option Addr} {n c : Nat} {xs : Nat → α} (h : IsRow f s W a n c xs) (hb : Below W.heap.size W w) : IsRow f s w a n c xs := by
  obtain ⟨h2, h3⟩ := h
  refine ⟨h2, h3.imp id ?_⟩
  rintro ⟨b, o, e, h4, h5⟩
  exact ⟨b, o, e, Nat.lt_of_lt_of_le h4 hb.size, fun i hi j u hu => (hb.cell (p := ⟨b, _, none⟩) h4).trans (h5 i hi j u hu)⟩
/-- An element's cells, in whatever world behind. -/
theorem row_at {w0 : World} {a : Option Addr} {n c : Nat} {xs : Nat → α} (hI : IsRow f s w0 a n c xs) (k : Nat) (hk : k < n) : ∃ b o, a = some ⟨b, o, none⟩ ∧ b < w0.heap.size ∧ ∀ w', Below w0.heap.size w0 w' → ∀ j u, (f (xs k))[j]? = some u → w'.cell? ⟨b, o + k * s + j, none⟩ = some u := by
  rcases hI.2 with h | ⟨b, o, e, h1, h2⟩
  · omega
  · exact ⟨b, o, e, h1, fun w' hb j u hu => (hb.cell (p := ⟨b, _, none⟩) h1).trans (h2 k hk j u hu)⟩
variable {H : Type} {enc : TypeId × Value → H} {P : Program} {w : World} {base : Nat} {spare : Nat → Bool} {held : Bool}
theorem open_row {t e : TypeId} {fuel : Nat} {cs : List Value} {x : DataW H × List MemPlace} {ok : α → Prop} (d : α) (hd : ok d) (hs : 0 < s) (hf : ∀ v, (f v).length = s) (ht : P.underlying t = some (.slice e)) (hC : P.cellsOf e = s)
    (elem : ∀ n (cs : List Value) (x : DataW H × List MemPlace), cs.length = s → DataW.trod enc P w base spare held n e cs = some x → ∃ v, ok v ∧ cs = f v) (h : DataW.trod enc P w base spare held fuel t cs = some x) :
    ∃ (a : Option Addr) (n c : Nat) (xs : Nat → α), cs = [.slice a n c] ∧ IsRow f s w a n c xs ∧ (∀ i, ok (xs i)) ∧ c ≤ maxLen ∧ (a = none → n = 0 ∧ c = 0) := by
  rcases open_slice ht h with ⟨h0, _⟩ | ⟨a, len, cap, m, n, D, Pl, hcs, hb', hl, hm, hmm, hx, hi⟩
  · exact ⟨none, 0, 0, fun _ => d, h0, ⟨Nat.le_refl _, .inl rfl⟩, fun _ => hd, by decide, fun _ => ⟨rfl, rfl⟩⟩
  · have hlm : len ≤ m := by rw [hmm]; split <;> omega
    have key : ∀ i, i < len → ∃ v : α, ok v ∧ ∀ j u, (f v)[j]? = some u → w.cell? (a.add (i * s + j)) = some u := by
      intro i hil
      obtain ⟨cs', hc, ht'⟩ := hi i (by omega)
      rw [hC] at hc
      obtain ⟨_, hl', hat⟩ := World.cells?_some hc
      obtain ⟨v, hv, rfl⟩ := elem _ _ _ hl' ht'
      refine ⟨v, hv, fun j u hu => ?_⟩
      have hj : j < (f v).length := by
        rcases Nat.lt_or_ge j (f v).length with h | h
        · exact h
        · rw [List.getElem?_eq_none h] at hu; cases hu
      have e := hat j (by rw [hf] at hj; exact hj)
      rw [add_add] at e
      exact e.trans hu
    obtain ⟨F, hF⟩ : ∃ F : Nat → α, ∀ i, ok (F i) ∧ (i < len → ∀ j u, (f (F i))[j]? = some u → w.cell? (a.add (i * s + j)) = some u) := by
      refine ⟨fun i => if q : i < len then Classical.choose (key i q) else d, fun i => ?_⟩
      by_cases hil : i < len
      · simp only [hil, dif_pos]
        have h := Classical.choose_spec (key i hil)
        exact ⟨h.1, fun _ => h.2⟩
      · simp only [hil, dif_neg, not_false_eq_true]
        exact ⟨hd, fun h => absurd h (by simp)⟩
    refine ⟨some a, len, cap, F, hcs, ⟨hl, ?_⟩, fun i => (hF i).1, hm, fun q => by cases q⟩
    by_cases hz : len = 0
    · exact .inl hz
    · have c0 := (hF 0).2 (by omega) 0 _ (List.getElem?_eq_getElem (by rw [hf]; exact hs))
      obtain ⟨b, off, spot⟩ := a
      have hspot : spot = none := by simpa [Addr.add] using World.cell?_spot c0
      subst hspot
      have hlt := World.block_lt_of_cell? w _ c0
      refine .inr ⟨b, off, rfl, by rw [add_plain] at hlt; exact hlt, fun i hil j u hu => ?_⟩
      have e := (hF i).2 hil j u hu
      rw [add_plain, ← Nat.add_assoc] at e
      exact e
end
abbrev ptr (B : Nat) : Value := .pointer (some ⟨B, 0, none⟩)
/-! ### Rows -/
/-- c with the cells from o on replaced by vs. -/
def spl (c : Array Value) (o : Nat) : List Value → Array Value
  | [] => c
  | v :: r => spl (c.setIfInBounds o v) (o + 1) r
theorem Box.setCells {W : World} {B : Nat} {t : TypeId} : ∀ (vs : List Value) (o : Nat) (W : World) (c : Array Value), Box W B c t → Box (W.setCells B o vs) B (spl c o vs) t
  | [], _, _, _, h => h
  | v :: r, o, W, c, h => Box.setCells (W := W) r (o + 1) _ _ (h.set o v)
theorem But.setCells {B : Nat} : ∀ (vs : List Value) (o : Nat) (w w' : World), But B w w' → But B w (w'.setCells B o vs)
  | [], _, _, _, h => h
  | v :: r, o, w, w', h => But.setCells r (o + 1) _ _ (h.set o v)
theorem Box.range {W : World} {B : Nat} {c : Array Value} {t : TypeId} (h : Box W B c t) (o n : Nat) : W.rangeAt B o (c.extract o (o + n)).toList := World.rangeAt_of_block h o n
theorem Box.there {W : World} {B : Nat} {c : Array Value} {t : TypeId} (h : Box W B c t) {o n : Nat} (hn : o + n ≤ c.size) : W.there B o n := fun j hj => by
  refine ⟨?_, h.thaw _⟩
  rw [h.cell, Array.getElem?_eq_getElem (by omega)]
  rfl
section
variable {P : Program} {ops : Array Oper} {rest : List Oper} {o : Oper} {a : Act} {w : World} {Q : Exit → Act → World → Prop}
/-- A row is loaded from a block, from offset k on. -/
theorem wl_load (ty : TypeId) {x : Operand} {B k n : Nat} {c cs : Array Value} {t : TypeId} {d : TypeDesc} (hB : Box w B c t) (hgd : o.guard = none) (ho : o.op = .load ty x) (hx : a.eval x = .pointer (some ⟨B, k, none⟩))
    (hu : P.underlying ty = some d) (hd : d.isRow = true) (hi : (P.info? ty).map (·.size) = some n) (hs : k + n ≤ c.size) (hc : c.extract k (k + n) = cs)
    (h : wpList P ops Q rest (a.put o.dst (.agg cs)) w) : wpList P ops Q (o :: rest) a w := by
  refine wpList_load_mid hgd ty x ho B k hx (c.extract k (k + n)).toList d (hB.range k n) hu hd ?_ ?_
  · rw [hi, Array.length_toList, Array.size_extract]
    congr 1
    omega
  · rw [Array.toArray_toList, hc]
    exact h
/-- A row is stored in a block, from offset k on. -/
theorem wl_store (ty : TypeId) {x y : Operand} {B k n : Nat} {c vs c' : Array Value} {t : TypeId} (hB : Box w B c t) (hgd : o.guard = none) (ho : o.op = .store ty x y) (hx : a.eval x = .pointer (some ⟨B, k, none⟩)) (hy : a.eval y = .agg vs)
    (hi : (P.info? ty).map (·.size) = some n) (hn : vs.size = n) (hs : k + n ≤ c.size) (h1 : vs.all (·.oneCell') = true) (hc : spl c k vs.toList = c')
    (h : ∀ w', Box w' B c' t → But B w w' → wpList P ops Q rest (a.put o.dst undef) w') : wpList P ops Q (o :: rest) a w := by
  subst hn
  refine wpList_store_mid hgd ty x y ho B k vs hx hy (hB.there hs) hi h1 (h _ ?_ ?_)
  · rw [← hc]
    exact Box.setCells (W := w) vs.toList k w c hB
  · exact But.setCells vs.toList k w w (But.refl B w)
/-- A new variable that holds a value. -/
theorem wl_box (t : TypeId) {x : Operand} {c : Array Value} (hgd : o.guard = none) (ho : o.op = .box t x) (hx : a.eval x = .agg c)
    (h : ∀ w', Box w' w.heap.size c t → Below w.heap.size w w' → wpList P ops Q rest (a.put o.dst (.pointer (some ⟨w.heap.size, 0, none⟩))) w') : wpList P ops Q (o :: rest) a w := by
  refine wpList_plain hgd fun K hK => ?_
  unfold Oper.wp execOp
  simp only [ho, hx, Sem.run_bind, Instr.box, newVar, newRow, run_newObj_alloc, Sem.run_pure, Result.andThen_ok, Value.cells]
  exact hK _ _ (h _ (Box.new w t c) (up1 w _))
/-- A new variable that holds zero. -/
theorem wl_alloc (t : TypeId) {c : Array Value} (hgd : o.guard = none) (ho : o.op = .alloc t) (hz : (P.info? t).map (fun i => i.zero) = some (some (.agg c)))
    (h : ∀ w', Box w' w.heap.size c t → Below w.heap.size w w' → wpList P ops Q rest (a.put o.dst (.pointer (some ⟨w.heap.size, 0, none⟩))) w') : wpList P ops Q (o :: rest) a w := by
  refine wpList_plain hgd fun K hK => ?_
  cases hq : P.info? t with
  | none => simp [hq] at hz
  | some i =>
    have hz' : i.zero = some (.agg c) := by simpa [hq] using hz
    unfold Oper.wp execOp
    simp only [ho, Sem.run_bind, Instr.alloc, zeroValue, typeInfo, hq, hz', newVar, newRow, run_newObj_alloc, Sem.run_pure, Result.andThen_ok, Value.cells, run_program]
    exact hK _ _ (h _ (Box.new w t c) (up1 w _))
/-- A value of parts. -/
theorem wl_build (t : TypeId) {parts : List (Nat × Operand)} {c : Array Value} (hgd : o.guard = none) (ho : o.op = .build t parts.toArray) (hc : P.built t (parts.map fun x => (x.1, a.eval x.2)) = some c)
    (h : wpList P ops Q rest (a.put o.dst (.agg c)) w) : wpList P ops Q (o :: rest) a w := by
  have e : P.built t (parts.toArray.map fun x => (x.1, a.eval x.2)).toList = some c := by
    rw [← hc]
    congr 1
    simp
  refine wpList_build hgd t parts.toArray ho (by rw [show P.built t (parts.toArray.map fun x => (x.1, a.eval x.2)).toList = some c from e]; rfl) ?_
  rw [show P.built t (parts.toArray.map fun x => (x.1, a.eval x.2)).toList = some c from e]
  exact h
end
/-- In a region that draws its order: a row is loaded. -/
theorem xl_load {P : Program} (ty : TypeId) {o : Oper} {a : Act} {w : World} {x : Operand} {B k n : Nat} {c cs : Array Value} {t : TypeId} {d : TypeDesc} (hB : Box w B c t) (ho : o.op = .load ty x) (hx : a.eval x = .pointer (some ⟨B, k, none⟩))
    (hu : P.underlying ty = some d) (hd : d.isRow = true) (hi : (P.info? ty).map (·.size) = some n) (hs : k + n ≤ c.size) (hc : c.extract k (k + n) = cs) : (execOp a.eval o).run P w = .ok (.value (.agg cs)) w := by
  unfold execOp
  have h := run_loadVar_mid (P := P) w B k ty (c.extract k (k + n)).toList d (hB.range k n) hu hd (by rw [hi, Array.length_toList, Array.size_extract]; congr 1; omega)
  rw [Array.toArray_toList, hc] at h
  simp only [ho, hx, Instr.loadAt, Instr.sureAddr, Sem.run_bind, Sem.run_pure, Result.andThen_ok, h]
section
variable {P : Program} {ops : Array Oper} {rest : List Oper} {o : Oper} {a : Act} {w : World} {Q : Exit → Act → World → Prop}
/-- An operation that is wanted and yields a value. -/
theorem wl_run {v : Value} (hr : (execOp a.eval o).run P w = .ok (.value v) w) (hw : Region.wanted o (yielded ops a.tmps) = true) (h : wpList P ops Q rest (a.put o.dst v) w) : wpList P ops Q (o :: rest) a w := by
  refine wpList_step fun K hK => ?_
  rw [if_pos hw]
  unfold Oper.wp
  rw [hr]
  exact hK _ _ h
end
/-! ### The cells of a spec, of a class -/
def sV (p : Sp) : Array Value := spC p
def slV (g : Option Nat) (n c : Nat) : Value := .slice (g.map fun b => ⟨b, 0, none⟩) n c
def kV (p : Sp) (a : Option Addr) (n c : Nat) : Array Value := #[.int .i64 p.id, .int .i64 p.par, .bool p.leaf, .int .u64 p.re.f, .int .u64 p.re.l, .int .u64 p.re.r, .int .u64 p.sh.f, .int .u64 p.sh.l, .int .u64 p.sh.r, .int .u64 p.up.f, .int .u64 p.up.l, .int .u64 p.up.r, .int .i64 p.pk, .int .i64 p.bt, .slice a n c]
theorem sV_0 (p : Sp) : (sV p)[0]? = some (.int .i64 p.id) := rfl
theorem kV_0 (p : Sp) (a : Option Addr) (n c : Nat) : (kV p a n c)[0]? = some (.int .i64 p.id) := rfl
theorem sV_1 (p : Sp) : (sV p)[1]? = some (.int .i64 p.par) := rfl
theorem kV_1 (p : Sp) (a : Option Addr) (n c : Nat) : (kV p a n c)[1]? = some (.int .i64 p.par) := rfl
theorem sV_2 (p : Sp) : (sV p)[2]? = some (.bool p.leaf) := rfl
theorem kV_2 (p : Sp) (a : Option Addr) (n c : Nat) : (kV p a n c)[2]? = some (.bool p.leaf) := rfl
theorem kV_14 (p : Sp) (a : Option Addr) (n c : Nat) : (kV p a n c)[14]? = some (.slice a n c) := rfl
theorem kV_sp (p : Sp) (a : Option Addr) (n c : Nat) : (kV p a n c).extract 0 (0 + 14) = sV p := by kernel_rfl
theorem kV_all (p : Sp) (a : Option Addr) (n c : Nat) : (kV p a n c).extract 0 (0 + 15) = kV p a n c := by kernel_rfl
theorem sV_all (p : Sp) : (sV p).extract 0 (0 + 14) = sV p := by kernel_rfl
theorem sV_size (p : Sp) : (sV p).size = 14 := rfl
theorem kV_size (p : Sp) (a : Option Addr) (n c : Nat) : (kV p a n c).size = 15 := rfl
theorem sV_one (p : Sp) : (sV p).all (·.oneCell') = true := by kernel_rfl
theorem kV_one (p : Sp) (a : Option Addr) (n c : Nat) : (kV p a n c).all (·.oneCell') = true := by kernel_rfl
theorem spl_ss (p q : Sp) : spl (sV p) 0 (sV q).toList = sV q := by kernel_rfl
theorem spl_kk (p q : Sp) (a b : Option Addr) (n c m d : Nat) : spl (kV p a n c) 0 (kV q b m d).toList = kV q b m d := by kernel_rfl
theorem set_k14 (p : Sp) (a b : Option Addr) (n c m d : Nat) : (kV p a n c).setIfInBounds 14 (.slice b m d) = kV p b m d := by kernel_rfl
theorem zero34 : (Tryz.prog.info? 34).map (fun i => i.zero) = some (some (.agg (sV Sp.zero))) := by kernel_rfl
theorem zero62 : (Tryz.prog.info? 62).map (fun i => i.zero) = some (some (.agg (kV Sp.zero none 0 0))) := by kernel_rfl
theorem size34 : (Tryz.prog.info? 34).map (·.size) = some 14 := by kernel_rfl
theorem size62 : (Tryz.prog.info? 62).map (·.size) = some 15 := by kernel_rfl
theorem built34 : Tryz.prog.built 34 [] = some (sV Sp.zero) := by kernel_rfl
theorem built62z : Tryz.prog.built 62 [] = some (kV Sp.zero none 0 0) := by kernel_rfl
theorem built62s (p : Sp) : Tryz.prog.built 62 [(0, .agg (sV p))] = some (kV p none 0 0) := by kernel_rfl
theorem built62 (p : Sp) (a : Option Addr) (n c : Nat) : Tryz.prog.built 62 [(0, .agg (sV p)), (1, .slice a n c)] = some (kV p a n c) := by kernel_rfl
theorem kfield0 (p : Sp) (a : Option Addr) (n c : Nat) (W : World) : (Instr.field 62 (.agg (kV p a n c)) 0).run Tryz.prog W = .ok (.agg (sV p)) W := by kernel_rfl
theorem kfield1 (p : Sp) (a : Option Addr) (n c : Nat) (W : World) : (Instr.field 62 (.agg (kV p a n c)) 1).run Tryz.prog W = .ok (.slice a n c) W := by kernel_rfl
theorem ifs {W : World} {p p' : Prop} [Decidable p] [Decidable p'] {x : Result Bool} {r : Bool} (hp : p ↔ p') (h : x = .ok r W) : (if p then x else .ok false W) = .ok (decide p' && r) W := by
  by_cases q : p
  · rw [if_pos q, decide_eq_true (hp.1 q), Bool.true_and]; exact h
  · rw [if_neg q, decide_eq_false (fun z => q (hp.2 z)), Bool.false_and]
end Go.Proofs.YtpopcnebndgblaaGreat.H

namespace Go.Proofs.YtpopcnebndgblaaGreat.H
open Go.RowKit Go.Maps Go.ChangeMaps
set_option linter.unusedVariables false
set_option linter.unusedSimpArgs false
def zK : Value := .agg (kV Sp.zero none 0 0)
def hE : Value → Option (DataW Value × List MemPlace) := fun v => some (.held v, [])
/-- Block b is a map that has just the keys ks, and says F k at each k (the zero class where there is nothing). -/
def MapV (w : World) (b : Nat) (F : Int → Value) (ks : List Int) : Prop :=
  ∃ D, w.ownsMap Tryz.prog 3 hE b ks.length D ∧ Maps.size D = ks.length ∧ ks.Nodup ∧ (∀ k, has D (.int .i64 k) = true ↔ k ∈ ks) ∧ ∀ k, D.atKey (.int .i64 k) (.held zK) = .held (F k)
theorem key_of {k : Int} (h : I64 k) : keyOf Tryz.prog 3 (eI k) = some (.int .i64 k) := keyOf_int_mk Tryz.underlying3 (by unfold I64 at h; simp [Lit.wf, IntKind.min, IntKind.max, IntKind.bits, IntKind.signed]; omega)
theorem lit_ne {j k : Int} (h : j ≠ k) : Lit.int .i64 j ≠ Lit.int .i64 k := fun e => h (by cases e; rfl)
theorem zero62v (w : World) : (zeroValue 62).run Tryz.prog w = .ok zK w := Tryz.zeroValue62 w
section
variable {w w' : World} {b : Nat} {F : Int → Value} {ks : List Int}
theorem ownsMap_tight {D : DataW Value} {n : Nat} (h : w.ownsMap Tryz.prog 3 hE b n D) : w.ownsMap Tryz.prog 3 hE b (Maps.size D) D := by
  obtain ⟨es, clock, hb, F, hs, rfl⟩ := h
  refine ⟨es, clock, hb, F, ?_, rfl⟩
  rw [Maps.size_eq, length_sorted]
  simp
theorem MapV.lt (h : MapV w b F ks) : b < w.heap.size := by obtain ⟨D, h1, _⟩ := h; exact h1.lt
theorem MapV.kept {row : Option Nat} (h : MapV w b F ks) (hg : w.grownBy w' row) (hne : some b ≠ row) : MapV w' b F ks := by
  obtain ⟨D, h1, h2⟩ := h; exact ⟨D, h1.kept hg hne, h2⟩
theorem MapV.below (h : MapV w b F ks) (hb : Below w.heap.size w w') : MapV w' b F ks :=
  h.kept (row := none) ⟨hb.os, hb.tape, hb.output, hb.size, fun k hk _ => hb.block k hk⟩ (by simp)
theorem MapV.off {S : Nat → Prop} (h : MapV w b F ks) (ho : Off S w w') (hn : ¬ S b) : MapV w' b F ks := by
  obtain ⟨D, ⟨es, clock, hb, h1⟩, h2⟩ := h
  exact ⟨D, ⟨es, clock, (ho.block b (Array.getElem?_eq_some_iff.1 hb).1 hn).trans hb, h1⟩, h2⟩
theorem MapV.unbox (h : MapV w b F ks) (vs : Array Value) (t : TypeId) : ¬ Box w b vs t := fun hb => by
  obtain ⟨D, ⟨es, clock, hb', _⟩, _⟩ := h
  have : w.heap[b]? = some (.cells vs t (0, 0)) := hb
  rw [hb'] at this
  cases this
theorem MapV.made (w : World) : MapV (w.alloc (.map #[] 0)) w.heap.size (fun _ => zK) [] :=
  ⟨_, World.ownsMap_made w Tryz.prog 3 hE, rfl, .nil, fun k => by simp [Maps.has], fun k => rfl⟩
theorem MapV.say (h : MapV w b F ks) {F' : Int → Value} (he : ∀ k, F k = F' k) : MapV w b F' ks := by
  have : F = F' := funext he
  rw [← this]; exact h
theorem MapV.keys (h : MapV w b F ks) {js : List Int} (hn : js.Nodup) (he : ∀ k, k ∈ ks ↔ k ∈ js) : MapV w b F js := by
  obtain ⟨D, h1, h2, h3, h4, h5⟩ := h
  have e : ks.length = js.length := Nat.le_antisymm (nodup_le h3 (fun x hx => (he x).1 hx)) (nodup_le hn (fun x hx => (he x).2 hx))
  exact ⟨D, by rw [← e]; exact h1, by rw [← e]; exact h2, hn, fun k => (h4 k).trans (he k), h5⟩
theorem MapV.none (h : MapV w b F ks) {k : Int} (hk : k ∉ ks) : F k = zK := by
  obtain ⟨D, h1, h2, h3, h4, h5⟩ := h
  have e := h5 k
  have hf : has D (.int .i64 k) = false := by cases hh : has D (.int .i64 k) with
    | false => rfl
    | true => exact absurd ((h4 k).1 hh) hk
  rw [atKey_of_not_has hf] at e
  injection e with e
  exact e.symm
theorem MapV.look (h : MapV w b F ks) {k : Int} (hk : I64 k) : (Instr.lookup 46 (.map (some b)) (eI k) false).run Tryz.prog w = .ok (F k) w := by
  obtain ⟨D, h1, _, _, _, h2⟩ := h
  obtain ⟨x, ps, hr, hx⟩ := h1.lookup (int_keyed Tryz.underlying3) Tryz.underlying46 (e := 62) (z := zK) (zero62v w) (zd := .held zK) (zp := []) rfl (key_of hk)
  rw [h2] at hx
  cases hx
  exact hr
theorem MapV.look_ok (h : MapV w b F ks) {k : Int} (hk : I64 k) : (Instr.lookup 46 (.map (some b)) (eI k) true).run Tryz.prog w = .ok (.tuple #[F k, .bool (decide (k ∈ ks))]) w := by
  obtain ⟨D, h1, _, _, h4, h2⟩ := h
  obtain ⟨x, ps, hr, hx⟩ := h1.look_ok (int_keyed Tryz.underlying3) Tryz.underlying46 (e := 62) (z := zK) (zero62v w) (zd := .held zK) (zp := []) rfl (key_of hk)
  rw [h2] at hx
  cases hx
  have e : has D (.int .i64 k) = decide (k ∈ ks) := by
    by_cases hm : k ∈ ks
    · rw [(h4 k).2 hm, decide_eq_true hm]
    · rw [decide_eq_false hm]
      cases hh : has D (.int .i64 k) with
      | false => rfl
      | true => exact absurd ((h4 k).1 hh) hm
  rw [hr, e]
theorem MapV.len (h : MapV w b F ks) (ty : TypeId) : (Builtin.len_ #[46] ty #[.map (some b)]).run Tryz.prog w = .ok (eI (ks.length : Int)) w := by
  obtain ⟨D, h1, h2, _⟩ := h
  rw [h1.len Tryz.underlying46 ty, h2]
/-- A store. -/
theorem MapV.upd (h : MapV w b F ks) (hc : ks.length ≤ 5000) {k : Int} (v : Value) (hk : I64 k) :
    ∃ w', (Instr.mapUpdate 46 (.map (some b)) (eI k) v).run Tryz.prog w = .ok () w' ∧ MapV w' b (fun j => if j = k then v else F j) (if k ∈ ks then ks else k :: ks) ∧ But b w w' ∧ w'.heap.size = w.heap.size := by
  obtain ⟨D, h1, h0, hd, h3, h2⟩ := h
  have hm1 := h1.isMap
  have ht := h1.tidy (int_keyed Tryz.underlying3)
  have hkl : WideAt.IsKeyLit (.int .i64 k) := by trivial
  obtain ⟨w', hr, ho, hg⟩ := h1.store (int_keyed Tryz.underlying3) Tryz.underlying46 (Nat.lt_of_le_of_lt hc (by decide)) (key_of hk) (val := v) (d := .held v) (ps := []) rfl
  have hsz : Maps.size (D.put (.int .i64 k) (.held v)) = (if k ∈ ks then ks else k :: ks).length := by
    rw [size_put ht, h0]
    by_cases hm : k ∈ ks
    · rw [if_pos hm, if_pos ((h3 k).2 hm)]
    · rw [if_neg hm, if_neg (fun e => hm ((h3 k).1 e))]; rfl
  have hgr := hg.grown
  obtain ⟨es, clock, es', clock', hb, rfl⟩ := hg
  refine ⟨_, hr, ⟨_, by have := ownsMap_tight ho; rw [hsz] at this; exact this, hsz, ?_, fun j => ?_, fun j => ?_⟩, ⟨hgr.os, hgr.tape, hgr.output, hgr.size, fun i hi hne => hgr.block i hi (fun e => hne (by cases e; rfl))⟩, by simp [setBlock]⟩
  · split
    · exact hd
    · exact List.nodup_cons.2 ⟨by assumption, hd⟩
  · have e : j ∈ (if k ∈ ks then ks else k :: ks) ↔ (j = k ∨ j ∈ ks) := by
      split
      · rename_i hm
        exact ⟨.inr, fun h => h.elim (fun e => e ▸ hm) id⟩
      · exact List.mem_cons
    rw [e]
    by_cases hj : j = k
    · subst hj; simp [has_put_same hm1 hkl]
    · rw [has_put_other (lit_ne hj), h3 j]; simp [hj]
  · by_cases hj : j = k
    · subst hj; simp [atKey_put_same hm1 hkl]
    · simp [atKey_put_other (lit_ne hj), hj, h2 j]
/-- A delete. -/
theorem MapV.del (h : MapV w b F ks) {k : Int} (hk : I64 k) (ty : TypeId) :
    ∃ w', (Builtin.delete_ #[46, 3] ty #[.map (some b), eI k]).run Tryz.prog w = .ok (.tuple #[]) w' ∧ MapV w' b (fun j => if j = k then zK else F j) (ks.filter (fun j => j != k)) ∧ But b w w' ∧ w'.heap.size = w.heap.size := by
  obtain ⟨D, h1, h0, hd, h3, h2⟩ := h
  have ht := h1.tidy (int_keyed Tryz.underlying3)
  obtain ⟨w', hr, ho, hg⟩ := h1.drop (int_keyed Tryz.underlying3) Tryz.underlying46 (key_of hk) ty
  have hnd : (ks.filter (fun j => j != k)).Nodup := hd.filter _
  have hsz : Maps.size (D.del (.int .i64 k)) = (ks.filter (fun j => j != k)).length := by
    have e := size_del (k := .int .i64 k) ht
    by_cases hm : k ∈ ks
    · rw [(h3 k).2 hm, h0] at e
      simp only [if_true] at e
      have e2 : (k :: ks.filter (fun j => j != k)).length = ks.length := by
        refine Nat.le_antisymm (nodup_le (List.nodup_cons.2 ⟨by simp, hnd⟩) (fun x hx => ?_)) (nodup_le hd (fun x hx => ?_))
        · rcases List.mem_cons.1 hx with rfl | hx
          · exact hm
          · exact (List.mem_filter.1 hx).1
        · by_cases hxk : x = k
          · simp [hxk]
          · simp [hx, hxk]
      simp only [List.length_cons] at e2
      omega
    · have hf : has D (.int .i64 k) = false := by cases hh : has D (.int .i64 k) with
        | false => rfl
        | true => exact absurd ((h3 k).1 hh) hm
      rw [hf, h0] at e
      have e2 : ks.filter (fun j => j != k) = ks := List.filter_eq_self.2 (fun x hx => by simp; rintro rfl; exact hm hx)
      rw [e2]
      simpa using e
  have hgr := hg.grown
  obtain ⟨es, clock, es', clock', hb, rfl⟩ := hg
  refine ⟨_, hr, ⟨_, by have := ownsMap_tight ho; rw [hsz] at this; exact this, hsz, hnd, fun j => ?_, fun j => ?_⟩, ⟨hgr.os, hgr.tape, hgr.output, hgr.size, fun i hi hne => hgr.block i hi (fun e => hne (by cases e; rfl))⟩, by simp [setBlock]⟩
  · rw [List.mem_filter]
    by_cases hj : j = k
    · subst hj; simp [has_del_same]
    · rw [has_del_other (lit_ne hj), h3 j]; simp [hj]
  · by_cases hj : j = k
    · subst hj; simp [atKey_del_same]
    · simp [atKey_del_other (lit_ne hj), hj, h2 j]
end
instance : DecidableEq Cw := fun a b => decidable_of_iff (a.f = b.f ∧ a.l = b.l ∧ a.r = b.r) (by cases a; cases b; simp)
instance : DecidableEq Sp := fun a b => decidable_of_iff (a.id = b.id ∧ a.par = b.par ∧ a.leaf = b.leaf ∧ a.re = b.re ∧ a.sh = b.sh ∧ a.up = b.up ∧ a.pk = b.pk ∧ a.bt = b.bt) (by cases a; cases b; simp)
set_option maxHeartbeats 16000000 in
set_option maxRecDepth 100000 in
theorem eq34 (p q : Sp) (W : World) : (Op.equalIn 10000 34 (.agg (sV p)) (.agg (sV q))).run Tryz.prog W = .ok (decide (p = q)) W := by
  obtain ⟨a0, a1, a2, ⟨a3, a4, a5⟩, ⟨a6, a7, a8⟩, ⟨a9, a10, a11⟩, a12, a13⟩ := p
  obtain ⟨b0, b1, b2, ⟨b3, b4, b5⟩, ⟨b6, b7, b8⟩, ⟨b9, b10, b11⟩, b12, b13⟩ := q
  unfold sV
  simp only [Sp.mk.injEq, Cw.mk.injEq]
  simp [go_sem]
  simp only [Bool.and_assoc]
  refine ifs Iff.rfl (ifs Iff.rfl (ifs Iff.rfl (ifs Iff.rfl (ifs Iff.rfl (ifs Iff.rfl (ifs Iff.rfl (ifs Iff.rfl (ifs Iff.rfl (ifs Iff.rfl (ifs Iff.rfl (ifs Iff.rfl (ifs Iff.rfl ?_))))))))))))
  by_cases q : a13 = b13
  · rw [if_pos q, decide_eq_true q]
  · rw [if_neg q, decide_eq_false q]
theorem ne34 (p q : Sp) (W : World) : (binOp .neq 34 (.agg (sV p)) (.agg (sV q))).run Tryz.prog W = .ok (.bool (!decide (p = q))) W := by rw [run_neq_struct, eq34]; rfl
theorem eqq34 (p q : Sp) (W : World) : (binOp .eql 34 (.agg (sV p)) (.agg (sV q))).run Tryz.prog W = .ok (.bool (decide (p = q))) W := by rw [run_eql_struct, eq34]; rfl
theorem xl_neq34 {o : Oper} {a : Act} {w : World} {x y : Operand} {p q : Sp} {t : TypeId} (ho : o.op = .binOp .neq 34 x y t) (hx : a.eval x = .agg (sV p)) (hy : a.eval y = .agg (sV q)) : (execOp a.eval o).run Tryz.prog w = .ok (.value (.bool (!decide (p = q)))) w := by
  unfold execOp
  simp only [ho, hx, hy, Sem.run_bind, run_eqGuard_agg w .neq 34 x y _ _ Tryz.eqGuardType34, Result.andThen_ok, ne34, Sem.run_pure]
end Go.Proofs.YtpopcnebndgblaaGreat.H

namespace Go.Proofs.YtpopcnebndgblaaGreat.H
open Go.RowKit
set_option linter.unusedVariables false
set_option linter.unusedSimpArgs false
/-- Cells laid over a row from a place on. -/
def overV (D : List Value) (o : Nat) (X : List Value) : List Value := D.take o ++ (X ++ D.drop (o + X.length))
theorem overV_length (D : List Value) (o : Nat) (X : List Value) (h : o + X.length ≤ D.length) : (overV D o X).length = D.length := by simp [overV]; omega
section
variable {P : Program} {sl el : TypeId}
theorem run_copy1 (T : RowTy P sl el 1) (w : World) (ty : TypeId) (g o dLen dCap : Nat) (dp sp : Option Addr) (sLen sCap : Nat) (D X : List Value) (hX : X.length = Nat.min sLen dLen) (h1 : ∀ u ∈ X, u.oneCell' = true) (hg : Box w g D.toArray el)
    (hpos : 0 < X.length → dp = some ⟨g, o, none⟩ ∧ ∃ ad, sp = some ad ∧ ∀ j u, X[j]? = some u → w.cell? (ad.add j) = some u) (hfit : o + X.length ≤ D.length) :
    ∃ w', (Builtin.copy_ #[sl, sl] ty #[.slice dp dLen dCap, .slice sp sLen sCap]).run P w = .ok (goInt X.length) w' ∧ Box w' g (overV D o X).toArray el ∧ w.grownBy w' (some g) := by
  obtain ⟨i0, z, b, hi, hz0, hz1, hz2, hz3, hz4⟩ := T.info
  by_cases h0 : X.length = 0
  · have hn : Nat.min sLen dLen = 0 := by omega
    have e : X = [] := List.eq_nil_of_length_eq_zero h0
    subst e
    refine ⟨w, ?_, by simpa [overV] using hg, World.grownBy.refl w _⟩
    have hl : ∀ (x : Addr), (loadCells x 0).run P w = .ok #[] w := fun x => by simpa using run_loadCells_list (P := P) w x [] (by simp)
    cases dp <;> cases sp <;> simp [Builtin.copy_, run_underlying T.und, Builtin.lenOf, Builtin.firstCells, sizeOf, typeInfo, hi, hn, storeCells, hl]
  · obtain ⟨rfl, ad, rfl, hsrc⟩ := hpos (by omega)
    have hl := run_loadCells_list (P := P) w ad X hsrc
    have hst := run_storeCells_at P g o el X 0 D.toArray w hg (by simpa using hfit) h1
    refine ⟨w.setRow g (overV D o X).toArray, ?_, setRow_heap w g _ (overV D o X).toArray el _ hg, ⟨rfl, rfl, rfl, by simp [World.setRow], fun k hk hn => setRow_other w g k _ (fun e => hn (by rw [e]))⟩⟩
    have e : D.toArray.toList.take (o + 0) ++ X ++ D.toArray.toList.drop (o + 0 + X.length) = overV D o X := by
      simp [overV, List.append_assoc]
    rw [e] at hst
    simp [Builtin.copy_, run_underlying T.und, Builtin.lenOf, Builtin.firstCells, sizeOf, typeInfo, hi, hz1, ← hX, hl, hst]
theorem step_copy1 (T : RowTy P sl el 1) {w : World} {ops : Array Oper} {o : Oper} {a : Go.Act} {K : Go.Act → World → Prop} {Q : Exit → Go.Act → World → Prop} {E : Prop} (hgd : o.guard = none) (d s : Operand)
    (ho : o.op = .call { callee := .builtin .copy, args := #[d, s], argTypes := #[sl, sl] })
    (g q dLen dCap : Nat) (dp sp : Option Addr) (sLen sCap : Nat) (hd : a.eval d = .slice dp dLen dCap) (hs : a.eval s = .slice sp sLen sCap) (D X : List Value) (k : Nat) (hk : X.length = k) (hX : k = Nat.min sLen dLen) (h1 : ∀ u ∈ X, u.oneCell' = true) (hg : Box w g D.toArray el)
    (hpos : 0 < k → dp = some ⟨g, q, none⟩ ∧ ∃ ad, sp = some ad ∧ ∀ j u, X[j]? = some u → w.cell? (ad.add j) = some u) (hfit : q + k ≤ D.length)
    (h : ∀ w', Box w' g (overV D q X).toArray el → w.grownBy w' (some g) → K (a.put o.dst (goInt k)) w') :
    if Region.wanted o (yielded ops a.tmps) = true then Oper.wp P o a w K Q else E := by
  have hw : Region.wanted o (yielded ops a.tmps) = true := by simp [Region.wanted, hgd]
  rw [if_pos hw]
  subst hk
  obtain ⟨w', hr, h1, h2⟩ := run_copy1 T w o.type g q dLen dCap dp sp sLen sCap D X hX h1 hg hpos hfit
  unfold Oper.wp
  simp [execOp, ho, resolve, invoke, builtin, hd, hs, hr, Result.andThen]
  exact h w' h1 h2
theorem wpList_copy1 (T : RowTy P sl el 1) {w : World} {ops : Array Oper} {rest : List Oper} {o : Oper} {a : Go.Act} {Q : Exit → Go.Act → World → Prop} (hgd : o.guard = none) (d s : Operand)
    (ho : o.op = .call { callee := .builtin .copy, args := #[d, s], argTypes := #[sl, sl] })
    (g q dLen dCap : Nat) (dp sp : Option Addr) (sLen sCap : Nat) (hd : a.eval d = .slice dp dLen dCap) (hs : a.eval s = .slice sp sLen sCap) (D X : List Value) (k : Nat) (hk : X.length = k) (hX : k = Nat.min sLen dLen) (h1 : ∀ u ∈ X, u.oneCell' = true) (hg : Box w g D.toArray el)
    (hpos : 0 < k → dp = some ⟨g, q, none⟩ ∧ ∃ ad, sp = some ad ∧ ∀ j u, X[j]? = some u → w.cell? (ad.add j) = some u) (hfit : q + k ≤ D.length)
    (h : ∀ w', Box w' g (overV D q X).toArray el → w.grownBy w' (some g) → wpList P ops Q rest (a.put o.dst (goInt k)) w') : wpList P ops Q (o :: rest) a w := by
  refine wpList_plain hgd fun K hK => ?_
  subst hk
  obtain ⟨w', hr, h1, h2⟩ := run_copy1 T w o.type g q dLen dCap dp sp sLen sCap D X hX h1 hg hpos hfit
  unfold Oper.wp execOp
  simp only [ho, resolve, invoke, builtin, Sem.run_bind, Sem.run_pure, Result.andThen_ok, List.map_toArray, List.map_cons, List.map_nil, hd, hs, hr]
  exact hK _ _ (h w' h1 h2)
end
/-- One cell put between. -/
theorem over_ins {D xs : List Value} {n i : Nat} {x : Value} (hx : xs.length = n) (h : D.take n = xs) (hi : i ≤ n) (hn : n + 1 ≤ D.length) : (overV (overV D (i + 1) (xs.drop i)) i [x]).take (n + 1) = xs.take i ++ x :: xs.drop i := by
  have e : D = xs ++ D.drop n := by rw [← h, List.take_append_drop]
  have h1 : D.take i = xs.take i := by rw [e, List.take_append_of_le_length (by omega)]
  have l1 : (D.take (i + 1)).length = i + 1 := by rw [List.length_take]; omega
  have h2 : (overV D (i + 1) (xs.drop i)).take i = xs.take i := by
    unfold overV
    rw [List.take_append_of_le_length (by omega), List.take_take, Nat.min_eq_left (by omega), h1]
  have h3 : (overV D (i + 1) (xs.drop i)).drop (i + 1) = xs.drop i ++ D.drop (n + 1) := by
    unfold overV
    rw [List.drop_append_of_le_length (by omega), List.drop_eq_nil_of_le (by omega), List.nil_append, List.length_drop, hx, show i + 1 + (n - i) = n + 1 by omega]
  show ((overV D (i + 1) (xs.drop i)).take i ++ ([x] ++ (overV D (i + 1) (xs.drop i)).drop (i + 1))).take (n + 1) = _
  rw [h2, h3, ← List.append_assoc, ← List.append_assoc, List.take_append_of_le_length (by simp; omega), List.take_of_length_le (by simp; omega)]
  simp
theorem rowI : RowTy Tryz.prog 53 3 1 := ⟨Tryz.underlying53, by decide, by
  obtain ⟨i, h1, h2, h3, h4⟩ := info_parts (show (Tryz.prog.info? 3).map (fun i => (i.zero, i.size, i.bytes)) = some (some (.int .i64 0), 1, 8) by kernel_rfl)
  exact ⟨i, _, 8, h1, h2, h3, h4, rfl, by decide⟩⟩
section
variable {w : World} {base n i vb : Nat} {v x : Value} {xs : List Value}
/-- What Insert leaves. -/
def InsI (w : World) (base n i : Nat) (v x : Value) (xs : List Value) (e : Ending) (w' : World) : Prop :=
  ∃ v', e = .returned v' ∧ w'.ownsRow base 3 1 v' (n + 1) (xs.take i ++ x :: xs.drop i) ∧ w.grownBy w' v.ownBlock ∧ ∀ g, v'.ownBlock = some g → v.ownBlock = some g ∨ w.heap.size ≤ g
set_option maxHeartbeats 4000000 in
set_option maxRecDepth 100000 in
theorem insI_end (hx : Box w vb #[x] 3) (hown : w.ownsRow base 3 1 v n xs) (hn : n ≤ 100000) (hone : x.oneCell' = true) (hb : base ≤ w.heap.size) :
    Calls Tryz.prog 51 #[v, eI (n : Int), .slice (some ⟨vb, 0, none⟩) 1 1] w (InsI w base n n v x xs) := by
  obtain ⟨i0, z, b, hi, hz0, hz1, hz2, hz3, hz4⟩ := (rowI).info
  have hbytes : (n + 1) * b ≤ 140737488355328 := Nat.le_trans (Nat.mul_le_mul (show n + 1 ≤ 1000000 by omega) hz4) (by decide)
  have hxl : xs.length = n := by have := hown.1; omega
  have hpost : ∀ v' w', (w'.ownsRow base 3 1 v' (n + 1) (xs ++ [x]) ∧ w.grownBy w' v.ownBlock ∧ ∀ g, v'.ownBlock = some g → v.ownBlock = some g ∨ w.heap.size ≤ g) → InsI w base n n v x xs (.returned v') w' := fun v' w' ⟨h1, h2, h3⟩ =>
    ⟨v', rfl, by rw [List.take_of_length_le (by omega), List.drop_eq_nil_of_le (by omega)]; exact h1, h2, h3⟩
  obtain ⟨v', w', hr, k2, k3, k4, k5⟩ := run_append_own_at (P := Tryz.prog) (w := w) base 53 53 3 i0 z 1 b Tryz.underlying53 hi hz0 hz1 hz2 hz3 (by decide) v n xs hown ⟨vb, 0, none⟩ 1 1 [x] rfl
    (fun j u hu => by
      rw [add_plain, Nat.zero_add, hx.cell j]
      cases j with
      | zero => simpa using hu
      | succ j => simp at hu) (by simpa using hone) (by unfold maxLen; omega) hbytes hb
  replace hpost := hpost v' w' ⟨k2, k3, fun g e => by
    rcases k5 with k5 | k5
    · exact .inl (by rw [← k5]; exact e)
    · rw [k5] at e; cases e; exact .inr (Nat.le_refl _)⟩
  obtain ⟨a, cap, rfl, hk, hm⟩ := own_len hown
  have hm' : cap ≤ 9223372036854775807 := by unfold maxLen at hm; omega
  clear hown hx k2 k3 k4 k5
  by_cases hc : cap = n
  · subst hc
    go_enter Tryz.func51, Tryz.ntmps51
    go_wp2_with (at_builtin; refine Lib.wpList_append_run _ rfl _ _ 53 53 rfl _ _ rfl rfl _ _ hr ?_)
    go_ret
    exact hpost
  · go_enter Tryz.func51, Tryz.ntmps51
    go_wp2_with (at_builtin; refine Lib.wpList_append_run _ rfl _ _ 53 53 rfl _ _ rfl rfl _ _ hr ?_)
    go_ret
    exact hpost
set_option maxHeartbeats 4000000 in
set_option maxRecDepth 100000 in
theorem insI_room (hx : Box w vb #[x] 3) (g cap : Nat) (cur : Array Value) (hg : Box w g cur 3) (hgb : base ≤ g) (hcap : cap ≤ maxLen) (hcs : cur.size = cap) (hcur : cur.toList.take n = xs) (hxl : xs.length = n) (hne : vb ≠ g) (hi : i < n) (hroom : n + 1 ≤ cap) (hone : ∀ u ∈ xs, u.oneCell' = true) (hone' : x.oneCell' = true) :
    Calls Tryz.prog 51 #[.slice (some ⟨g, 0, none⟩) n cap, eI (i : Int), .slice (some ⟨vb, 0, none⟩) 1 1] w (InsI w base n i (.slice (some ⟨g, 0, none⟩) n cap) x xs) := by
  have hm' : cap ≤ 9223372036854775807 := by unfold maxLen at hcap; omega
  have hov : ∀ lb cb, (callFunc 66 #[.slice (some ⟨vb, 0, none⟩) 1 1, .slice (some ⟨g, i + 1, none⟩) lb cb]).run Tryz.prog w = .ok (.value (.bool false)) w := fun lb cb => by
    rw [run_callFunc_extern Tryz.func66 (by kernel_rfl) (by kernel_rfl) (by kernel_rfl) (e := Extern.SlicesOverlaps.overlaps #[53, 53] #[4]) (by kernel_rfl),
      Lib.run_overlaps_apart w 53 4 3 Tryz.underlying53 1 (fun W => by obtain ⟨i0, z, b, hi, hz0, hz1, _⟩ := (rowI).info; simp [sizeOf, typeInfo, hi, hz1]) ⟨vb, 0, none⟩ ⟨g, i + 1, none⟩ 1 1 lb cb hne 3 3 1 cap (by show w.shape? vb = _; unfold World.shape?; rw [show w.heap[vb]? = _ from hx]; rfl) (by show w.shape? g = _; unfold World.shape?; rw [show w.heap[g]? = _ from hg]; rw [← hcs]) (by omega) (hx.thaw 0) (hx.thaw 1)]
    rfl
  have hDl : cur.toList.length = cap := by simpa using hcs
  have hg0 : Box w g cur.toList.toArray 3 := by simpa using hg
  have hsrc : ∀ j u, (xs.drop i)[j]? = some u → w.cell? ((⟨g, i, none⟩ : Addr).add j) = some u := fun j u hu => by
    rw [add_plain, hg.cell]
    rw [← hcur, List.getElem?_drop, List.getElem?_take] at hu
    split at hu
    · simpa using hu
    · cases hu
  obtain ⟨W1, hW1⟩ : ∃ W1 : World → World → Prop, W1 = fun a b => Box b g (overV cur.toList (i + 1) (xs.drop i)).toArray 3 ∧ a.grownBy b (some g) := ⟨_, rfl⟩
  have hin : i ≤ n := by omega
  have hz1 : ¬ ((1 : Int) = 0) := by omega
  have hz2 : ¬ ((i : Int) = (n : Int)) := by omega
  have hz3 : ¬ ((cap : Int) < (n : Int) + 1) := by omega
  have hw1 : IntKind.i64.wrap ((i : Int) + 1) = (i : Int) + 1 := i64_id (by omega)
  have hw2 : IntKind.i64.wrap ((n : Int) + 1) = (n : Int) + 1 := i64_id (by omega)
  have hb1 : (0 : Int) ≤ (i : Int) + 1 := by omega
  have htn : ((i : Int) + 1).toNat = i + 1 := by omega
  have htn2 : ((n : Int) + 1).toNat = n + 1 := by omega
  have hb2 : ¬ (cap = i + 1) := by omega
  have hb3 : (i : Int) ≤ (n : Int) + 1 := by omega
  have hb4 : ¬ (cap = i) := by omega
  have hb5 : (i : Int) + 1 ≤ (n : Int) + 1 := by omega
  have hb6 : (n : Int) + 1 ≤ (cap : Int) := by omega
  have hb7 : (0 : Int) ≤ (n : Int) + 1 := by omega
  have hxs := Lib.hid hone
  have hpost : ∀ w2 w3, (Box w2 g (overV cur.toList (i + 1) (xs.drop i)).toArray 3 ∧ w.drew.grownBy w2 (some g)) → (Box w3 g (overV (overV cur.toList (i + 1) (xs.drop i)) i [x]).toArray 3 ∧ w2.grownBy w3 (some g)) → InsI w base n i (.slice (some ⟨g, 0, none⟩) n cap) x xs (.returned (.slice (some ⟨g, 0, none⟩) (n + 1) cap)) w3 := fun w2 w3 ⟨h1, h2⟩ ⟨h3, h4⟩ => by
    have e := over_ins (D := cur.toList) (x := x) hxl hcur hin (by omega)
    refine ⟨_, rfl, ⟨by simp; omega, .inr ⟨g, cap, _, rfl, hgb, h3, hroom, hcap, ?_, by simpa using e⟩⟩, ?_, fun g' e => .inl e⟩
    · rw [List.size_toArray, overV_length _ _ _ (by rw [overV_length _ _ _ (by rw [List.length_drop]; omega)]; simp; omega), overV_length _ _ _ (by rw [List.length_drop]; omega), hDl, Nat.mul_one]
    · exact World.grownBy.trans (⟨h2.os, h2.tape, h2.output, h2.size, h2.block⟩ : w.grownBy w2 (some g)) h4
  have hpo := Lib.hid hpost
  have hl1 : (overV cur.toList (i + 1) (xs.drop i)).length = cap := by rw [overV_length _ _ _ (by rw [List.length_drop]; omega), hDl]
  have hL1 := Lib.hid hl1
  have hxB : ∀ w2, w.drew.grownBy w2 (some g) → Box w2 vb #[x] 3 := fun w2 h => (hx.drew).grown h (fun e => hne (by cases e; rfl))
  have hxb := Lib.hid hxB
  have hsr := Lib.hid hsrc
  have hcu := Lib.hid hcur
  clear hone hpost hl1 hxB hsrc hcur hW1
  go_enter Tryz.func51, Tryz.ntmps51
  go_wp2_with (simp only [hov])
  go_region_law (first
    | (refine step_copy1 rowI rfl _ _ rfl g (i + 1) (n + 1 - (i + 1)) (cap - (i + 1)) (some ⟨g, i + 1, none⟩) (some ⟨g, i, none⟩) (n + 1 - i) (cap - i) (by simp [Act.eval, Act.put]) (by simp [Act.eval, Act.put]) cur.toList (xs.drop i) (n - i) (by rw [List.length_drop, hxl]) (by simp only [Nat.min_def]; split <;> omega) (fun u hu => hxs.out u (List.mem_of_mem_drop hu)) hg0.drew (fun _ => ⟨rfl, _, rfl, hsr.out⟩) (by omega) ?_; intro w2 hB2 hg2))
  have hX2 := hxb.out _ hg2
  go_wp2_with ((refine wpList_copy1 rowI rfl _ _ rfl g i (n + 1 - i) (cap - i) (some ⟨g, i, none⟩) (some ⟨vb, 0, none⟩) 1 1 rfl rfl (overV cur.toList (i + 1) (xs.drop i)) [x] 1 rfl (by simp only [Nat.min_def]; split <;> omega) (by simpa using hone') hB2 (fun _ => ⟨rfl, _, rfl, fun j u hu => by rw [add_plain, Nat.zero_add, hX2.cell j]; simpa using hu⟩) (by rw [hL1.out]; omega) ?_); intro w3 hB3 hg3)
  go_ret
  exact hpo.out _ _ ⟨hB2, hg2⟩ ⟨hB3, hg3⟩
theorem over_growI {D xs : List Value} {n i : Nat} {x : Value} (hx : xs.length = n) (h : D.take i = xs.take i) (hi : i ≤ n) (hn : n + 1 ≤ D.length) : (overV (overV D i [x]) (i + 1) (xs.drop i)).take (n + 1) = xs.take i ++ x :: xs.drop i := by
  have l1 : (D.take i).length = i := by rw [List.length_take]; omega
  have h1 : (overV D i [x]).take (i + 1) = xs.take i ++ [x] := by
    unfold overV
    rw [← List.append_assoc, List.take_append_of_le_length (by simp; omega), List.take_of_length_le (by simp; omega), h]
  show ((overV D i [x]).take (i + 1) ++ (xs.drop i ++ (overV D i [x]).drop (i + 1 + (xs.drop i).length))).take (n + 1) = _
  rw [h1, ← List.append_assoc, List.take_append_of_le_length (by simp; omega), List.take_of_length_le (by simp; omega)]
  simp
set_option maxHeartbeats 4000000 in
set_option maxRecDepth 100000 in
theorem insI_grow (hx : Box w vb #[x] 3) (g cap : Nat) (cur : Array Value) (hg : Box w g cur 3) (hbase : base ≤ w.heap.size) (hcap : cap ≤ maxLen) (hcs : cur.size = cap) (hcur : cur.toList.take n = xs) (hxl : xs.length = n) (hi : i < n) (hnc : n ≤ cap) (hroom : cap < n + 1) (hn : n ≤ 100000) (hone : ∀ u ∈ xs, u.oneCell' = true) (hone' : x.oneCell' = true) :
    Calls Tryz.prog 51 #[.slice (some ⟨g, 0, none⟩) n cap, eI (i : Int), .slice (some ⟨vb, 0, none⟩) 1 1] w (InsI w base n i (.slice (some ⟨g, 0, none⟩) n cap) x xs) := by
  obtain ⟨i0, hi0, hz0, hzs, hzb⟩ := info_parts (show (Tryz.prog.info? 3).map (fun i => (i.zero, i.size, i.bytes)) = some (some (.int .i64 0), 1, 8) by kernel_rfl)
  have hm' : cap ≤ 9223372036854775807 := by unfold maxLen at hcap; omega
  have hsrc : ∀ k j u, ((xs.drop k)[j]? = some u) → w.cell? ((⟨g, k, none⟩ : Addr).add j) = some u := fun k j u hu => by
    rw [add_plain, hg.cell]
    rw [← hcur, List.getElem?_drop, List.getElem?_take] at hu
    split at hu
    · simpa using hu
    · cases hu
  have hsr0 : ∀ j u, (xs.take i)[j]? = some u → w.cell? ((⟨g, 0, none⟩ : Addr).add j) = some u := fun j u hu => by
    refine hsrc 0 j u ?_
    rw [List.getElem?_take] at hu
    split at hu
    · simpa using hu
    · cases hu
  have hold : (Builtin.firstCells i0.size i (.slice (some ⟨g, 0, none⟩) i cap)).run Tryz.prog w.drew = .ok (xs.take i).toArray w.drew := by
    rw [hzs]
    exact run_firstCells_some w.drew 1 i ⟨g, 0, none⟩ i cap (xs.take i) (by rw [List.length_take]; omega) hsr0
  have hrz : ∃ (W1 : World) (G : Nat) (D : List Value), (∀ ty, (Builtin.append_ #[53, 3] ty #[.slice (some ⟨g, 0, none⟩) i cap, .int .i64 ((n : Int) + 1 - (i : Int))]).run Tryz.prog w = .ok (.slice (some ⟨w.heap.size, 0, none⟩) (n + 1) G) W1) ∧ Box W1 w.heap.size D.toArray 3 ∧ w.grownBy W1 none ∧ D.take i = xs.take i ∧ D.length = G ∧ n + 1 ≤ G ∧ G ≤ maxLen := by
    have hik : i + (n + 1 - i) = n + 1 := by omega
    have hkk : (n : Int) + 1 - (i : Int) = ((n + 1 - i : Nat) : Int) := by omega
    refine ⟨w.drew.alloc (.cells (((xs.take i).toArray ++ Builtin.zeroCells (.int .i64 0 : Value).cells (n + 1 - i) ++ Builtin.zeroCells (.int .i64 0 : Value).cells (grownCap w (n + 1) cap 3 - (n + 1))).toList.toArray) 3), grownCap w (n + 1) cap 3, _, fun ty => ?_, Box.new w.drew 3 _, ⟨rfl, rfl, rfl, by simp, fun k hk _ => Below.heap_alloc w.drew _ k hk⟩, ?_, ?_, grownCap_ge w _ _ _, grownCap_le_maxLen w (n + 1) cap 3 (by unfold maxLen; omega)⟩
    · have h := Lib.run_append_grow_zeros w 53 3 ty 3 i0 _ .i64 .i64 Tryz.underlying53 Tryz.underlying3 hi0 hz0 (some ⟨g, 0, none⟩) i cap (xs.take i) hold (n + 1 - i) (by omega) (by omega) (by omega) (by omega) (by rw [hzb]; omega) (by rw [hzb, hik]; exact growslice_fits hroom (by omega))
      rw [hik] at h
      rw [hkk, Array.toArray_toList]
      exact h
    · simp
      rw [List.take_append_of_le_length (by rw [List.length_take]; omega), List.take_take, Nat.min_self]
    · have := grownCap_ge w (n + 1) cap 3
      simp [Builtin.zeroCells, Value.cells]
      omega
  obtain ⟨W1, G, D, hr, hD, hgr, hDt, hDl, hG1, hG2⟩ := hrz
  have hG3 : G ≤ 9223372036854775807 := by unfold maxLen at hG2; omega
  have hvlt := hx.lt
  have hglt := hg.lt
  have hX1 : Box W1 vb #[x] 3 := hx.grown hgr (by simp)
  have hg1 : Box W1 g cur 3 := hg.grown hgr (by simp)
  have hl1 : (overV D i [x]).length = G := by rw [overV_length _ _ _ (by simp; omega), hDl]
  have hin : i ≤ n := by omega
  have hz1 : ¬ ((1 : Int) = 0) := by omega
  have hz2 : ¬ ((i : Int) = (n : Int)) := by omega
  have hz3 : (cap : Int) < (n : Int) + 1 := by omega
  have hw1 : IntKind.i64.wrap ((i : Int) + 1) = (i : Int) + 1 := i64_id (by omega)
  have hw2 : IntKind.i64.wrap ((n : Int) + 1) = (n : Int) + 1 := i64_id (by omega)
  have hw3 : IntKind.i64.wrap ((n : Int) + 1 - (i : Int)) = (n : Int) + 1 - (i : Int) := i64_id (by omega)
  have hb1 : (0 : Int) ≤ (i : Int) + 1 := by omega
  have htn : ((i : Int) + 1).toNat = i + 1 := by omega
  have hb2 : ¬ (G = i + 1) := by omega
  have hb3 : (i : Int) ≤ (n : Int) + 1 := by omega
  have hb4 : ¬ (cap = i) := by omega
  have hb5 : (i : Int) + 1 ≤ (n : Int) + 1 := by omega
  have hb6 : ¬ (G = i) := by omega
  have hpost : ∀ w2 w3, (Box w2 w.heap.size (overV D i [x]).toArray 3 ∧ W1.grownBy w2 (some w.heap.size)) → (Box w3 w.heap.size (overV (overV D i [x]) (i + 1) (xs.drop i)).toArray 3 ∧ w2.drew.grownBy w3 (some w.heap.size)) → InsI w base n i (.slice (some ⟨g, 0, none⟩) n cap) x xs (.returned (.slice (some ⟨w.heap.size, 0, none⟩) (n + 1) G)) w3 := fun w2 w3 ⟨h1, h2⟩ ⟨h3, h4⟩ => by
    have e := over_growI (D := D) (x := x) hxl hDt hin (by omega)
    refine ⟨_, rfl, ⟨by simp; omega, .inr ⟨w.heap.size, G, _, rfl, hbase, h3, hG1, hG2, ?_, by simpa using e⟩⟩, ?_, fun g' e => .inr (by cases e; exact Nat.le_refl _)⟩
    · rw [List.size_toArray, overV_length _ _ _ (by rw [hl1, List.length_drop]; omega), hl1, Nat.mul_one]
    · refine ⟨h4.os.trans (h2.os.trans hgr.os), h4.tape.trans (h2.tape.trans hgr.tape), h4.output.trans (h2.output.trans hgr.output), Nat.le_trans hgr.size (Nat.le_trans h2.size h4.size), fun k hk hne => ?_⟩
      have hk1 : k < W1.heap.size := Nat.lt_of_lt_of_le hk hgr.size
      rw [h4.block k (Nat.lt_of_lt_of_le hk1 h2.size) (fun e => by cases e; omega)]
      show w2.heap[k]? = _
      rw [h2.block k hk1 (fun e => by cases e; omega), hgr.block k hk (by simp)]
  have hpo := Lib.hid hpost
  have hL1 := Lib.hid hl1
  have hxs := Lib.hid hone
  have hsr : ∀ w2, Box w2 g cur 3 → ∀ j u, (xs.drop i)[j]? = some u → w2.cell? ((⟨g, i, none⟩ : Addr).add j) = some u := fun w2 h2 j u hu => by
    have h := hsrc i j u hu
    rw [add_plain, hg.cell] at h
    rw [add_plain, h2.cell]; exact h
  have hsrh := Lib.hid hsr
  have hg2 : ∀ w2, W1.grownBy w2 (some w.heap.size) → Box w2 g cur 3 := fun w2 h => hg1.grown h (fun e => by cases e; omega)
  have hgh := Lib.hid hg2
  have hDl' := Lib.hid hDl
  clear hpost hl1 hone hsrc hsr0 hold hsr hg2 hcur hDt hDl
  go_enter Tryz.func51, Tryz.ntmps51
  go_wp2_with (first
    | (at_builtin; refine Lib.wpList_append_run _ rfl _ _ 53 3 rfl _ _ rfl rfl _ _ (hr _) ?_)
    | (refine wpList_copy1 rowI rfl _ _ rfl w.heap.size i (n + 1 - i) (G - i) (some ⟨w.heap.size, i, none⟩) (some ⟨vb, 0, none⟩) 1 1 rfl rfl D [x] 1 rfl (by simp only [Nat.min_def]; split <;> omega) (by simpa using hone') hD (fun _ => ⟨rfl, _, rfl, fun j u hu => by rw [add_plain, Nat.zero_add, hX1.cell j]; simpa using hu⟩) (by rw [hDl'.out]; omega) ?_; intro w2 hB2 hg2))
  go_region_law (first
    | (refine step_copy1 rowI rfl _ _ rfl w.heap.size (i + 1) (n + 1 - (i + 1)) (G - (i + 1)) (some ⟨w.heap.size, i + 1, none⟩) (some ⟨g, i, none⟩) (n - i) (cap - i) (by simp [Act.eval, Act.put]) (by simp [Act.eval, Act.put]) (overV D i [x]) (xs.drop i) (n - i) (by rw [List.length_drop, hxl]) (by simp only [Nat.min_def]; split <;> omega) (fun u hu => hxs.out u (List.mem_of_mem_drop hu)) hB2.drew (fun _ => ⟨rfl, _, rfl, hsrh.out _ (hgh.out _ hg2).drew⟩) (by rw [hL1.out]; omega) ?_; intro w3 hB3 hg3))
  go_wp2
  go_ret
  exact hpo.out _ _ ⟨hB2, hg2⟩ ⟨hB3, hg3⟩
/-- One value put between, at a place of the row. -/
theorem insI_any (hx : Box w vb #[x] 3) (hown : w.ownsRow base 3 1 v n xs) (hv : v.ownBlock ≠ some vb) (hi : i ≤ n) (hn : n ≤ 100000) (hone : ∀ u ∈ xs, u.oneCell' = true) (hone' : x.oneCell' = true) (hb : base ≤ w.heap.size) :
    Calls Tryz.prog 51 #[v, eI (i : Int), .slice (some ⟨vb, 0, none⟩) 1 1] w (InsI w base n i v x xs) := by
  by_cases hin : i = n
  · subst hin
    exact insI_end hx hown hn hone' hb
  · have hxl : xs.length = n := by have := hown.1; omega
    rcases hown.2 with ⟨rfl, h0⟩ | ⟨g, cap, cur, rfl, h1, h2, h3, h4, h5, h6⟩
    · omega
    · rw [Nat.mul_one] at h5 h6
      by_cases hr : n + 1 ≤ cap
      · exact insI_room hx g cap cur h2 h1 h4 h5 h6 hxl (fun e => hv (by rw [e]; rfl)) (by omega) hr hone hone'
      · exact insI_grow hx g cap cur h2 hb h4 h5 h6 hxl (by omega) h3 (by omega) hn hone hone'
end
end Go.Proofs.YtpopcnebndgblaaGreat.H

namespace Go.Proofs.YtpopcnebndgblaaGreat.H
open Go.RowKit Go.Lib Go.Sort Go.Shelf
set_option linter.unusedVariables false
set_option linter.unusedSimpArgs false
theorem drewN_below (w : World) (q : Nat) : Below w.heap.size w (w.drewN q) := ⟨rfl, rfl, rfl, Nat.le_refl _, fun _ _ => rfl⟩
section
variable {w : World} {base n : Nat} {v : Value} {zs : List Int}
theorem own_cellsI {g cap : Nat} (h : w.ownsRow base 3 1 (.slice (some ⟨g, 0, none⟩) n cap) n (zs.map eI)) : ∀ j, j < zs.length → w.cell? ⟨g, 0 + j, none⟩ = some (.int .i64 (zs.getD j 0)) := fun j hj => by
  have e := h.cells (g := g) rfl j (eI zs[j]) (by rw [List.getElem?_map, List.getElem?_eq_getElem hj]; rfl)
  rw [add_plain] at e
  rw [e]
  simp [List.getD, List.getElem?_eq_getElem hj]
theorem own_lenI (h : w.ownsRow base 3 1 v n (zs.map eI)) : zs.length = n := by simpa using h.1
theorem search_own (h : w.ownsRow base 3 1 v n (zs.map eI)) (hn : n ≤ 100000) (hs : zs.Pairwise (· ≤ ·)) (x : Int) :
    Calls Tryz.prog 50 #[v, eI x] w fun e w' => e = .returned (.tuple #[eI ((zs.countP (· < x) : Nat) : Int), .bool (zs.contains x)]) ∧ Below w.heap.size w w' := by
  have hl := own_lenI h
  rcases own_form h with ⟨rfl, rfl⟩ | ⟨g, cap, rfl, _⟩
  · obtain rfl : zs = [] := List.eq_nil_of_length_eq_zero hl
    refine (Tryz.slices_BinarySearch_int_empty none 0 x w).mono ?_
    rintro e w' ⟨rfl, rfl⟩
    exact ⟨by simp, Below.refl _ _⟩
  · have ht : zs.take n = zs := List.take_of_length_le (by omega)
    refine (Tryz.slices_BinarySearch_int g 0 n cap zs x w (by omega) (by omega) (own_cellsI h) (by rw [ht]; exact hs)).mono ?_
    rintro e w' ⟨rfl, q, rfl⟩
    rw [ht]
    exact ⟨rfl, drewN_below w q⟩
theorem sort_own (h : w.ownsRow base 3 1 v n (zs.map eI)) (hn : n ≤ 100000) :
    Calls Tryz.prog 58 #[v] w fun e w' => e = .returned (.tuple #[]) ∧ ∃ ts, ts = zs.mergeSort (fun x y => decide (x ≤ y)) ∧ w'.ownsRow base 3 1 v n (ts.map eI) ∧ w.grownBy w' v.ownBlock := by
  have hl := own_lenI h
  rcases own_form h with ⟨rfl, rfl⟩ | ⟨g, cap, rfl, hc, hb, hlt⟩
  · obtain rfl : zs = [] := List.eq_nil_of_length_eq_zero hl
    refine (Tryz.slices_Sort_int_none none 0 w).mono ?_
    rintro e w' ⟨rfl, rfl⟩
    exact ⟨rfl, [], by simp, World.ownsRow_nil _ _ _ _, World.grownBy.refl _ _⟩
  · obtain ⟨g', cap', e', _, _, _, _, _, hH⟩ := holds_of_ownsRow h (by intro e; cases e)
    cases e'
    subst hl
    refine (Tryz.slices_Sort_int g 0 cap zs w hH hlt (by omega)).mono ?_
    rintro e w' ⟨rfl, k, os, rfl⟩
    have hlen : (zs.mergeSort fun x y => decide (x ≤ y)).length = zs.length := List.length_mergeSort _
    rcases h.2 with ⟨e0, _⟩ | ⟨g', cap', cur, e0, h1, h2, h3, h4, h5, h6⟩
    · cases e0
    · cases e0
      exact ⟨rfl, _, rfl, ownsRow_sortedI hlen h1 h2 h3 h4 h5, grownBy_sortedI _⟩
/-- What unhang strikes: the closure, in whatever world holds the number. -/
theorem gives56 (lim x : Int) (B : Nat) (W : World) (hc : W.cell? ⟨B, 0, none⟩ = some (.int .i64 lim)) :
    FnGives Tryz.prog 56 #[.pointer (some ⟨B, 0, none⟩)] #[.int .i64 x] (.bool (x == lim)) W := by
  show Calls Tryz.prog 56 #[.int .i64 x, .pointer (some ⟨B, 0, none⟩)] W _
  go_enter Tryz.func56, Tryz.ntmps56
  go_wp2
  go_ret
  exact ⟨by simp_all, 0, rfl⟩
theorem pred56 (lim : Int) (B : Nat) (w : World) (hB : B < w.heap.size) (hcell : w.cell? ⟨B, 0, none⟩ = some (.int .i64 lim)) :
    PredAt Tryz.prog 56 #[.pointer (some ⟨B, 0, none⟩)] (Value.int .i64) (fun x => x == lim) w :=
  fun W x hb => gives56 lim x B W ((hb.cell (p := ⟨B, 0, none⟩) hB).trans hcell)
theorem over56 (lim : Int) (B blk off size : Nat) (w : World) (hB : B < w.heap.size) (hne : B ≠ blk) (hcell : w.cell? ⟨B, 0, none⟩ = some (.int .i64 lim)) :
    PredOver Tryz.prog 56 #[.pointer (some ⟨B, 0, none⟩)] (Value.int .i64) (fun x => x == lim) blk off size w :=
  fun n os dk x _ => gives56 lim x B _ (by
    unfold sortWorld
    rw [cell?_grow _ _ _ (by show B < (putRow _ _ _ _ _).heap.size; rw [size_putRow]; exact hB), cell?_putRow_other _ _ blk off _ _ (Or.inl hne)]
    exact hcell)
theorem delete_own (h : w.ownsRow base 3 1 v n (zs.map eI)) (hn : n ≤ 100000) (h0 : 0 < n) (lim : Int) (B : Nat) (t : TypeId) (hB : Box w B #[eI lim] t) (hne : v.ownBlock ≠ some B) :
    Calls Tryz.prog 55 #[v, .func (.func 56) #[] #[ptr B]] w fun e w' => ∃ g cap, e = .returned (.slice (some ⟨g, 0, none⟩) (zs.filter (fun x => x != lim)).length cap) ∧ v.ownBlock = some g ∧
      w'.ownsRow base 3 1 (.slice (some ⟨g, 0, none⟩) (zs.filter (fun x => x != lim)).length cap) (zs.filter (fun x => x != lim)).length ((zs.filter (fun x => x != lim)).map eI) ∧ w.grownBy w' (some g) := by
  have hl := own_lenI h
  have eg : ∀ args w, (callFunc 56 args).run Tryz.prog w = .ok (.enter 56 args) w := enters_of Tryz.func56 (by kernel_rfl) rfl
  rcases own_form h with ⟨_, e⟩ | ⟨g, cap, rfl, hc, hb, hlt⟩
  · omega
  · obtain ⟨g', cap', e', _, _, _, hmx, _, hH⟩ := holds_of_ownsRow h (by intro e; cases e)
    cases e'
    have hcell := hB.cell 0
    have hBg : B ≠ g := fun e => hne (by rw [e]; rfl)
    have hcon := AnyE.slices_DeleteFunc Tryz.dl10 (Value.int .i64) (fun _ => rfl) (fun x => x == lim) 56 #[.pointer (some ⟨B, 0, none⟩)] eg 0 Tryz.zeroValue3 g 0 cap zs.toArray w
      (pred56 lim B w hB.lt hcell) (over56 lim B g 0 zs.toArray.size w hB.lt hBg hcell) hH (by simp; omega) (by simpa [hl] using hc)
    change Calls Tryz.prog 55 _ _ _ at hcon
    rw [List.size_toArray, hl] at hcon
    refine hcon.mono ?_
    rintro e w' ⟨rfl, q, rfl⟩
    have ef : (zs.toArray.toList.filter fun x => !(x == lim)) = zs.filter (fun x => x != lim) := rfl
    rw [ef]
    have hle : (zs.filter (fun x => x != lim)).length ≤ n := by rw [← hl]; exact List.length_filter_le _ _
    have ho := ownsRow_putRow (q := q) (k := (zs.filter (fun x => x != lim)).length) (ys := zs.filter (fun x => x != lim) ++ List.replicate (n - (zs.filter (fun x => x != lim)).length) 0) h (by simp; omega) hle
    rw [List.take_left] at ho
    refine ⟨g, cap, rfl, rfl, ho, ?_⟩
    exact ⟨rfl, rfl, rfl, by simp, fun k hk hk2 => by
      have : g ≠ k := fun e => hk2 (by rw [e])
      simp [putRow, mapBlock, Sort.ahead, Array.getElem?_modify, this]⟩
/-- A copy of a row of numbers. -/
theorem clone_own (h : w.ownsRow base 3 1 v n (zs.map eI)) (hn : n ≤ 100000) :
    Calls Tryz.prog 41 #[v] w fun e w' => ∃ v', e = .returned v' ∧ w'.ownsRow w.heap.size 3 1 v' n (zs.map eI) ∧ Below w.heap.size w w' := by
  have hl := own_lenI h
  rcases own_form h with ⟨rfl, rfl⟩ | ⟨g, cap, rfl, hc, hb, hlt⟩
  · obtain rfl : zs = [] := List.eq_nil_of_length_eq_zero hl
    refine (Tryz.slices_Clone_int_nil 0 0 w).mono ?_
    rintro e w' ⟨rfl, rfl⟩
    exact ⟨_, rfl, World.ownsRow_nil _ _ _ _, Below.refl _ _⟩
  · refine (Tryz.slices_Clone_int g 0 n cap zs w (by omega) (by omega) (own_cellsI h)).mono ?_
    rintro e w' ⟨v', rfl, h1, _, h2⟩
    rw [List.take_of_length_le (by omega)] at h1
    exact ⟨v', rfl, h1, h2⟩
end
end Go.Proofs.YtpopcnebndgblaaGreat.H

namespace Go.Proofs.YtpopcnebndgblaaGreat.H
open Go.ChangeShapes Go.WideShapes Go.Deep Go.RowKit
set_option linter.unusedVariables false
set_option linter.unusedSimpArgs false
section
variable {P : Program} {ops : Array Oper} {rest : List Oper} {o : Oper} {a : Act} {w : World} {Q : Exit → Act → World → Prop} {K : Act → World → Prop} {E : Prop}
/-- One cell is stored in a block. -/
theorem wl_put (ty : TypeId) {x y : Operand} {B k : Nat} {c c' : Array Value} {t : TypeId} {v : Value} (hB : Box w B c t) (hgd : o.guard = none) (ho : o.op = .store ty x y) (hx : a.eval x = .pointer (some ⟨B, k, none⟩)) (hy : a.eval y = v)
    (hv : v.cells = #[v]) (h1 : v.oneCell' = true) (hi : (P.info? ty).map (·.size) = some 1) (hs : k < c.size) (hc : c.setIfInBounds k v = c')
    (h : ∀ w', Box w' B c' t → But B w w' → wpList P ops Q rest (a.put o.dst undef) w') : wpList P ops Q (o :: rest) a w := by
  have hst : (storeVar ty ⟨B, k, none⟩ v).run P w = .ok () (w.setCell ⟨B, k, none⟩ v) := by
    have := run_storeCells_cells (P := P) B k [v] 0 w (fun j hj => by simpa using ((hB.there (o := k) (n := 1) (by omega)) j (by simpa using hj)).1) (fun j hj => by simpa using ((hB.there (o := k) (n := 1) (by omega)) j (by simpa using hj)).2)
      (fun u hu => by
        have e : u = v := by simpa using hu
        rw [e]; exact h1)
    cases hq : P.info? ty with
    | none => simp [hq] at hi
    | some i =>
      have hs : i.size = 1 := by simpa [hq] using hi
      simp only [Nat.add_zero] at this
      simp [storeVar, sizeOf, typeInfo, hq, hv, hs, this, World.setCells]
  refine wpList_plain hgd fun K hK => ?_
  unfold Oper.wp execOp
  simp only [ho, hx, hy, Instr.storeAt, Instr.sureAddr, Sem.run_bind, Sem.run_pure, Result.andThen_ok, hst]
  exact hK _ _ (h _ (by rw [← hc]; exact hB.set k v) ((But.refl B w).set k v))
/-- One cell is loaded from a block. -/
theorem xl_cell (ty : TypeId) {x : Operand} {B k : Nat} {c : Array Value} {t : TypeId} {v : Value} {d : TypeDesc} (hB : Box w B c t) (ho : o.op = .load ty x) (hx : a.eval x = .pointer (some ⟨B, k, none⟩))
    (hu : P.underlying ty = some d) (hd : d.isRow = false) (hc : c[k]? = some v) : (execOp a.eval o).run P w = .ok (.value v) w := by
  have hl : (loadVar ty ⟨B, k, none⟩).run P w = .ok v w := by
    have hagg : (isAgg ty).run P w = .ok false w := by
      unfold isAgg
      rw [Sem.run_bind, run_underlying hu w]
      cases d <;> simp_all
    have hcell : w.cell? ⟨B, k, none⟩ = some v := (hB.cell k).trans hc
    simp [loadVar, Sem.run_bind, hagg, run_load, hcell]
  unfold execOp
  simp only [ho, hx, Instr.loadAt, Instr.sureAddr, Sem.run_bind, Sem.run_pure, Result.andThen_ok, hl]
theorem xl_build (t : TypeId) {parts : List (Nat × Operand)} {c : Array Value} (hc : P.built t (parts.map fun x => (x.1, a.eval x.2)) = some c) (ho : o.op = .build t parts.toArray) : (execOp a.eval o).run P w = .ok (.value (.agg c)) w := by
  have e : P.built t (parts.toArray.map fun x => (x.1, a.eval x.2)).toList = some c := by
    rw [← hc]
    congr 1
    simp
  have h := run_build (P := P) w t (parts.toArray.map fun x => (x.1, a.eval x.2)) c e
  unfold execOp
  simp only [ho, Sem.run_bind, Sem.run_pure]
  rw [show (Instr.build t (parts.toArray.map fun x => (x.1, a.eval x.2))).run P w = _ from h]
  rfl
theorem xl_build0 (t : TypeId) {c : Array Value} (hc : P.built t [] = some c) (ho : o.op = .build t #[]) : (execOp a.eval o).run P w = .ok (.value (.agg c)) w := xl_build (parts := []) t hc ho
/-- In a region: an operation that yields a value. -/
theorem st_run {v : Value} (hr : (execOp a.eval o).run P w = .ok (.value v) w) (hw : Region.wanted o (yielded ops a.tmps) = true) (h : K (a.put o.dst v) w) : if Region.wanted o (yielded ops a.tmps) = true then Oper.wp P o a w K Q else E := by
  rw [if_pos hw]
  unfold Oper.wp
  rw [hr]
  exact h
/-- In a region: a row is stored in a block. -/
theorem st_store (ty : TypeId) {x y : Operand} {B k n : Nat} {c vs c' : Array Value} {t : TypeId} (hB : Box w B c t) (hw : Region.wanted o (yielded ops a.tmps) = true) (ho : o.op = .store ty x y) (hx : a.eval x = .pointer (some ⟨B, k, none⟩)) (hy : a.eval y = .agg vs)
    (hi : (P.info? ty).map (·.size) = some n) (hn : vs.size = n) (hs : k + n ≤ c.size) (h1 : vs.all (·.oneCell') = true) (hc : spl c k vs.toList = c')
    (h : ∀ w', Box w' B c' t → But B w w' → K (a.put o.dst undef) w') : if Region.wanted o (yielded ops a.tmps) = true then Oper.wp P o a w K Q else E := by
  rw [if_pos hw]
  subst hn
  have hl : ∀ j, j < vs.toList.length → (w.cell? ⟨B, k + j, none⟩).isSome = true ∧ w.frozen? ⟨B, k + j, none⟩ = false := fun j hj => hB.there (o := k) (n := vs.size) hs j (by simpa using hj)
  have hst := run_storeCells_cells (P := P) B k vs.toList 0 w (fun j hj => by simpa using (hl j hj).1) (fun j hj => by simpa using (hl j hj).2) (fun u hu => by
    have := (Array.all_eq_true'.1 h1) u (by simpa using hu)
    exact this)
  simp only [Nat.add_zero] at hst
  have hsv : (storeVar ty ⟨B, k, none⟩ (.agg vs)).run P w = .ok () (w.setCells B k vs.toList) := by
    cases hq : P.info? ty with
    | none => simp [hq] at hi
    | some i =>
      have hs : i.size = vs.size := by simpa [hq] using hi
      simp [storeVar, sizeOf, typeInfo, hq, Value.cells, hs, hst]
  unfold Oper.wp execOp
  simp only [ho, hx, hy, Instr.storeAt, Instr.sureAddr, Sem.run_bind, Sem.run_pure, Result.andThen_ok, hsv]
  refine h _ ?_ (But.setCells vs.toList k w w (But.refl B w))
  rw [← hc]
  exact Box.setCells (W := w) vs.toList k w c hB
end
section
variable {ops : Array Oper} {rest : List Oper} {o : Oper} {a : Act} {w : World} {Q : Exit → Act → World → Prop} {K : Act → World → Prop} {E : Prop} {b : Nat} {F : Int → Value} {ks : List Int}
/-- A class is laid into a map. -/
theorem wl_upd {m x v : Operand} (hgd : o.guard = none) (ho : o.op = .mapUpdate 46 m x v ∨ o.op = .insert 46 m x v) (h : MapV w b F ks) (hc : ks.length ≤ 5000) (hm : a.eval m = .map (some b)) (k : Int) (hx : a.eval x = eI k) (hk : I64 k) (u : Value) (hv : a.eval v = u)
    (hK : ∀ w', MapV w' b (fun j => if j = k then u else F j) (if k ∈ ks then ks else k :: ks) → But b w w' → w'.heap.size = w.heap.size → wpList Tryz.prog ops Q rest (a.put o.dst undef) w') : wpList Tryz.prog ops Q (o :: rest) a w := by
  refine wpList_plain hgd fun K' hK' => ?_
  obtain ⟨w', hrun, r1, r2, r3⟩ := h.upd hc u hk
  unfold Oper.wp
  rcases ho with ho | ho
  · simp [execOp, ho, hm, hx, hv, hrun, Result.andThen]
    exact hK' _ _ (hK w' r1 r2 r3)
  · simp [execOp, ho, hm, hx, hv, hrun, Result.andThen]
    exact hK' _ _ (hK w' r1 r2 r3)
theorem st_upd {m x v : Operand} (hw : Region.wanted o (yielded ops a.tmps) = true) (ho : o.op = .mapUpdate 46 m x v) (h : MapV w b F ks) (hc : ks.length ≤ 5000) (hm : a.eval m = .map (some b)) (k : Int) (hx : a.eval x = eI k) (hk : I64 k) (u : Value) (hv : a.eval v = u)
    (hK : ∀ w', MapV w' b (fun j => if j = k then u else F j) (if k ∈ ks then ks else k :: ks) → But b w w' → w'.heap.size = w.heap.size → K (a.put o.dst undef) w') : if Region.wanted o (yielded ops a.tmps) = true then Oper.wp Tryz.prog o a w K Q else E := by
  rw [if_pos hw]
  obtain ⟨w', hrun, r1, r2, r3⟩ := h.upd hc u hk
  unfold Oper.wp
  simp [execOp, ho, hm, hx, hv, hrun, Result.andThen]
  exact hK w' r1 r2 r3
theorem wl_del {m x : Operand} (hgd : o.guard = none) (ho : o.op = .call { callee := .builtin .delete, args := #[m, x], argTypes := #[46, 3] }) (h : MapV w b F ks) (hm : a.eval m = .map (some b)) (k : Int) (hx : a.eval x = eI k) (hk : I64 k)
    (hK : ∀ w', MapV w' b (fun j => if j = k then zK else F j) (ks.filter (fun j => j != k)) → But b w w' → w'.heap.size = w.heap.size → wpList Tryz.prog ops Q rest (a.put o.dst (.tuple #[])) w') : wpList Tryz.prog ops Q (o :: rest) a w := by
  refine wpList_plain hgd fun K' hK' => ?_
  obtain ⟨w', hrun, r1, r2, r3⟩ := h.del hk o.type
  unfold Oper.wp
  simp [execOp, ho, resolve, invoke, builtin, hm, hx, hrun, Result.andThen]
  exact hK' _ _ (hK w' r1 r2 r3)
theorem wl_len {m : Operand} (hgd : o.guard = none) (ho : o.op = .call { callee := .builtin .len, args := #[m], argTypes := #[46] }) (h : MapV w b F ks) (hm : a.eval m = .map (some b))
    (hK : wpList Tryz.prog ops Q rest (a.put o.dst (eI (ks.length : Int))) w) : wpList Tryz.prog ops Q (o :: rest) a w := by
  refine wpList_plain hgd fun K' hK' => ?_
  unfold Oper.wp
  simp [execOp, ho, resolve, invoke, builtin, hm, h.len o.type, Result.andThen]
  exact hK' _ _ hK
end
section
variable {P : Program} {ops : Array Oper} {rest : List Oper} {o : Oper} {a : Act} {w : World} {Q : Exit → Act → World → Prop} {K : Act → World → Prop} {E : Prop}
theorem run_sl (t e : TypeId) {v : Value} {cells : Array Value} (hu : P.underlying t = some (.slice e)) (hf : P.builtSlice e 1 [(0, v)] = some cells) : (Instr.buildSlice t 1 #[(0, v)]).run P w = .ok (.slice (some ⟨w.heap.size, 0, none⟩) 1 1) (w.alloc (.cells cells e)) := by
  unfold Program.builtSlice at hf
  cases hie : P.info? e with
  | none => simp [hie] at hf
  | some ie =>
    simp only [hie] at hf
    cases hz : ie.zero with
    | none => simp [hz] at hf
    | some z =>
      simp only [hz] at hf
      by_cases hc : 1 * ie.size > 2 ^ 24 ∨ 1 * ie.size = 0
      · rw [if_pos hc] at hf; cases hf
      · rw [if_neg hc] at hf
        exact run_buildSlice w t e 1 _ cells ie z hu hie hz (fun h' => hc (Or.inl h')) (fun h' => hc (Or.inr h')) hf
/-- A slice of one value, made now. -/
theorem wl_sl (t e : TypeId) {x : Operand} {v : Value} {cells : Array Value} (hgd : o.guard = none) (ho : o.op = .buildSlice t 1 #[(0, x)]) (hx : a.eval x = v) (hu : P.underlying t = some (.slice e)) (hf : P.builtSlice e 1 [(0, v)] = some cells)
    (h : ∀ w', Box w' w.heap.size cells e → Below w.heap.size w w' → wpList P ops Q rest (a.put o.dst (.slice (some ⟨w.heap.size, 0, none⟩) 1 1)) w') : wpList P ops Q (o :: rest) a w := by
  refine wpList_plain hgd fun K hK => ?_
  have hr := run_sl (w := w) t e hu hf
  unfold Oper.wp execOp
  simp only [ho, List.map_toArray, List.map_cons, List.map_nil, hx, Sem.run_bind, hr, Result.andThen_ok]
  exact hK _ _ (h _ (Box.new w e cells) (up1 w _))
theorem st_sl (t e : TypeId) {x : Operand} {v : Value} {cells : Array Value} (hw : Region.wanted o (yielded ops a.tmps) = true) (ho : o.op = .buildSlice t 1 #[(0, x)]) (hx : a.eval x = v) (hu : P.underlying t = some (.slice e)) (hf : P.builtSlice e 1 [(0, v)] = some cells)
    (h : ∀ w', Box w' w.heap.size cells e → Below w.heap.size w w' → K (a.put o.dst (.slice (some ⟨w.heap.size, 0, none⟩) 1 1)) w') : if Region.wanted o (yielded ops a.tmps) = true then Oper.wp P o a w K Q else E := by
  rw [if_pos hw]
  have hr := run_sl (w := w) t e hu hf
  unfold Oper.wp execOp
  simp only [ho, List.map_toArray, List.map_cons, List.map_nil, hx, Sem.run_bind, hr, Result.andThen_ok]
  exact h _ (Box.new w e cells) (up1 w _)
theorem run_sl0 (t e : TypeId) {n : Nat} (hu : P.underlying t = some (.slice e)) (hi : (P.info? e).map (·.size) = some n) : (Instr.buildSlice t 0 #[]).run P w = .ok (.slice (some ⟨w.heap.size, 0, none⟩) 0 0) (w.alloc (.cells #[] e)) := by
  cases hie : P.info? e with
  | none => simp [hie] at hi
  | some ie =>
    simp [Instr.buildSlice, run_underlying hu, sizeOf, typeInfo, hie, Instr.fill, newRow]
    rw [show Array.range 0 = (#[] : Array Nat) from Array.eq_empty_of_size_eq_zero (by simp), Array.map_empty]
    try rfl
/-- An empty slice, made now. -/
theorem wl_sl0 (t e : TypeId) {n : Nat} (hgd : o.guard = none) (ho : o.op = .buildSlice t 0 #[]) (hu : P.underlying t = some (.slice e)) (hi : (P.info? e).map (·.size) = some n)
    (h : ∀ w', Box w' w.heap.size #[] e → Below w.heap.size w w' → wpList P ops Q rest (a.put o.dst (.slice (some ⟨w.heap.size, 0, none⟩) 0 0)) w') : wpList P ops Q (o :: rest) a w := by
  refine wpList_plain hgd fun K hK => ?_
  have hr := run_sl0 (w := w) t e hu hi
  unfold Oper.wp execOp
  simp only [ho, List.map_toArray, List.map_nil, Sem.run_bind, hr, Result.andThen_ok]
  exact hK _ _ (h _ (Box.new w e #[]) (up1 w _))
theorem st_sl0 (t e : TypeId) {n : Nat} (hw : Region.wanted o (yielded ops a.tmps) = true) (ho : o.op = .buildSlice t 0 #[]) (hu : P.underlying t = some (.slice e)) (hi : (P.info? e).map (·.size) = some n)
    (h : ∀ w', Box w' w.heap.size #[] e → Below w.heap.size w w' → K (a.put o.dst (.slice (some ⟨w.heap.size, 0, none⟩) 0 0)) w') : if Region.wanted o (yielded ops a.tmps) = true then Oper.wp P o a w K Q else E := by
  rw [if_pos hw]
  have hr := run_sl0 (w := w) t e hu hi
  unfold Oper.wp execOp
  simp only [ho, List.map_toArray, List.map_nil, Sem.run_bind, hr, Result.andThen_ok]
  exact h _ (Box.new w e #[]) (up1 w _)
end
section
variable {P : Program} {ops : Array Oper} {rest : List Oper} {o : Oper} {a : Act} {w : World} {Q : Exit → Act → World → Prop}
/-- A new variable of one cell. -/
theorem wl_box1 (t : TypeId) {x : Operand} {v : Value} (hgd : o.guard = none) (ho : o.op = .box t x) (hx : a.eval x = v) (hv : v.cells = #[v])
    (h : ∀ w', Box w' w.heap.size #[v] t → Below w.heap.size w w' → wpList P ops Q rest (a.put o.dst (.pointer (some ⟨w.heap.size, 0, none⟩))) w') : wpList P ops Q (o :: rest) a w := by
  refine wpList_plain hgd fun K hK => ?_
  unfold Oper.wp execOp
  simp only [ho, hx, Sem.run_bind, Instr.box, newVar, newRow, run_newObj_alloc, Sem.run_pure, Result.andThen_ok, hv]
  exact hK _ _ (h _ (Box.new w t #[v]) (up1 w _))
end
theorem bsl3 (x : Int) : Tryz.prog.builtSlice 3 1 [(0, eI x)] = some #[eI x] := by kernel_rfl
theorem bsl34 (p : Sp) : Tryz.prog.builtSlice 34 1 [(0, .agg (sV p))] = some (sV p) := by kernel_rfl
theorem size3 : (Tryz.prog.info? 3).map (·.size) = some 1 := by kernel_rfl
theorem size53 : (Tryz.prog.info? 53).map (·.size) = some 1 := by kernel_rfl
theorem size46 : (Tryz.prog.info? 46).map (·.size) = some 1 := by kernel_rfl
theorem size27 : (Tryz.prog.info? 27).map (·.size) = some 1 := by kernel_rfl
end Go.Proofs.YtpopcnebndgblaaGreat.H

namespace Go.Proofs.YtpopcnebndgblaaGreat.H
open Go.ChangeShapes Go.WideShapes Go.Deep Go.RowKit
set_option linter.unusedVariables false
set_option linter.unusedSimpArgs false
theorem results_cell_two {P : Program} {fn : Func} {p q : Tmp} {ty : TypeId} (h : fn.results = #[.cell p ty, .tmp q]) (tmps : Array Value) (w : World) (g : Nat) (t : TypeId) (cs : Array Value) (v : Value) (d : TypeDesc)
    (hp : tmps.getD p undef = .pointer (some ⟨g, 0, none⟩)) (hv : tmps.getD q undef = v) (hg : Box w g cs t)
    (hu : P.underlying ty = some d) (hd : (match d with | .struct _ | .array _ _ => true | _ => false) = true) (hi : (P.info? ty).map (·.size) = some cs.size) :
    (results fn tmps).run P w = .ok (.tuple #[.agg cs, v]) w := by
  have hp' : tmps[p]?.getD undef = .pointer (some ⟨g, 0, none⟩) := by simpa using hp
  have hv' : tmps[q]?.getD undef = v := by simpa using hv
  simp [results, h, hp', hv', asAddr, run_loadVar_row w g t ty cs (0, 0) d hg hu hd hi]
/-! ### Frames -/
section
variable {S : Nat → Prop} {w x y : World}
theorem Off.refl (w : World) : Off S w w := Off.of (Below.refl _ _)
theorem Off.up (E : Off S w x) (h : Below x.heap.size x y) : Off S w y :=
  ⟨h.os.trans E.os, h.tape.trans E.tape, h.output.trans E.output, Nat.le_trans E.size h.size, fun k hk hn => (h.block k (Nat.lt_of_lt_of_le hk E.size)).trans (E.block k hk hn)⟩
theorem Off.but {b : Nat} (E : Off S w x) (h : But b x y) (hb : w.heap.size ≤ b ∨ S b) : Off S w y :=
  ⟨h.os.trans E.os, h.tape.trans E.tape, h.output.trans E.output, Nat.le_trans E.size h.size, fun k hk hn => (h.block k (Nat.lt_of_lt_of_le hk E.size) (by
    rintro rfl
    rcases hb with hb | hb
    · omega
    · exact hn hb)).trans (E.block k hk hn)⟩
theorem Off.grow {row : Option Nat} (E : Off S w x) (h : x.grownBy y row) (hr : ∀ g, row = some g → w.heap.size ≤ g ∨ S g) : Off S w y :=
  ⟨h.os.trans E.os, h.tape.trans E.tape, h.output.trans E.output, Nat.le_trans E.size h.size, fun k hk hn => (h.block k (Nat.lt_of_lt_of_le hk E.size) (by
    intro e
    rcases hr k e.symm with hb | hb
    · omega
    · exact hn hb)).trans (E.block k hk hn)⟩
end
theorem Below.but {b : Nat} {w x y : World} (E : Below w.heap.size w x) (h : But b x y) (hb : w.heap.size ≤ b) : Below w.heap.size w y := h.up E hb
/-! ### The tree -/
def adr (g : Option Nat) : Option Addr := g.map fun b => ⟨b, 0, none⟩
theorem adr_own (g : Option Nat) (n c : Nat) : (Value.slice (adr g) n c).ownBlock = g := by cases g <;> rfl
/-- A tree in block B, its map in block bm: S are the specs, R the rows, in the blocks G, ks the keys. -/
structure T0 (w : World) (χ : Nat → Nat) (c B bm : Nat) (G : Int → Option Nat) (Cp : Int → Nat) (S : Int → Sp) (R : Int → List Int) (ks : List Int) : Prop where
  box : Box w B #[.map (some bm)] 48
  colB : χ B = c
  colM : χ bm = c
  map : MapV w bm (fun k => .agg (kV (S k) (adr (G k)) (R k).length (Cp k))) ks
  rows : ∀ k, w.ownsRow 0 3 1 (.slice (adr (G k)) (R k).length (Cp k)) (R k).length ((R k).map eI)
  colR : ∀ k g, G k = some g → χ g = c
  apart : ∀ j k g, j ≠ k → G j = some g → G k ≠ some g
  few : ∀ k, (R k).length ≤ 64
  many : ks.length ≤ 65
section
variable {w w' : World} {χ χ' : Nat → Nat} {c d B bm : Nat} {G : Int → Option Nat} {Cp : Int → Nat} {S : Int → Sp} {R : Int → List Int} {ks : List Int}
theorem T0.off {Z : Nat → Prop} (h : T0 w χ c B bm G Cp S R ks) (ho : Off Z w w') (hn : ∀ k, χ k = c → ¬ Z k) (hc : ∀ k, k < w.heap.size → χ' k = χ k) : T0 w' χ' c B bm G Cp S R ks where
  box := ho.box h.box (hn B h.colB)
  colB := (hc B h.box.lt).trans h.colB
  colM := (hc bm h.map.lt).trans h.colM
  map := h.map.off ho (hn bm h.colM)
  rows := fun k => ho.owns (h.rows k) (fun g e => hn g (h.colR k g (by rw [← adr_own (G k) (R k).length (Cp k)]; exact e)))
  colR := fun k g e => (hc g ((h.rows k).lt g (by rw [adr_own]; exact e)).2).trans (h.colR k g e)
  apart := h.apart
  few := h.few
  many := h.many
theorem T0.below (h : T0 w χ c B bm G Cp S R ks) (hb : Below w.heap.size w w') : T0 w' χ c B bm G Cp S R ks :=
  h.off (Z := fun _ => False) (Off.of hb) (fun _ _ h => h) (fun _ _ => rfl)
theorem T0.other (h : T0 w χ c B bm G Cp S R ks) (k : Col χ χ' d w w') (hd : c ≠ d) : T0 w' χ' c B bm G Cp S R ks :=
  h.off (Z := fun b => χ b = d) ⟨k.os, k.tape, k.output, k.size, fun i hi hn => k.block i hi hn⟩ (fun b e g => hd (e.symm.trans g)) k.col
theorem T0.new (h : T0 w χ c B bm G Cp S R ks) (hb : Below w.heap.size w w') (d : Nat) : T0 w' (recol χ w.heap.size d) c B bm G Cp S R ks :=
  h.off (Z := fun _ => False) (Off.of hb) (fun _ _ h => h) (fun _ hk => recol_lt hk)
theorem T0.neM (h : T0 w χ c B bm G Cp S R ks) : B ≠ bm := fun e => h.map.unbox _ _ (e ▸ h.box)
theorem T0.rowB (h : T0 w χ c B bm G Cp S R ks) {k : Int} {g : Nat} (e : G k = some g) : g ≠ B ∧ g ≠ bm := by
  have hr := h.rows k
  rcases own_form hr with ⟨e', _⟩ | ⟨g', cap, e', _⟩
  · cases hg : G k with
    | none => rw [hg] at e; cases e
    | some q => rw [hg] at e'; cases e'
  · have ho := adr_own (G k) (R k).length (Cp k)
    rcases hr.2 with ⟨e1, _⟩ | ⟨g1, cap1, cur, e1, _, hb, _⟩
    · rw [e1] at e'; cases e'
    · rw [e1] at ho
      have : some g1 = G k := ho
      rw [e] at this
      cases this
      refine ⟨?_, ?_⟩
      · rintro rfl
        exact box_ne h.box (show Box w g cur 3 from hb) (by decide) rfl
      · rintro rfl
        exact h.map.unbox _ _ (show Box w g cur 3 from hb)
/-! ### What reads -/
theorem ptr_ne (q : Nat) (W : World) : (binOp .neq 24 (ptr q) (.pointer none)).run Tryz.prog W = .ok (.bool true) W := by kernel_rfl
theorem ptr_eq (q : Nat) (W : World) : (binOp .eql 24 (ptr q) (.pointer none)).run Tryz.prog W = .ok (.bool false) W := by kernel_rfl
theorem nil_eq (W : World) : (binOp .eql 24 (.pointer none) (.pointer none)).run Tryz.prog W = .ok (.bool true) W := by kernel_rfl
theorem nil_ne (W : World) : (binOp .neq 24 (.pointer none) (.pointer none)).run Tryz.prog W = .ok (.bool false) W := by kernel_rfl
theorem map_ne (q : Nat) (W : World) : (binOp .neq 46 (.map (some q)) (.map none)).run Tryz.prog W = .ok (.bool true) W := by kernel_rfl
theorem map_ne0 (W : World) : (binOp .neq 46 (.map none) (.map none)).run Tryz.prog W = .ok (.bool false) W := by kernel_rfl
theorem undef_ne (b : Bool) : ¬ undef = Value.bool b := fun h => by cases h
theorem made_yes {w : World} {B q : Nat} (h : Box w B #[.map (some q)] 48) : Calls Tryz.prog 29 #[ptr B] w fun e w' => e = .returned (.bool true) ∧ w = w' := by
  have c0 := h.cell 0
  have hm := map_ne q
  go_enter Tryz.func29, Tryz.ntmps29
  go_wp2
  go_ret
  exact ⟨rfl, rfl⟩
theorem made_zero {w : World} {B : Nat} (h : Box w B #[.map none] 48) : Calls Tryz.prog 29 #[ptr B] w fun e w' => e = .returned (.bool false) ∧ w = w' := by
  have c0 := h.cell 0
  have hm := map_ne0
  go_enter Tryz.func29, Tryz.ntmps29
  go_wp2
  go_ret
  exact ⟨rfl, rfl⟩
theorem made_nil (w : World) : Calls Tryz.prog 29 #[.pointer none] w fun e w' => e = .returned (.bool false) ∧ w = w' := by
  have hu := undef_ne
  go_enter Tryz.func29, Tryz.ntmps29
  go_wp2
  go_ret
  exact ⟨rfl, rfl⟩
set_option maxHeartbeats 4000000 in
set_option maxRecDepth 100000 in
theorem at_any (h : T0 w χ c B bm G Cp S R ks) {k : Int} (hk : I64 k) :
    Calls Tryz.prog 38 #[ptr B, eI k] w fun e w' => e = .returned (.agg (kV (S k) (adr (G k)) (R k).length (Cp k))) ∧ Below w.heap.size w w' := by
  have hp := ptr_eq B
  go_enter Tryz.func38, Tryz.ntmps38
  go_upto_region 1 with (first
    | (refine wl_alloc 62 rfl rfl zero62 ?_; intro w1 X1 T1; have h1 := h.below T1; have hl := h1.map.look hk; have c0 := h1.box.cell 0))
  clear h h1
  go_wp2_with (first
    | (refine wl_store 62 X1 rfl rfl rfl rfl size62 rfl (by omega : 0 + 15 ≤ 15) (kV_one _ _ _ _) (spl_kk _ _ _ _ _ _ _ _) ?_; intro w2 X2 K2))
  refine bodyPost_ret (v := .agg (kV (S k) (adr (G k)) (R k).length (Cp k))) ?_ rfl ⟨rfl, K2.up T1 (Nat.le_refl _)⟩
  exact results_cell_row rfl _ _ _ _ _ _ _ rfl X2 Tryz.underlying62 rfl size62
end
end Go.Proofs.YtpopcnebndgblaaGreat.H

namespace Go.Proofs.YtpopcnebndgblaaGreat.H
open Go.ChangeShapes Go.WideShapes Go.Deep Go.RowKit
set_option linter.unusedVariables false
set_option linter.unusedSimpArgs false
section
variable {w w' : World} {χ χ' : Nat → Nat} {c d B bm : Nat} {G : Int → Option Nat} {Cp : Int → Nat} {S : Int → Sp} {R : Int → List Int} {ks : List Int}
set_option maxHeartbeats 4000000 in
set_option maxRecDepth 100000 in
theorem xl_neb34 {o : Oper} {a : Act} {w : World} {x y : Operand} {p q : Sp} {t : TypeId} {b : Bool} (hb : (binOp .neq 34 (.agg (sV p)) (.agg (sV q))).run Tryz.prog w = .ok (.bool b) w) (ho : o.op = .binOp .neq 34 x y t) (hx : a.eval x = .agg (sV p)) (hy : a.eval y = .agg (sV q)) : (execOp a.eval o).run Tryz.prog w = .ok (.value (.bool b)) w := by
  unfold execOp
  simp only [ho, hx, hy, Sem.run_bind, run_eqGuard_agg w .neq 34 x y _ _ Tryz.eqGuardType34, Result.andThen_ok, hb, Sem.run_pure]
set_option maxHeartbeats 4000000 in
set_option maxRecDepth 100000 in
theorem get_of {v : Value} {p : Sp} {a : Option Addr} {n q : Nat} {k : Int} (hA : ∀ W, Below w.heap.size w W → Calls Tryz.prog 38 #[v, eI k] W fun e w' => e = .returned (.agg (kV p a n q)) ∧ Below W.heap.size W w') :
    Calls Tryz.prog 20 #[v, eI k] w fun e w' => e = .returned (.tuple #[.agg (sV p), .bool (!decide (p = Sp.zero))]) ∧ Below w.heap.size w w' := by
  have hf := kfield0 p a n q
  have hb := ne34 p Sp.zero
  obtain ⟨bz, hbz⟩ : ∃ b, (!decide (p = Sp.zero)) = b := ⟨_, rfl⟩
  rw [hbz] at ⊢
  simp only [hbz] at hb
  clear hbz
  go_enter Tryz.func20, Tryz.ntmps20
  go_upto_region 2 with (first
    | (refine wl_alloc 34 rfl rfl zero34 ?_; intro w1 X1 T1; have hA1 := hA w1 T1)
    | (go_at_call 38; (with_reducible refine hA1.mono ?_); rintro e w2 ⟨rfl, T2⟩; have X2 := X1.below T2; have S2 := ups T1 T2 T1.size)
    | (refine wl_alloc 34 rfl rfl zero34 ?_; intro w3 X3 T3; have Y3 := X2.below T3; have S3 := ups S2 T3 S2.size)
    | (refine wl_store 34 X3 rfl rfl rfl rfl size34 rfl (by omega : 0 + 14 ≤ 14) (sV_one _) (spl_ss _ _) ?_; intro w4 X4 K4; have Y4 := K4.box Y3 (Nat.ne_of_lt X2.lt); have S4 := K4.up S3 S2.size))
  have Y5 := Y4.drew
  have S5 := S4.drew
  have hn5 : w2.heap.size ≠ w.heap.size := Nat.ne_of_gt X2.lt
  refine wp_region_held_drew (S := fun W => Box W w2.heap.size (sV p) 34) (by kernel_rfl) X4.drew (fun hHeld => ?_)
  refine wpAnyH_take (i := 0) (v := .agg (sV p)) (by simp only [List.getElem?_toArray, List.getElem?_cons_zero]; rfl) (by kernel_rfl) (by kernel_rfl) (by kernel_rfl) (by exact fun _ _ _ h => h) (Or.inl ⟨by rfl, fun w hSw => xl_load 34 hSw rfl rfl Tryz.underlying34 rfl size34 (by omega : 0 + 14 ≤ 14) (sV_all _)⟩) (by assumption) ?_
  try simp only [Act.put, List.setIfInBounds_toArray, List.set_cons_zero, List.set_cons_succ]
  refine wpAnyH_take (i := 1) (v := .agg (sV p)) (by simp only [List.getElem?_toArray, List.getElem?_cons_zero, List.getElem?_cons_succ]; rfl) (by kernel_rfl) (by kernel_rfl) (by kernel_rfl) (by exact fun _ _ _ h => h) (Or.inl ⟨by rfl, fun w hSw => xl_load 34 hSw rfl rfl Tryz.underlying34 rfl size34 (by omega : 0 + 14 ≤ 14) (sV_all _)⟩) (by assumption) ?_
  try simp only [Act.put, List.setIfInBounds_toArray, List.set_cons_zero, List.set_cons_succ]
  refine wpAnyH_take (i := 2) (v := .agg (sV Sp.zero)) (by simp only [List.getElem?_toArray, List.getElem?_cons_zero, List.getElem?_cons_succ]; rfl) (by kernel_rfl) (by kernel_rfl) (by kernel_rfl) (by exact fun _ _ _ h => h) (Or.inl ⟨by rfl, fun w hSw => xl_build0 34 built34 rfl⟩) (by assumption) ?_
  try simp only [Act.put, List.setIfInBounds_toArray, List.set_cons_zero, List.set_cons_succ]
  refine wpAnyH_take (i := 3) (v := .bool bz) (by simp only [List.getElem?_toArray, List.getElem?_cons_zero, List.getElem?_cons_succ]; rfl) (by kernel_rfl) (by kernel_rfl) (by kernel_rfl) (by exact fun _ _ _ h => h) (Or.inl ⟨by rfl, fun w hSw => xl_neb34 (hb w) rfl rfl rfl⟩) (by assumption) ?_
  try simp only [Act.put, List.setIfInBounds_toArray, List.set_cons_zero, List.set_cons_succ]
  refine wpAnyH_ready (rs := [4]) (by kernel_rfl) (by simp) ?_
  refine AllReadyH.cons (by simp only [List.getElem?_toArray, List.getElem?_cons_zero, List.getElem?_cons_succ]; rfl) (fun K hK => ?_) AllReadyH.nil
  refine st_store 34 Y5 rfl rfl rfl rfl size34 rfl (by omega : 0 + 14 ≤ 14) (sV_one _) (spl_ss _ _) ?_
  intro w6 Y6 K6
  refine hK.out _ _ (K6.box hHeld hn5) (fun hHeld => ?_)
  clear hK K
  try simp only [Act.put, List.setIfInBounds_toArray, List.set_cons_zero, List.set_cons_succ]
  refine wpAnyH_take (i := 5) (v := ?_) (by simp only [List.getElem?_toArray, List.getElem?_cons_zero, List.getElem?_cons_succ]; rfl) (by kernel_rfl) (by kernel_rfl) (by kernel_rfl) (by exact fun _ _ _ h => h) (Or.inl ⟨by rfl, ?_⟩) (by assumption) ?_
  rotate_left
  · (intro w hSw; (try dsimp only at hSw); go_simp; (try with_reducible rfl))
  try simp only [Act.put, List.setIfInBounds_toArray, List.set_cons_zero, List.set_cons_succ]
  refine wpAnyH_done (by kernel_rfl) ?_ _
  go_wp2
  refine bodyPost_ret (v := .tuple #[.agg (sV p), .bool bz]) ?_ rfl ⟨rfl, K6.up S5 (Nat.le_refl _)⟩
  exact results_cell_two rfl _ _ _ _ _ _ _ rfl rfl Y6 Tryz.underlying34 rfl size34
theorem get_any (h : T0 w χ c B bm G Cp S R ks) {k : Int} (hk : I64 k) :
    Calls Tryz.prog 20 #[ptr B, eI k] w fun e w' => e = .returned (.tuple #[.agg (sV (S k)), .bool (!decide (S k = Sp.zero))]) ∧ Below w.heap.size w w' :=
  get_of fun W hW => at_any (h.below hW) hk
set_option maxHeartbeats 4000000 in
set_option maxRecDepth 100000 in
theorem len_any (h : T0 w χ c B bm G Cp S R ks) : Calls Tryz.prog 21 #[ptr B] w fun e w' => e = .returned (eI ((ks.length : Int) - 1)) ∧ w = w' := by
  have hM := made_yes h.box
  have hM' := h.map
  have c0 := h.box.cell 0
  have hm := h.many
  have hw1 : IntKind.i64.wrap ((ks.length : Int) - 1) = (ks.length : Int) - 1 := i64_id (by omega)
  clear h hm
  go_enter Tryz.func21, Tryz.ntmps21
  go_wp2_with (first
    | (go_at_call 29; (with_reducible refine hM.mono ?_); rintro e w1 ⟨rfl, rfl⟩)
    | (refine wl_len rfl rfl hM' rfl ?_))
  go_ret
  exact ⟨rfl, rfl⟩
end
end Go.Proofs.YtpopcnebndgblaaGreat.H

namespace Go.Proofs.YtpopcnebndgblaaGreat.H
open Go.ChangeShapes Go.WideShapes Go.Deep Go.RowKit
set_option linter.unusedVariables false
set_option linter.unusedSimpArgs false
theorem own_but {w w' : World} {b base n size : Nat} {e : TypeId} {v : Value} {xs : List Value} (h : w.ownsRow base e size v n xs) (k : But b w w') (hne : v.ownBlock ≠ some b) : w'.ownsRow base e size v n xs :=
  h.kept (row := some b) ⟨k.os, k.tape, k.output, k.size, fun i hi hn => k.block i hi (fun e => hn (by rw [e]))⟩ (.inr hne)
theorem own_lt_ne {w : World} {b base n size : Nat} {e : TypeId} {v : Value} {xs : List Value} (h : w.ownsRow base e size v n xs) (hb : w.heap.size ≤ b) : v.ownBlock ≠ some b := fun e => by
  have := (h.lt b e).2; omega
def fI (x : Int) : List Value := [eI x]
theorem cellsI : Cells fI 1 := ⟨fun _ => rfl, fun x u hu => by simp [fI] at hu; subst hu; rfl⟩
theorem rowI_map : ∀ (zs : List Int), rowC fI zs = zs.map eI
  | [] => rfl
  | z :: zs => by rw [rowC, rowI_map zs]; rfl
section
variable {w w' : World} {χ χ' : Nat → Nat} {c d B bm : Nat} {G : Int → Option Nat} {Cp : Int → Nat} {S : Int → Sp} {R : Int → List Int} {ks : List Int}
theorem get_yes (h : T0 w χ c B bm G Cp S R ks) {k : Int} (hk : I64 k) (hs : S k ≠ Sp.zero) :
    Calls Tryz.prog 20 #[ptr B, eI k] w fun e w' => e = .returned (.tuple #[.agg (sV (S k)), .bool true]) ∧ Below w.heap.size w w' :=
  (get_any h hk).mono fun e w' ⟨x, y⟩ => ⟨by rw [x, decide_eq_false hs]; rfl, y⟩
theorem get_no (h : T0 w χ c B bm G Cp S R ks) {k : Int} (hk : I64 k) (hs : S k = Sp.zero) :
    Calls Tryz.prog 20 #[ptr B, eI k] w fun e w' => e = .returned (.tuple #[.agg (sV Sp.zero), .bool false]) ∧ Below w.heap.size w w' :=
  (get_any h hk).mono fun e w' ⟨x, y⟩ => ⟨by rw [x, hs]; rfl, y⟩
/-- The way up, as the specs say it. -/
inductive Pw (S : Int → Sp) : Int → List Int → Prop
  | stop {j : Int} : S j = Sp.zero → Pw S j []
  | up {j : Int} {l : List Int} : S j ≠ Sp.zero → Pw S (S j).par l → Pw S j (j :: l)
theorem Pw.one {j : Int} {l m : List Int} (h : Pw S j l) (k : Pw S j m) : l = m := by
  induction h generalizing m with
  | stop h => cases k with
    | stop _ => rfl
    | up h' _ => exact absurd h h'
  | up h _ ih => cases k with
    | stop h' => exact absurd h' h
    | up _ k' => rw [ih k']
noncomputable def lenW (S : Int → Sp) (j : Int) : Nat := open Classical in if h : ∃ l, Pw S j l then (Classical.choose h).length else 0
theorem lenW_of {j : Int} {l : List Int} (h : Pw S j l) : lenW S j = l.length := by
  unfold lenW
  rw [dif_pos ⟨l, h⟩, (Classical.choose_spec (⟨l, h⟩ : ∃ l, Pw S j l)).one h]
/-- What holds at the label. -/
def PaJ (S : Int → Sp) (B : Nat) (w : World) (full : List Int) (a : Act) (w' : World) : Prop :=
  ∃ (j : Int) (pre l : List Int) (v u6 u7 u8 u9 u10 u11 u12 u13 u14 u15 u16 u17 u18 u19 u20 u21 : Value), a = { tmps := #[ptr B, eI j, undef, undef, .slice none 0 0, v, u6, u7, u8, u9, u10, u11, u12, u13, u14, u15, u16, u17, u18, u19, u20, u21], defers := [] } ∧ pre ++ l = full ∧ Pw S j l ∧ I64 j ∧ w'.ownsRow w.heap.size 3 1 v pre.length (rowC fI pre) ∧ Below w.heap.size w w'
set_option maxHeartbeats 4000000 in
set_option maxRecDepth 100000 in
theorem path_any (h : T0 w χ c B bm G Cp S R ks) (hok : ∀ k, (S k).ok) {k : Int} (hk : I64 k) {full : List Int} (hP : Pw S k full) (hfl : full.length ≤ 8) :
    Calls Tryz.prog 24 #[ptr B, eI k] w fun e w' => ∃ v, e = .returned v ∧ w'.ownsRow w.heap.size 3 1 v full.length (full.map eI) ∧ Below w.heap.size w w' := by
  go_enter Tryz.func24, Tryz.ntmps24
  go_wp2
  refine wp_scope_jumps 0 (PaJ S B w full) (fun a' _ => lenW S (intOf (a'.tmps.getD 1 undef))) rfl ?_ ?_
  · have hT := Below.refl w.heap.size w
    have hO : w.ownsRow w.heap.size 3 1 (.slice none 0 0) 0 (rowC fI ([] : List Int)) := World.ownsRow_nil _ _ _ _
    cases hP with
    | stop hs =>
      have hG := get_no h hk hs
      clear h
      go_wp2
      go_step3
      go_wp2_with (first
        | (go_at_call 20; (with_reducible refine hG.mono ?_); rintro e w2 ⟨rfl, T2⟩; have O2 := own_below hO T2; have S2 := ups hT T2 hT.size)
        | (refine wl_alloc 34 rfl rfl zero34 ?_; intro w3 X3 T3; have O3 := own_below O2 T3; have S3 := ups S2 T3 S2.size)
        | (refine wl_store 34 X3 rfl rfl rfl rfl size34 rfl (by omega : 0 + 14 ≤ 14) (sV_one _) (spl_ss _ _) ?_; intro w4 X4 K4; have O4 := own_but O3 K4 (own_lt_ne O2 (Nat.le_refl _)); have S4 := K4.up S3 S2.size; have c1 := (X4.cell 1).trans (sV_1 _))
        | (refine wl_sl 53 3 rfl rfl rfl Tryz.underlying53 (bsl3 _) ?_; intro w5 X5 T5; have O5 := own_below O4 T5; have Y5 := X4.below T5; have S5 := ups S4 T5 S4.size; have F5 := flat_new (f := fI) (x := k) X5 rfl; have hr5 : some w2.heap.size ≠ (Value.slice none 0 0).ownBlock := fun e => own_lt_ne O2 (Nat.le_refl _) e.symm)
        | (refine wpList_more rowI cellsI rfl _ _ rfl w.heap.size (Value.slice none 0 0) ([] : List Int) [k] 0 1 rfl rfl rfl O5 _ 1 rfl F5 (by omega) S5.size ?_; intro v6 w6 O6 G6 N6 _; have d1 := ((Y5.grown G6 hr5).cell 1).trans (sV_1 _); have S6 := S5.grown G6 S5.size (fun g e => (O5.lt g e).1)))
      simp only [Exit.jump]
      go_ret
      exact ⟨_, rfl, World.ownsRow_nil _ _ _ _, S4⟩
    | @up _ l hs hp =>
      have hG := get_yes h hk hs
      have hok' := (hok k).2.1
      clear h
      go_wp2
      go_step3
      go_wp2_with (first
        | (go_at_call 20; (with_reducible refine hG.mono ?_); rintro e w2 ⟨rfl, T2⟩; have O2 := own_below hO T2; have S2 := ups hT T2 hT.size)
        | (refine wl_alloc 34 rfl rfl zero34 ?_; intro w3 X3 T3; have O3 := own_below O2 T3; have S3 := ups S2 T3 S2.size)
        | (refine wl_store 34 X3 rfl rfl rfl rfl size34 rfl (by omega : 0 + 14 ≤ 14) (sV_one _) (spl_ss _ _) ?_; intro w4 X4 K4; have O4 := own_but O3 K4 (own_lt_ne O2 (Nat.le_refl _)); have S4 := K4.up S3 S2.size; have c1 := (X4.cell 1).trans (sV_1 _))
        | (refine wl_sl 53 3 rfl rfl rfl Tryz.underlying53 (bsl3 _) ?_; intro w5 X5 T5; have O5 := own_below O4 T5; have Y5 := X4.below T5; have S5 := ups S4 T5 S4.size; have F5 := flat_new (f := fI) (x := k) X5 rfl; have hr5 : some w2.heap.size ≠ (Value.slice none 0 0).ownBlock := fun e => own_lt_ne O2 (Nat.le_refl _) e.symm)
        | (refine wpList_more rowI cellsI rfl _ _ rfl w.heap.size (Value.slice none 0 0) ([] : List Int) [k] 0 1 rfl rfl rfl O5 _ 1 rfl F5 (by omega) S5.size ?_; intro v6 w6 O6 G6 N6 _; have d1 := ((Y5.grown G6 hr5).cell 1).trans (sV_1 _); have S6 := S5.grown G6 S5.size (fun g e => (O5.lt g e).1)))
      go_step3
      refine ⟨rfl, (S k).par, [k], l, v6, _, _, _, _, _, _, _, _, _, _, _, _, _, _, _, _, rfl, rfl, hp, hok', ?_, S6⟩
      exact O6
  · rintro a' w1 ⟨j, pre, l, v, u6, u7, u8, u9, u10, u11, u12, u13, u14, u15, u16, u17, u18, u19, u20, u21, rfl, hf, hp, hj, hO, hT⟩
    have hT0 := h.below hT
    have hpl : pre.length ≤ 8 := by rw [← hf] at hfl; simp at hfl; omega
    cases hp with
    | stop hs =>
      have hG := get_no hT0 hj hs
      clear h hT0 hP
      go_wp2_with (first
        | (go_at_call 20; (with_reducible refine hG.mono ?_); rintro e w2 ⟨rfl, T2⟩; have O2 := own_below hO T2; have S2 := ups hT T2 hT.size)
        | (refine wl_alloc 34 rfl rfl zero34 ?_; intro w3 X3 T3; have O3 := own_below O2 T3; have S3 := ups S2 T3 S2.size)
        | (refine wl_store 34 X3 rfl rfl rfl rfl size34 rfl (by omega : 0 + 14 ≤ 14) (sV_one _) (spl_ss _ _) ?_; intro w4 X4 K4; have O4 := own_but O3 K4 (own_lt_ne O2 (Nat.le_refl _)); have S4 := K4.up S3 S2.size; have c1 := (X4.cell 1).trans (sV_1 _))
        | (refine wl_sl 53 3 rfl rfl rfl Tryz.underlying53 (bsl3 _) ?_; intro w5 X5 T5; have O5 := own_below O4 T5; have Y5 := X4.below T5; have S5 := ups S4 T5 S4.size; have F5 := flat_new (f := fI) (x := j) X5 rfl; have hr5 : some w2.heap.size ≠ v.ownBlock := fun e => own_lt_ne O2 (Nat.le_refl _) e.symm)
        | (refine wpList_more rowI cellsI rfl _ _ rfl w.heap.size v pre [j] pre.length 1 rfl rfl rfl O5 _ 1 rfl F5 (by omega) S5.size ?_; intro v6 w6 O6 G6 N6 _; have d1 := ((Y5.grown G6 hr5).cell 1).trans (sV_1 _); have S6 := S5.grown G6 S5.size (fun g e => (O5.lt g e).1)))
      simp only [Exit.jump]
      go_ret
      simp at hf
      subst hf
      rw [rowI_map] at O4
      exact ⟨_, rfl, O4, S4⟩
    | @up _ l hs hp =>
      have hG := get_yes hT0 hj hs
      have hok' := (hok j).2.1
      clear h hT0 hP
      go_wp2_with (first
        | (go_at_call 20; (with_reducible refine hG.mono ?_); rintro e w2 ⟨rfl, T2⟩; have O2 := own_below hO T2; have S2 := ups hT T2 hT.size)
        | (refine wl_alloc 34 rfl rfl zero34 ?_; intro w3 X3 T3; have O3 := own_below O2 T3; have S3 := ups S2 T3 S2.size)
        | (refine wl_store 34 X3 rfl rfl rfl rfl size34 rfl (by omega : 0 + 14 ≤ 14) (sV_one _) (spl_ss _ _) ?_; intro w4 X4 K4; have O4 := own_but O3 K4 (own_lt_ne O2 (Nat.le_refl _)); have S4 := K4.up S3 S2.size; have c1 := (X4.cell 1).trans (sV_1 _))
        | (refine wl_sl 53 3 rfl rfl rfl Tryz.underlying53 (bsl3 _) ?_; intro w5 X5 T5; have O5 := own_below O4 T5; have Y5 := X4.below T5; have S5 := ups S4 T5 S4.size; have F5 := flat_new (f := fI) (x := j) X5 rfl; have hr5 : some w2.heap.size ≠ v.ownBlock := fun e => own_lt_ne O2 (Nat.le_refl _) e.symm)
        | (refine wpList_more rowI cellsI rfl _ _ rfl w.heap.size v pre [j] pre.length 1 rfl rfl rfl O5 _ 1 rfl F5 (by omega) S5.size ?_; intro v6 w6 O6 G6 N6 _; have d1 := ((Y5.grown G6 hr5).cell 1).trans (sV_1 _); have S6 := S5.grown G6 S5.size (fun g e => (O5.lt g e).1)))
      go_step3
      refine ⟨rfl, ⟨(S j).par, pre ++ [j], l, v6, _, _, _, _, _, _, _, _, _, _, _, _, _, _, _, _, rfl, ?_, hp, hok', ?_, S6⟩, ?_⟩
      · rw [← hf]; simp
      · rw [List.length_append]; exact O6
      · show lenW S (S j).par < lenW S j
        rw [lenW_of hp, lenW_of (Pw.up hs hp)]
        simp
end
end Go.Proofs.YtpopcnebndgblaaGreat.H

namespace Go.Proofs.YtpopcnebndgblaaGreat.H
open Go.ChangeShapes Go.WideShapes Go.Deep Go.RowKit
set_option linter.unusedVariables false
set_option linter.unusedSimpArgs false
section
variable {w w' : World} {χ χ' : Nat → Nat} {c d B bm : Nat} {G : Int → Option Nat} {Cp : Int → Nat} {S : Int → Sp} {R : Int → List Int} {ks : List Int}
set_option maxHeartbeats 4000000 in
set_option maxRecDepth 100000 in
theorem under_any (h : T0 w χ c B bm G Cp S R ks) {k : Int} (hk : I64 k) :
    Calls Tryz.prog 23 #[ptr B, eI k] w fun e w' => ∃ v, e = .returned v ∧ w'.ownsRow w.heap.size 3 1 v (R k).length ((R k).map eI) ∧ Below w.heap.size w w' := by
  have hA := at_any h hk
  have hf := kfield1 (S k) (adr (G k)) (R k).length (Cp k)
  have hr := h.rows k
  have hl := h.few k
  rw [← rowI_map] at hr ⊢
  have hN : ∀ W : World, W.ownsRow w.heap.size 3 1 (.slice none 0 0) 0 (rowC fI ([] : List Int)) := fun W => World.ownsRow_nil _ _ _ _
  clear h
  rcases own_form hr with ⟨e, e0⟩ | ⟨g, cap, e, hc, hb, hlt⟩
  · rw [e0] at e hr ⊢
    have e1 : R k = [] := List.eq_nil_of_length_eq_zero e0
    rw [e1] at hr ⊢
    injection e with ea _ ec
    rw [e1] at hA hf
    rw [ea, ec] at hA hf
    simp only [List.length_nil] at hA hf
    clear ea ec e1 e0 hl
    go_enter Tryz.func23, Tryz.ntmps23
    go_wp2_with (first
      | (go_at_call 38; (with_reducible refine hA.mono ?_); rintro e w1 ⟨rfl, T1⟩)
      | (refine wpList_nomore rowI rfl _ _ rfl w.heap.size 0 (.slice none 0 0) _ rfl (hN _) rfl ?_))
    go_ret
    exact ⟨_, rfl, hN _, T1⟩
  · have e' := id e
    injection e' with ea _ ec
    rw [ea, ec] at hA hf
    rw [e] at hr
    generalize R k = zs at *
    clear ea ec e
    have hl2 : 0 + zs.length ≤ 1000000 := by omega
    go_enter Tryz.func23, Tryz.ntmps23
    go_wp2_with (first
      | (go_at_call 38; (with_reducible refine hA.mono ?_); rintro e w1 ⟨rfl, T1⟩; have F1 := flat_part (k := 0) (ad := ⟨g, 0, none⟩) cellsI hr T1 (fun _ => by simp))
      | (refine wpList_more rowI cellsI rfl _ _ rfl w.heap.size (.slice none 0 0) [] zs 0 zs.length rfl rfl rfl (hN _) ⟨g, 0, none⟩ cap rfl F1 hl2 T1.size ?_; intro v2 w2 O2 G2 N2 _; have S2 := T1.grown G2 T1.size (fun g e => by cases e)))
    go_ret
    rw [Nat.zero_add] at O2
    exact ⟨_, rfl, O2, S2⟩
set_option maxHeartbeats 4000000 in
set_option maxRecDepth 100000 in
theorem new_any (w : World) (χ : Nat → Nat) (c : Nat) :
    Calls Tryz.prog 10 #[] w fun e w' => ∃ C bm, (w.heap.size ≤ bm ∧ w.heap.size ≤ C) ∧ e = .returned (ptr C) ∧ T0 w' (recol χ w.heap.size c) c C bm (fun _ => none) (fun _ => 0) (fun _ => Sp.zero) (fun _ => []) [0] ∧ Below w.heap.size w w' := by
  have hmm := @run_makeMap Tryz.prog
  have hM := MapV.made w
  have T0 := up1 w (.map #[] 0)
  go_enter Tryz.func10, Tryz.ntmps10
  go_wp2_with (first
    | (refine wl_upd rfl (.inr rfl) hM (by simp) rfl 0 rfl i64_zero zK rfl ?_; intro w2 M2 K2 S2; have T2 := K2.up T0 (Nat.le_refl _))
    | (refine wl_box 48 rfl rfl rfl ?_; intro w3 X3 T3; have M3 := M2.below T3))
  go_ret
  have hS := S2
  simp at hS
  rw [hS] at X3
  refine ⟨_, w.heap.size, ⟨Nat.le_refl _, by omega⟩, rfl, ⟨X3, recol_ge (by omega), recol_ge (Nat.le_refl _), ?_, fun k => World.ownsRow_nil _ _ _ _, fun k g e => (by cases e), fun j k g _ e => (by cases e), fun k => (by simp), (by simp)⟩, ups T2 T3 T2.size⟩
  have := M3.say (F' := fun _ => zK) (fun k => by split <;> rfl)
  exact this
end
end Go.Proofs.YtpopcnebndgblaaGreat.H

namespace Go.Proofs.YtpopcnebndgblaaGreat.H
open Go.ChangeShapes Go.WideShapes Go.Deep Go.RowKit
set_option linter.unusedVariables false
set_option linter.unusedSimpArgs false
/-- f, but for one Id. -/
def upd {α : Type} (f : Int → α) (k : Int) (x : α) : Int → α := fun j => if j = k then x else f j
theorem upd_same {α : Type} (f : Int → α) (k : Int) (x : α) : upd f k x k = x := if_pos rfl
theorem upd_ne {α : Type} (f : Int → α) {k j : Int} (x : α) (h : j ≠ k) : upd f k x j = f j := if_neg h
section
variable {w w' : World} {χ χ' : Nat → Nat} {c d B bm : Nat} {G : Int → Option Nat} {Cp : Int → Nat} {S : Int → Sp} {R : Int → List Int} {ks : List Int}
/-- One class turned: its spec, its row. -/
theorem T0.turn (h : T0 w χ c B bm G Cp S R ks) {k : Int} {p : Sp} {g' : Option Nat} {c' : Nat} {zs : List Int} {js : List Int}
    (E : Off (fun j => j = bm ∨ G k = some j) w w') (hM : MapV w' bm (fun j => if j = k then .agg (kV p (adr g') zs.length c') else .agg (kV (S j) (adr (G j)) (R j).length (Cp j))) js)
    (hO : w'.ownsRow 0 3 1 (.slice (adr g') zs.length c') zs.length (zs.map eI)) (hg : ∀ q, g' = some q → G k = some q ∨ w.heap.size ≤ q) (hz : zs.length ≤ 64) (hj : js.length ≤ 65) :
    T0 w' (recol χ w.heap.size c) c B bm (upd G k g') (upd Cp k c') (upd S k p) (upd R k zs) js ∧ Col χ (recol χ w.heap.size c) c w w' := by
  have lt : ∀ j g, G j = some g → g < w.heap.size := fun j g e => ((h.rows j).lt g (by rw [adr_own]; exact e)).2
  refine ⟨⟨E.box h.box ?_, (recol_lt h.box.lt).trans h.colB, (recol_lt h.map.lt).trans h.colM, ?_, fun j => ?_, fun j g e => ?_, fun i j g hij e => ?_, fun j => ?_, hj⟩, Col.off E (fun j hj => ?_)⟩
  · rintro (e | e)
    · exact h.neM e
    · exact (h.rowB e).1 rfl
  · refine hM.say fun j => ?_
    by_cases hjk : j = k
    · subst hjk; rw [if_pos rfl, upd_same, upd_same, upd_same, upd_same]
    · rw [if_neg hjk, upd_ne _ _ hjk, upd_ne _ _ hjk, upd_ne _ _ hjk, upd_ne _ _ hjk]
  · by_cases hjk : j = k
    · subst hjk; rw [upd_same, upd_same, upd_same]; exact hO
    · rw [upd_ne _ _ hjk, upd_ne _ _ hjk, upd_ne _ _ hjk]
      refine E.owns (h.rows j) (fun g e => ?_)
      rw [adr_own] at e
      rintro (e2 | e2)
      · exact (h.rowB e).2 e2
      · exact h.apart j k g hjk e e2
  · by_cases hjk : j = k
    · subst hjk
      rw [upd_same] at e
      rcases hg g e with e2 | e2
      · rw [recol_lt (lt _ _ e2)]; exact h.colR _ _ e2
      · exact recol_ge e2
    · rw [upd_ne _ _ hjk] at e
      rw [recol_lt (lt _ _ e)]; exact h.colR _ _ e
  · by_cases hi : i = k
    · subst hi
      rw [upd_same] at e
      rw [upd_ne _ _ (Ne.symm hij)]
      rcases hg g e with e2 | e2
      · exact h.apart i j g hij e2
      · intro e3; have := lt _ _ e3; omega
    · rw [upd_ne _ _ hi] at e
      by_cases hjk : j = k
      · subst hjk
        rw [upd_same]
        intro e3
        rcases hg g e3 with e2 | e2
        · exact h.apart i j g hij e e2
        · have := lt _ _ e; omega
      · rw [upd_ne _ _ hjk]; exact h.apart i j g hij e
  · by_cases hjk : j = k
    · subst hjk; rw [upd_same]; exact hz
    · rw [upd_ne _ _ hjk]; exact h.few j
  · rcases hj with rfl | e
    · exact h.colM
    · exact h.colR _ _ e
/-- Where a number comes into a rising row. -/
def putI (zs : List Int) (x : Int) : List Int := zs.take (zs.countP (· < x)) ++ x :: zs.drop (zs.countP (· < x))
theorem putI_len (zs : List Int) (x : Int) : (putI zs x).length = zs.length + 1 := by
  have := List.countP_le_length (p := (· < x)) (l := zs)
  unfold putI
  simp
  omega
set_option maxHeartbeats 4000000 in
set_option maxRecDepth 100000 in
theorem hang_any (h : T0 w χ c B bm G Cp S R ks) {pp id : Int} (hp : I64 pp) (hpk : pp ∈ ks) (hs : (R pp).Pairwise (· ≤ ·)) (hlen : (R pp).length < 64) :
    Calls Tryz.prog 32 #[ptr B, eI id, eI pp] w fun e w' => e = .returned (.tuple #[]) ∧ ∃ G' Cp', T0 w' (recol χ w.heap.size c) c B bm G' Cp' S (upd R pp (putI (R pp) id)) ks ∧ Col χ (recol χ w.heap.size c) c w w' := by
  have hl := h.map.look hp
  have hr := h.rows pp
  have hn := h.few pp
  have c0 := h.box.cell 0
  have hbl := h.box.lt
  have hml := h.map.lt
  have hks : ks.length ≤ 5000 := by have := h.many; omega
  have hrl := hr.lt
  have hcnt := List.countP_le_length (p := (· < id)) (l := R pp)
  have hfin : ∀ w9 g9 c9, Off (fun j => j = bm ∨ G pp = some j) w w9 → MapV w9 bm (fun j => if j = pp then .agg (kV (S pp) (adr g9) ((R pp).length + 1) c9) else .agg (kV (S j) (adr (G j)) (R j).length (Cp j))) (if pp ∈ ks then ks else pp :: ks) → w9.ownsRow 0 3 1 (.slice (adr g9) ((R pp).length + 1) c9) ((R pp).length + 1) ((putI (R pp) id).map eI) → (∀ q, g9 = some q → G pp = some q ∨ w.heap.size ≤ q) →
      ∃ G' Cp', T0 w9 (recol χ w.heap.size c) c B bm G' Cp' S (upd R pp (putI (R pp) id)) ks ∧ Col χ (recol χ w.heap.size c) c w w9 := fun w9 g9 c9 e1 e2 e3 e4 => by
    have hz := putI_len (R pp) id
    rw [if_pos hpk] at e2
    rw [← hz] at e2 e3
    obtain ⟨t, k⟩ := h.turn e1 e2 e3 e4 (by omega) h.many
    have e5 : upd S pp (S pp) = S := funext fun j => by unfold upd; split <;> simp_all
    rw [e5] at t
    exact ⟨_, _, t, k⟩
  have hF := Lib.hid hfin
  have hB0 := h.box
  have hM0 := h.map
  have hneM := h.neM
  have hrow : ∀ g, (Value.slice (adr (G pp)) (R pp).length (Cp pp)).ownBlock = some g → g ≠ B ∧ g ≠ bm := fun g e => by rw [adr_own] at e; exact h.rowB e
  have hadr := adr_own (G pp) (R pp).length (Cp pp)
  clear hfin h
  have hpu : putI (R pp) id = (R pp).take ((R pp).countP (· < id)) ++ id :: (R pp).drop ((R pp).countP (· < id)) := rfl
  have hput := Lib.hid hpu
  clear hpu
  have hSe := fun (W : World) (h : W.ownsRow 0 3 1 (.slice (adr (G pp)) (R pp).length (Cp pp)) (R pp).length ((R pp).map eI)) => search_own h (by omega) hs id
  obtain ⟨i, hi⟩ : ∃ i, (R pp).countP (· < id) = i := ⟨_, rfl⟩
  simp only [hi] at hSe hcnt
  clear hs
  go_enter Tryz.func32, Tryz.ntmps32
  go_upto_region 2 with (first
    | (refine wl_alloc 62 rfl rfl zero62 ?_; intro w1 X1 T1)
    | (refine wl_store 62 X1 rfl rfl rfl rfl size62 rfl (by omega : 0 + 15 ≤ 15) (kV_one _ _ _ _) (spl_kk _ _ _ _ _ _ _ _) ?_; intro w2 X2 K2; have T2 := K2.up T1 (Nat.le_refl _); have c2 := (X2.cell 14).trans (kV_14 _ _ _ _); have r2 := own_below hr T2; have hS2 := hSe w2 r2)
    | (go_at_call 50; (with_reducible refine hS2.mono ?_); rintro e w3 ⟨rfl, T3⟩; have X3 := X2.below T3; have S3 := ups T2 T3 T2.size; have r3 := own_below r2 T3; have c3 := (X3.cell 14).trans (kV_14 _ _ _ _)))
  have hx0 : w.heap.size < w2.heap.size := X2.lt
  clear X1 T1 K2 c2 r2 hS2 hSe X2 c0 hl
  go_upto_region 3 with (first
    | (refine wl_sl 53 3 rfl rfl rfl Tryz.underlying53 (bsl3 _) ?_; intro w4 X4 T4; have X5 := X3.below T4; have S4 := ups S3 T4 S3.size; have r4 := own_below r3 T4; have n4 := own_lt_ne r3 (Nat.le_refl _); have hI := insI_any X4 r4 n4 hcnt (by omega) (by intro u hu; obtain ⟨z, _, rfl⟩ := List.mem_map.1 hu; rfl) rfl (Nat.zero_le _))
    | (go_at_call 51; (with_reducible refine hI.mono ?_); rintro e w5 ⟨v5, rfl, O5, G5, N5⟩; obtain ⟨g5, c5, rfl, _⟩ := (own_form O5).resolve_left (by omega); have X6 := X5.grown G5 (fun e => absurd (hrl _ e.symm).2 (by omega)))
    | (refine wl_put 53 X6 rfl rfl rfl rfl rfl rfl size53 (by rw [kV_size]; omega) (set_k14 _ _ _ _ _ _ _) ?_; intro w6 X9 K6))
  have E4 : Off (fun j => j = bm ∨ G pp = some j) w w4 := Off.of S4
  have E5 := E4.grow G5 (fun g e => .inr (.inr (by rw [← hadr]; exact e)))
  have E6 := E5.but K6 (.inl (Nat.le_refl _))
  have M5 := (hM0.below S4).kept G5 (fun e => (hrow bm e.symm).2 rfl)
  have hneX : w.heap.size ≠ bm := by omega
  have M6 := M5.off (S := fun j => j = w.heap.size) (Off.but (Off.refl _) K6 (.inr rfl)) (Ne.symm hneX)
  have L4 := S4.size
  have hS3 := S3.size
  have hS4 := T4.size
  have hgx : g5 ≠ w.heap.size := by
    rcases N5 g5 rfl with e | e
    · have := (hrl g5 e).2; omega
    · have := T2.size; have := T3.size; omega
  have hgm : g5 ≠ bm := by
    rcases N5 g5 rfl with e | e
    · exact (hrow g5 e).2
    · omega
  have O6 := own_but O5 K6 (fun e => hgx (by cases e; rfl))
  have Y6 := E6.box hB0 (by
    rintro (e | e)
    · exact hneM e
    · exact (hrow B (by rw [hadr]; exact e)).1 rfl)
  have Y9 := Y6
  have M9 : MapV w6.drew bm _ ks := M6
  have hE : Off (fun j => j = bm ∨ G pp = some j) w w6.drew := E6.up (Below.refl _ w6).drew
  have O9 := O6.drew
  have hN : ∀ q, some g5 = some q → G pp = some q ∨ w.heap.size ≤ q := fun q e => by
    rcases N5 q e with e2 | e2
    · exact .inl (by rw [← hadr]; exact e2)
    · exact .inr (by omega)
  have hO : ∀ W, But bm w6.drew W → W.ownsRow 0 3 1 (.slice (adr (some g5)) ((R pp).length + 1) c5) ((R pp).length + 1) ((putI (R pp) id).map eI) := fun W hk => by
    have := own_but O9 hk (fun e => hgm (by cases e; rfl))
    rw [hput.out, hi]
    rw [List.map_append, List.map_cons, List.map_take, List.map_drop]
    exact this
  have hOo := Lib.hid hO
  have hNn := Lib.hid hN
  have hneB : B ≠ bm := hneM
  clear hO hN O9 O6 Y6 M6 M5 E6 E5 E4 G5 K6 N5 O5 X6 hI n4 r4 X5 X4 c3 r3 X3 hput hi hrow hadr hM0 hB0 hrl hr T4 S4 T3 S3 T2
  refine wp_region_held_drew (S := fun W => Box W B #[.map (some bm)] 48 ∧ Box W w.heap.size (kV (S pp) (some ⟨g5, 0, none⟩) ((R pp).length + 1) c5) 62) (by kernel_rfl) ⟨Y9.drew, X9.drew⟩ (fun hHeld => ?_)
  refine wpAnyH_take (i := 0) (v := ?_) (by simp only [List.getElem?_toArray, List.getElem?_cons_zero]; rfl) (by kernel_rfl) (by kernel_rfl) (by kernel_rfl) (by exact fun _ _ _ h => h) (Or.inl ⟨by rfl, ?_⟩) (by assumption) ?_
  rotate_left
  · (intro w hSw; (try dsimp only at hSw); go_simp; (try with_reducible rfl))
  try simp only [Act.put, List.setIfInBounds_toArray, List.set_cons_zero, List.set_cons_succ]
  refine wpAnyH_take (i := 1) (v := ?_) (by simp only [List.getElem?_toArray, List.getElem?_cons_zero, List.getElem?_cons_succ]; rfl) (by kernel_rfl) (by kernel_rfl) (by kernel_rfl) (by exact fun _ _ _ h => h) (Or.inl ⟨by rfl, ?_⟩) (by assumption) ?_
  rotate_left
  · (intro w hSw; (try dsimp only at hSw); go_simp; (try with_reducible rfl))
  try simp only [Act.put, List.setIfInBounds_toArray, List.set_cons_zero, List.set_cons_succ]
  refine wpAnyH_take (i := 2) (v := ?_) (by simp only [List.getElem?_toArray, List.getElem?_cons_zero, List.getElem?_cons_succ]; rfl) (by kernel_rfl) (by kernel_rfl) (by kernel_rfl) (by exact fun _ _ _ h => h) (Or.inl ⟨by rfl, ?_⟩) (by assumption) ?_
  rotate_left
  · (intro w hSw; (try dsimp only at hSw); go_simp; (try with_reducible rfl))
  try simp only [Act.put, List.setIfInBounds_toArray, List.set_cons_zero, List.set_cons_succ]
  refine wpAnyH_take (i := 3) (v := .map (some bm)) (by simp only [List.getElem?_toArray, List.getElem?_cons_zero, List.getElem?_cons_succ]; rfl) (by kernel_rfl) (by kernel_rfl) (by kernel_rfl) (by exact fun _ _ _ h => h) (Or.inl ⟨by rfl, fun w hSw => xl_cell 46 hSw.1 rfl rfl Tryz.underlying46 rfl rfl⟩) (by assumption) ?_
  try simp only [Act.put, List.setIfInBounds_toArray, List.set_cons_zero, List.set_cons_succ]
  refine wpAnyH_take (i := 4) (v := ?_) (by simp only [List.getElem?_toArray, List.getElem?_cons_zero, List.getElem?_cons_succ]; rfl) (by kernel_rfl) (by kernel_rfl) (by kernel_rfl) (by exact fun _ _ _ h => h) (Or.inl ⟨by rfl, ?_⟩) (by assumption) ?_
  rotate_left
  · (intro w hSw; (try dsimp only at hSw); go_simp; (try with_reducible rfl))
  try simp only [Act.put, List.setIfInBounds_toArray, List.set_cons_zero, List.set_cons_succ]
  refine wpAnyH_take (i := 5) (v := .agg (kV (S pp) (some ⟨g5, 0, none⟩) ((R pp).length + 1) c5)) (by simp only [List.getElem?_toArray, List.getElem?_cons_zero, List.getElem?_cons_succ]; rfl) (by kernel_rfl) (by kernel_rfl) (by kernel_rfl) (by exact fun _ _ _ h => h) (Or.inl ⟨by rfl, fun w hSw => xl_load 62 hSw.2 rfl rfl Tryz.underlying62 rfl size62 (by omega : 0 + 15 ≤ 15) (kV_all _ _ _ _)⟩) (by assumption) ?_
  try simp only [Act.put, List.setIfInBounds_toArray, List.set_cons_zero, List.set_cons_succ]
  refine wpAnyH_ready (rs := [6]) (by kernel_rfl) (by simp) ?_
  refine AllReadyH.cons (by simp only [List.getElem?_toArray, List.getElem?_cons_zero, List.getElem?_cons_succ]; rfl) (fun K hK => ?_) AllReadyH.nil
  refine st_upd rfl rfl M9 hks rfl pp rfl hp (.agg (kV (S pp) (some ⟨g5, 0, none⟩) ((R pp).length + 1) c5)) rfl ?_
  intro wa Ma Ka Sa
  refine hK.out _ _ ⟨Ka.box hHeld.1 hneB, Ka.box hHeld.2 hneX⟩ (fun hHeld => ?_)
  clear hK K
  try simp only [Act.put, List.setIfInBounds_toArray, List.set_cons_zero, List.set_cons_succ]
  refine wpAnyH_done (by kernel_rfl) ?_ _
  go_wp2
  exact ⟨rfl, .tuple #[], by simp [results, Tryz.results32, go_sem], rfl, hF.out wa (some g5) c5 (hE.but Ka (.inr (.inl rfl))) Ma (hOo.out _ Ka) hNn.out⟩
set_option maxHeartbeats 4000000 in
set_option maxRecDepth 100000 in
theorem unhang_any (h : T0 w χ c B bm G Cp S R ks) {pp id : Int} (hp : I64 pp) (hpk : pp ∈ ks) (h0 : 0 < (R pp).length) :
    Calls Tryz.prog 39 #[ptr B, eI id, eI pp] w fun e w' => e = .returned (.tuple #[]) ∧ ∃ G' Cp', T0 w' (recol χ w.heap.size c) c B bm G' Cp' S (upd R pp ((R pp).filter (fun x => x != id))) ks ∧ Col χ (recol χ w.heap.size c) c w w' := by
  have hl := h.map.look hp
  have hr := h.rows pp
  have hn := h.few pp
  have c0 := h.box.cell 0
  have hbl := h.box.lt
  have hml := h.map.lt
  have hks : ks.length ≤ 5000 := by have := h.many; omega
  have hrl := hr.lt
  have hfin : ∀ w9 g9 c9, Off (fun j => j = bm ∨ G pp = some j) w w9 → MapV w9 bm (fun j => if j = pp then .agg (kV (S pp) (adr g9) ((R pp).filter (fun x => x != id)).length c9) else .agg (kV (S j) (adr (G j)) (R j).length (Cp j))) (if pp ∈ ks then ks else pp :: ks) → w9.ownsRow 0 3 1 (.slice (adr g9) ((R pp).filter (fun x => x != id)).length c9) ((R pp).filter (fun x => x != id)).length (((R pp).filter (fun x => x != id)).map eI) → (∀ q, g9 = some q → G pp = some q ∨ w.heap.size ≤ q) →
      ∃ G' Cp', T0 w9 (recol χ w.heap.size c) c B bm G' Cp' S (upd R pp ((R pp).filter (fun x => x != id))) ks ∧ Col χ (recol χ w.heap.size c) c w w9 := fun w9 g9 c9 e1 e2 e3 e4 => by
    have hz : ((R pp).filter (fun x => x != id)).length ≤ (R pp).length := List.length_filter_le _ _
    rw [if_pos hpk] at e2
    obtain ⟨t, k⟩ := h.turn e1 e2 e3 e4 (by omega) h.many
    have e5 : upd S pp (S pp) = S := funext fun j => by unfold upd; split <;> simp_all
    rw [e5] at t
    exact ⟨_, _, t, k⟩
  have hF := Lib.hid hfin
  have hB0 := h.box
  have hM0 := h.map
  have hneM := h.neM
  have hrow : ∀ g, (Value.slice (adr (G pp)) (R pp).length (Cp pp)).ownBlock = some g → g ≠ B ∧ g ≠ bm := fun g e => by rw [adr_own] at e; exact h.rowB e
  have hadr := adr_own (G pp) (R pp).length (Cp pp)
  clear hfin h
  have hDe := fun (W : World) (h : W.ownsRow 0 3 1 (.slice (adr (G pp)) (R pp).length (Cp pp)) (R pp).length ((R pp).map eI)) (b : Nat) (hb : Box W b #[eI id] 3) (hne : (Value.slice (adr (G pp)) (R pp).length (Cp pp)).ownBlock ≠ some b) => delete_own h (by omega) h0 id b 3 hb hne
  obtain ⟨m, hm⟩ : ∃ m, ((R pp).filter (fun x => x != id)).length = m := ⟨_, rfl⟩
  simp only [hm] at hDe
  go_enter Tryz.func39, Tryz.ntmps39
  go_upto_region 2 with (first
    | (refine wl_box1 3 rfl rfl rfl rfl ?_; intro w0 X0 T0; have c01 := (T0.cell (p := ⟨B, 0, none⟩) hbl).trans c0; have hl0 := (hM0.below T0).look hp)
    | (refine wl_alloc 62 rfl rfl zero62 ?_; intro w1 X1 T1; have Z1 := X0.below T1; have S1 := ups T0 T1 T0.size)
    | (refine wl_store 62 X1 rfl rfl rfl rfl size62 rfl (by omega : 0 + 15 ≤ 15) (kV_one _ _ _ _) (spl_kk _ _ _ _ _ _ _ _) ?_; intro w4 X5 K2; have S4 := K2.up S1 T0.size; have Z4 := K2.box Z1 (Nat.ne_of_lt X0.lt); have c2 := (X5.cell 14).trans (kV_14 _ _ _ _); have r4 := own_below hr S4; have hI := hDe w4 r4 w.heap.size Z4 (own_lt_ne hr (Nat.le_refl _))))
  have hx0 : w0.heap.size < w4.heap.size := X5.lt
  have hx1 : w.heap.size < w0.heap.size := X0.lt
  clear X1 T1 K2 hDe c01 c0 hl hl0 Z1 S1
  go_upto_region 3 with (first
    | (go_at_call 55; (with_reducible refine hI.mono ?_); rintro e w5 ⟨g5, c5, rfl, N5, O5, G5⟩; have X6 := X5.grown G5 (fun e => absurd (hrl g5 N5).2 (by cases e; omega)))
    | (refine wl_put 53 X6 rfl rfl rfl rfl rfl rfl size53 (by rw [kV_size]; omega) (set_k14 _ _ _ _ _ _ _) ?_; intro w6 X9 K6))
  have hS4 := S4.size
  have hgx : g5 ≠ w0.heap.size := by have := (hrl g5 N5).2; omega
  have hgm : g5 ≠ bm := (hrow g5 N5).2
  have E4 : Off (fun j => j = bm ∨ G pp = some j) w w4 := Off.of S4
  have hGp : G pp = some g5 := by rw [← hadr]; exact N5
  have E5 := E4.grow G5 (fun g e => .inr (.inr (by cases e; exact hGp)))
  have E6 := E5.but K6 (.inl (by omega))
  have M5 := (hM0.below S4).kept G5 (fun e => hgm (by cases e; rfl))
  have hneX : w0.heap.size ≠ bm := by omega
  have M6 := M5.off (S := fun j => j = w0.heap.size) (Off.but (Off.refl _) K6 (.inr rfl)) (Ne.symm hneX)
  have O6 := own_but O5 K6 (fun e => hgx (by cases e; rfl))
  have Y9 := E6.box hB0 (by
    rintro (e | e)
    · exact hneM e
    · exact (hrow B (by rw [hadr]; exact e)).1 rfl)
  have M9 : MapV w6.drew bm _ ks := M6
  have hE : Off (fun j => j = bm ∨ G pp = some j) w w6.drew := E6.up (Below.refl _ w6).drew
  have O9 := O6.drew
  have hN : ∀ q, some g5 = some q → G pp = some q ∨ w.heap.size ≤ q := fun q e => by cases e; exact .inl hGp
  have hO : ∀ W, But bm w6.drew W → W.ownsRow 0 3 1 (.slice (adr (some g5)) ((R pp).filter (fun x => x != id)).length c5) ((R pp).filter (fun x => x != id)).length (((R pp).filter (fun x => x != id)).map eI) := fun W hk => by
    have := own_but O9 hk (fun e => hgm (by cases e; rfl))
    rw [hm]
    exact this
  have hOo := Lib.hid hO
  have hNn := Lib.hid hN
  have hmm := Lib.hid hm
  have hneB : B ≠ bm := hneM
  clear hO hN O9 O6 M6 M5 E6 E5 E4 G5 K6 N5 O5 X6 hI r4 X5 hrow hadr hM0 hB0 hrl hr S4 X0 T0 Z4 hGp hm
  refine wp_region_held_drew (S := fun W => Box W B #[.map (some bm)] 48 ∧ Box W w0.heap.size (kV (S pp) (some ⟨g5, 0, none⟩) m c5) 62) (by kernel_rfl) ⟨Y9.drew, X9.drew⟩ (fun hHeld => ?_)
  refine wpAnyH_take (i := 0) (v := ?_) (by simp only [List.getElem?_toArray, List.getElem?_cons_zero]; rfl) (by kernel_rfl) (by kernel_rfl) (by kernel_rfl) (by exact fun _ _ _ h => h) (Or.inl ⟨by rfl, ?_⟩) (by assumption) ?_
  rotate_left
  · (intro w hSw; (try dsimp only at hSw); go_simp; (try with_reducible rfl))
  try simp only [Act.put, List.setIfInBounds_toArray, List.set_cons_zero, List.set_cons_succ]
  refine wpAnyH_take (i := 1) (v := ?_) (by simp only [List.getElem?_toArray, List.getElem?_cons_zero, List.getElem?_cons_succ]; rfl) (by kernel_rfl) (by kernel_rfl) (by kernel_rfl) (by exact fun _ _ _ h => h) (Or.inl ⟨by rfl, ?_⟩) (by assumption) ?_
  rotate_left
  · (intro w hSw; (try dsimp only at hSw); go_simp; (try with_reducible rfl))
  try simp only [Act.put, List.setIfInBounds_toArray, List.set_cons_zero, List.set_cons_succ]
  refine wpAnyH_take (i := 2) (v := ?_) (by simp only [List.getElem?_toArray, List.getElem?_cons_zero, List.getElem?_cons_succ]; rfl) (by kernel_rfl) (by kernel_rfl) (by kernel_rfl) (by exact fun _ _ _ h => h) (Or.inl ⟨by rfl, ?_⟩) (by assumption) ?_
  rotate_left
  · (intro w hSw; (try dsimp only at hSw); go_simp; (try with_reducible rfl))
  try simp only [Act.put, List.setIfInBounds_toArray, List.set_cons_zero, List.set_cons_succ]
  refine wpAnyH_take (i := 3) (v := .map (some bm)) (by simp only [List.getElem?_toArray, List.getElem?_cons_zero, List.getElem?_cons_succ]; rfl) (by kernel_rfl) (by kernel_rfl) (by kernel_rfl) (by exact fun _ _ _ h => h) (Or.inl ⟨by rfl, fun w hSw => xl_cell 46 hSw.1 rfl rfl Tryz.underlying46 rfl rfl⟩) (by assumption) ?_
  try simp only [Act.put, List.setIfInBounds_toArray, List.set_cons_zero, List.set_cons_succ]
  refine wpAnyH_take (i := 4) (v := ?_) (by simp only [List.getElem?_toArray, List.getElem?_cons_zero, List.getElem?_cons_succ]; rfl) (by kernel_rfl) (by kernel_rfl) (by kernel_rfl) (by exact fun _ _ _ h => h) (Or.inl ⟨by rfl, ?_⟩) (by assumption) ?_
  rotate_left
  · (intro w hSw; (try dsimp only at hSw); go_simp; (try with_reducible rfl))
  try simp only [Act.put, List.setIfInBounds_toArray, List.set_cons_zero, List.set_cons_succ]
  refine wpAnyH_take (i := 5) (v := .agg (kV (S pp) (some ⟨g5, 0, none⟩) m c5)) (by simp only [List.getElem?_toArray, List.getElem?_cons_zero, List.getElem?_cons_succ]; rfl) (by kernel_rfl) (by kernel_rfl) (by kernel_rfl) (by exact fun _ _ _ h => h) (Or.inl ⟨by rfl, fun w hSw => xl_load 62 hSw.2 rfl rfl Tryz.underlying62 rfl size62 (by omega : 0 + 15 ≤ 15) (kV_all _ _ _ _)⟩) (by assumption) ?_
  try simp only [Act.put, List.setIfInBounds_toArray, List.set_cons_zero, List.set_cons_succ]
  refine wpAnyH_ready (rs := [6]) (by kernel_rfl) (by simp) ?_
  refine AllReadyH.cons (by simp only [List.getElem?_toArray, List.getElem?_cons_zero, List.getElem?_cons_succ]; rfl) (fun K hK => ?_) AllReadyH.nil
  refine st_upd rfl rfl M9 hks rfl pp rfl hp (.agg (kV (S pp) (some ⟨g5, 0, none⟩) m c5)) rfl ?_
  intro wa Ma Ka Sa
  refine hK.out _ _ ⟨Ka.box hHeld.1 hneB, Ka.box hHeld.2 hneX⟩ (fun hHeld => ?_)
  clear hK K
  try simp only [Act.put, List.setIfInBounds_toArray, List.set_cons_zero, List.set_cons_succ]
  refine wpAnyH_done (by kernel_rfl) ?_ _
  go_wp2
  exact ⟨rfl, .tuple #[], by simp [results, Tryz.results39, go_sem], rfl, hF.out wa (some g5) c5 (hE.but Ka (.inr (.inl rfl))) (by rw [hmm.out]; exact Ma) (hOo.out _ Ka) hNn.out⟩
end
end Go.Proofs.YtpopcnebndgblaaGreat.H

namespace Go.Proofs.YtpopcnebndgblaaGreat.H
set_option linter.unusedVariables false
set_option linter.unusedSimpArgs false
/-- The spec of an Id; the zero one where there is none. -/
def getS (L : List Sp) (k : Int) : Sp := (atH L k).getD Sp.zero
def hasS (L : List Sp) (k : Int) : Bool := (atH L k).isSome
def idsL (L : List Sp) : List Int := L.map (·.id)
/-- What a tree of the program's may hold. -/
structure Fit (L : List Sp) : Prop where
  tree : Hrc L
  few : L.length ≤ 64
  each : ∀ p ∈ L, p.ok ∧ mayN p = 0
theorem Fit.nil : Fit [] := ⟨Hrc.nil, by simp, by simp⟩
theorem wi_of {n a b : Int} (h : wi n a b = true) : a ≤ n ∧ n ≤ b := of_decide_eq_true h
theorem may_id {p : Sp} (h : mayN p = 0) : (1 ≤ p.id ∧ p.id ≤ 65535) ∧ (0 ≤ p.par ∧ p.par ≤ 65535) ∧ p.par ≠ p.id := by
  unfold mayN at h
  cases hi : idB p with
  | false => rw [hi] at h; cases h
  | true =>
    unfold idB at hi
    simp only [Bool.and_eq_true] at hi
    exact ⟨wi_of hi.1.1, wi_of hi.1.2, by simpa using hi.2⟩
theorem may_or (p : Sp) : mayN p = 0 ∨ mayN p = 30 ∨ mayN p = 130 := by
  unfold mayN
  repeat' split
  all_goals simp
section
variable {L : List Sp}
theorem getS_mem (h : Hrc L) {p : Sp} (hp : p ∈ L) : getS L p.id = p := by unfold getS; rw [atH_of h.ord hp]; rfl
theorem getS_none {k : Int} (h : ∀ p ∈ L, p.id ≠ k) : getS L k = Sp.zero := by unfold getS; rw [atH_none h]; rfl
theorem hasS_mem (h : Hrc L) {p : Sp} (hp : p ∈ L) : hasS L p.id = true := by unfold hasS; rw [atH_of h.ord hp]; rfl
theorem hasS_none {k : Int} (h : ∀ p ∈ L, p.id ≠ k) : hasS L k = false := by unfold hasS; rw [atH_none h]; rfl
theorem has_or (L : List Sp) (k : Int) : (∃ p ∈ L, p.id = k) ∨ (∀ p ∈ L, p.id ≠ k) := by
  by_cases h : ∃ p ∈ L, p.id = k
  · exact .inl h
  · exact .inr (fun p hp e => h ⟨p, hp, e⟩)
theorem getS_ok (h : ∀ p ∈ L, p.ok) (k : Int) : (getS L k).ok := by
  unfold getS
  cases hk : atH L k with
  | none => exact Sp.zero_ok
  | some p => exact h p (atH_some hk).1
theorem Fit.ok (h : Fit L) (k : Int) : (getS L k).ok := getS_ok (fun p hp => (h.each p hp).1) k
theorem zero_id : Sp.zero.id = 0 := rfl
theorem getS_has (h : Hrc L) (k : Int) : (!decide (getS L k = Sp.zero)) = hasS L k := by
  rcases has_or L k with ⟨p, hp, rfl⟩ | hn
  · rw [getS_mem h hp, hasS_mem h hp]
    have := h.pos p hp
    rw [decide_eq_false]; rfl
    rintro rfl
    rw [zero_id] at this; omega
  · rw [getS_none hn, hasS_none hn, decide_eq_true rfl]; rfl
theorem no_zero (h : Hrc L) : ∀ p ∈ L, p.id ≠ 0 := fun p hp e => by have := h.pos p hp; omega
theorem pw_of (h : Hrc L) {k : Int} {l : List Int} (p : Pa L k l) : Pw (getS L) k l := by
  induction p with
  | top => exact .stop (getS_none (no_zero h))
  | @go c l hc _ ih =>
    refine .up ?_ (by rw [getS_mem h hc]; exact ih)
    rw [getS_mem h hc]
    rintro rfl
    exact no_zero h _ hc zero_id
theorem pw_any (h : Hrc L) (k : Int) : Pw (getS L) k (pathL L k) ∧ (pathL L k).length ≤ 8 := by
  rcases has_or L k with ⟨p, hp, rfl⟩ | hn
  · obtain ⟨l, hl, h8⟩ := h.way p hp
    rw [pathL_of h hl]
    exact ⟨pw_of h hl, h8⟩
  · rw [h.none hn]
    exact ⟨.stop (getS_none hn), by simp⟩
theorem underL_len (L : List Sp) (k : Int) : (underL L k).length ≤ L.length := by unfold underL; rw [List.length_map]; exact List.length_filter_le _ _
theorem underL_lt (h : Hrc L) (k : Int) : (underL L k).Pairwise (· < ·) := List.pairwise_map.2 (h.ord.filter _)
theorem underL_le (h : Hrc L) (k : Int) : (underL L k).Pairwise (· ≤ ·) := (underL_lt h k).imp (fun h => Int.le_of_lt h)
theorem mem_underL {k j : Int} : j ∈ underL L k ↔ ∃ p ∈ L, p.par = k ∧ p.id = j := by
  unfold underL
  simp only [List.mem_map, List.mem_filter, beq_iff_eq, and_assoc]
theorem underL_none (h : Hrc L) {k : Int} (hk : k ≠ 0) (hn : ∀ p ∈ L, p.id ≠ k) : underL L k = [] := by
  refine List.eq_nil_iff_forall_not_mem.2 fun j hj => ?_
  obtain ⟨p, hp, e, _⟩ := mem_underL.1 hj
  obtain ⟨q, hq, e', _⟩ := h.inn p hp (by rw [e]; exact hk)
  exact hn q hq (by rw [e', e])
theorem mem_ids {k : Int} : k ∈ idsL L ↔ ∃ p ∈ L, p.id = k := List.mem_map
theorem ids_lt (h : Hrc L) : (idsL L).Pairwise (· < ·) := List.pairwise_map.2 h.ord
theorem nodup_lt {l : List Int} (h : l.Pairwise (· < ·)) : l.Nodup := h.imp (fun h e => by omega)
theorem ids_nodup (h : Hrc L) : (0 :: idsL L).Nodup := List.nodup_cons.2 ⟨fun hm => by obtain ⟨p, hp, e⟩ := mem_ids.1 hm; exact no_zero h p hp e, nodup_lt (ids_lt h)⟩
/-- Rising rows of the same numbers are the same. -/
theorem rise_ext : ∀ {l m : List Int}, l.Pairwise (· < ·) → m.Pairwise (· < ·) → (∀ x, x ∈ l ↔ x ∈ m) → l = m
  | [], [], _, _, _ => rfl
  | [], d :: m, _, _, h => by have := (h d).2 (by simp); cases this
  | c :: l, [], _, _, h => by have := (h c).1 (by simp); cases this
  | c :: l, d :: m, hl, hm, h => by
    obtain ⟨l1, l2⟩ := List.pairwise_cons.1 hl
    obtain ⟨m1, m2⟩ := List.pairwise_cons.1 hm
    have e : c = d := by
      rcases List.mem_cons.1 ((h c).1 (by simp)) with e | h1
      · exact e
      · rcases List.mem_cons.1 ((h d).2 (by simp)) with e | h2
        · exact e.symm
        · have := l1 d h2; have := m1 c h1; omega
    subst e
    rw [rise_ext l2 m2 (fun x => ?_)]
    constructor
    · intro hx
      rcases List.mem_cons.1 ((h x).1 (by simp [hx])) with e | h1
      · have := l1 x hx; omega
      · exact h1
    · intro hx
      rcases List.mem_cons.1 ((h x).2 (by simp [hx])) with e | h1
      · have := m1 x hx; omega
      · exact h1
theorem take_count : ∀ {zs : List Int} {x : Int}, zs.Pairwise (· < ·) → (∀ y ∈ zs.take (zs.countP (· < x)), y < x) ∧ (∀ y ∈ zs.drop (zs.countP (· < x)), x ≤ y)
  | [], x, _ => by simp
  | z :: zs, x, h => by
    obtain ⟨h1, h2⟩ := List.pairwise_cons.1 h
    obtain ⟨i1, i2⟩ := take_count (x := x) h2
    by_cases hz : z < x
    · rw [List.countP_cons_of_pos (by simpa using hz), List.take_succ_cons, List.drop_succ_cons]
      refine ⟨fun y hy => ?_, i2⟩
      rcases List.mem_cons.1 hy with rfl | hy
      · exact hz
      · exact i1 y hy
    · have e : zs.countP (· < x) = 0 := List.countP_eq_zero.2 (fun y hy => by have := h1 y hy; simp; omega)
      rw [List.countP_cons_of_neg (by simpa using hz), e]
      refine ⟨by simp, fun y hy => ?_⟩
      rcases List.mem_cons.1 (by simpa using hy : y ∈ z :: zs) with rfl | hy
      · omega
      · have := h1 y hy; omega
theorem mem_putI {zs : List Int} {x y : Int} : y ∈ putI zs x ↔ y = x ∨ y ∈ zs := by
  unfold putI
  rw [List.mem_append, List.mem_cons]
  have e : y ∈ zs ↔ y ∈ zs.take (zs.countP (· < x)) ∨ y ∈ zs.drop (zs.countP (· < x)) := by rw [← List.mem_append, List.take_append_drop]
  rw [e]
  constructor
  · rintro (h | h | h)
    · exact .inr (.inl h)
    · exact .inl h
    · exact .inr (.inr h)
  · rintro (h | h | h)
    · exact .inr (.inl h)
    · exact .inl h
    · exact .inr (.inr h)
theorem putI_rise {zs : List Int} {x : Int} (h : zs.Pairwise (· < ·)) (hn : x ∉ zs) : (putI zs x).Pairwise (· < ·) := by
  obtain ⟨a, b⟩ := take_count (x := x) h
  unfold putI
  have hd : ∀ y ∈ zs.drop (zs.countP (· < x)), x < y := fun y hy => by
    have := b y hy
    have hm : y ≠ x := fun e => hn (e ▸ List.mem_of_mem_drop hy)
    omega
  refine List.pairwise_append.2 ⟨h.sublist (List.take_sublist _ _), List.pairwise_cons.2 ⟨hd, h.sublist (List.drop_sublist _ _)⟩, fun y hy z hz => ?_⟩
  have := a y hy
  rcases List.mem_cons.1 hz with rfl | hz
  · exact this
  · have := hd z hz; omega
/-! ### One that comes -/
theorem getS_ins (h : Hrc L) {s : Sp} (hi : Hrc (insL s L)) (hn : ∀ c ∈ L, c.id ≠ s.id) (k : Int) : getS (insL s L) k = upd (getS L) s.id s k := by
  by_cases hk : k = s.id
  · subst hk
    rw [upd_same]
    exact getS_mem hi (mem_insL.2 (.inl rfl))
  · rw [upd_ne _ _ hk]
    rcases has_or L k with ⟨p, hp, rfl⟩ | hno
    · rw [getS_mem h hp, getS_mem hi (mem_insL.2 (.inr hp))]
    · rw [getS_none hno, getS_none (fun p hp e => by
        rcases mem_insL.1 hp with rfl | hp
        · exact hk e.symm
        · exact hno p hp e)]
theorem underL_ins (h : Hrc L) {s : Sp} (hi : Hrc (insL s L)) (hn : ∀ c ∈ L, c.id ≠ s.id) (k : Int) : underL (insL s L) k = upd (underL L) s.par (putI (underL L s.par) s.id) k := by
  by_cases hk : k = s.par
  · subst hk
    rw [upd_same]
    refine rise_ext (underL_lt hi _) (putI_rise (underL_lt h _) (fun hm => ?_)) (fun x => ?_)
    · obtain ⟨p, hp, _, e⟩ := mem_underL.1 hm
      exact hn p hp e
    · rw [mem_underL, mem_putI, mem_underL]
      constructor
      · rintro ⟨p, hp, e1, e2⟩
        rcases mem_insL.1 hp with rfl | hp
        · exact .inl e2.symm
        · exact .inr ⟨p, hp, e1, e2⟩
      · rintro (e | ⟨p, hp, e1, e2⟩)
        · exact ⟨s, mem_insL.2 (.inl rfl), rfl, e.symm⟩
        · exact ⟨p, mem_insL.2 (.inr hp), e1, e2⟩
  · rw [upd_ne _ _ hk]
    refine rise_ext (underL_lt hi _) (underL_lt h _) (fun x => ?_)
    rw [mem_underL, mem_underL]
    constructor
    · rintro ⟨p, hp, e1, e2⟩
      rcases mem_insL.1 hp with rfl | hp
      · exact absurd e1.symm hk
      · exact ⟨p, hp, e1, e2⟩
    · rintro ⟨p, hp, e1, e2⟩
      exact ⟨p, mem_insL.2 (.inr hp), e1, e2⟩
theorem ins_len (s : Sp) : ∀ L : List Sp, (insL s L).length = L.length + 1
  | [] => rfl
  | c :: L => by
    unfold insL
    split
    · rw [List.length_cons, ins_len s L]; rfl
    · rfl
/-! ### One that goes -/
theorem getS_drop (h : Hrc L) {i : Int} (hd : Hrc (dropL L i)) (k : Int) : getS (dropL L i) k = upd (getS L) i Sp.zero k := by
  by_cases hk : k = i
  · subst hk
    rw [upd_same]
    exact getS_none (fun p hp => (mem_dropL.1 hp).2)
  · rw [upd_ne _ _ hk]
    rcases has_or L k with ⟨p, hp, rfl⟩ | hno
    · rw [getS_mem h hp, getS_mem hd (mem_dropL.2 ⟨hp, hk⟩)]
    · rw [getS_none hno, getS_none (fun p hp => hno p (mem_dropL.1 hp).1)]
theorem underL_drop (h : Hrc L) {c : Sp} (hc : c ∈ L) (hd : Hrc (dropL L c.id)) (k : Int) : underL (dropL L c.id) k = upd (underL L) c.par ((underL L c.par).filter (fun x => x != c.id)) k := by
  have hx : ∀ p ∈ L, p.id = c.id → p = c := fun p hp e => id_inj h.ord hp hc e
  by_cases hk : k = c.par
  · subst hk
    rw [upd_same]
    refine rise_ext (underL_lt hd _) ((underL_lt h _).filter _) (fun x => ?_)
    rw [mem_underL, List.mem_filter, mem_underL]
    constructor
    · rintro ⟨p, hp, e1, e2⟩
      obtain ⟨hp, hne⟩ := mem_dropL.1 hp
      exact ⟨⟨p, hp, e1, e2⟩, by simpa [← e2] using hne⟩
    · rintro ⟨⟨p, hp, e1, e2⟩, hne⟩
      exact ⟨p, mem_dropL.2 ⟨hp, by simpa [← e2] using hne⟩, e1, e2⟩
  · rw [upd_ne _ _ hk]
    refine rise_ext (underL_lt hd _) (underL_lt h _) (fun x => ?_)
    rw [mem_underL, mem_underL]
    constructor
    · rintro ⟨p, hp, e1, e2⟩
      exact ⟨p, (mem_dropL.1 hp).1, e1, e2⟩
    · rintro ⟨p, hp, e1, e2⟩
      exact ⟨p, mem_dropL.2 ⟨hp, fun e => hk (by rw [← e1, hx p hp e])⟩, e1, e2⟩
theorem drop_len (h : Hrc L) {c : Sp} (hc : c ∈ L) : (dropL L c.id).length ≤ L.length := List.length_filter_le _ _
/-! ### One that is changed -/
def chgF (s : Sp) (c : Sp) : Sp := if c.id = s.id then withS c s else c
def chgL (L : List Sp) (s : Sp) : List Sp := L.map (chgF s)
theorem chgF_id (s c : Sp) : (chgF s c).id = c.id := by unfold chgF; split <;> rfl
theorem chgF_par (s c : Sp) : (chgF s c).par = c.par := by unfold chgF; split <;> rfl
theorem chgF_leaf (s c : Sp) : (chgF s c).leaf = c.leaf := by unfold chgF; split <;> rfl
theorem _root_.Go.Proofs.YtpopcnebndgblaaGreat.Hrc.chg (h : Hrc L) (s : Sp) : Hrc (chgL L s) := h.map (chgF_id s) (chgF_par s) (chgF_leaf s)
theorem getS_chg (h : Hrc L) {s : Sp} {c : Sp} (hc : c ∈ L) (hs : c.id = s.id) (k : Int) : getS (chgL L s) k = upd (getS L) s.id (withS c s) k := by
  rcases has_or L k with ⟨p, hp, rfl⟩ | hno
  · have hm : chgF s p ∈ chgL L s := List.mem_map.2 ⟨p, hp, rfl⟩
    have e := getS_mem (h.chg s) hm
    rw [chgF_id] at e
    rw [e]
    by_cases hk : p.id = s.id
    · rw [hk, upd_same]
      obtain rfl := id_inj h.ord hp hc (by rw [hk, hs])
      unfold chgF; rw [if_pos hk]
    · rw [upd_ne _ _ hk, getS_mem h hp]
      unfold chgF; rw [if_neg hk]
  · have hk : k ≠ s.id := fun e => hno c hc (by rw [hs, e])
    rw [upd_ne _ _ hk, getS_none hno, getS_none (fun p hp => by
      obtain ⟨q, hq, rfl⟩ := List.mem_map.1 hp
      rw [chgF_id]; exact hno q hq)]
theorem underL_chg (s : Sp) : ∀ (L : List Sp) (k : Int), underL (chgL L s) k = underL L k
  | [], _ => rfl
  | c :: L, k => by
    have ih := underL_chg s L k
    unfold underL chgL at ih ⊢
    rw [List.map_cons]
    by_cases hk : c.par = k
    · rw [List.filter_cons_of_pos (by rw [chgF_par]; simpa using hk), List.filter_cons_of_pos (by simpa using hk), List.map_cons, List.map_cons, ih, chgF_id]
    · rw [List.filter_cons_of_neg (by rw [chgF_par]; simpa using hk), List.filter_cons_of_neg (by simpa using hk), ih]
theorem ids_chg (s : Sp) (L : List Sp) : idsL (chgL L s) = idsL L := by
  unfold idsL chgL
  rw [List.map_map]
  exact List.map_congr_left (fun c _ => chgF_id s c)
/-! ### What is told -/
def bearsL (L : List Sp) (k : Int) : Bool := (k == 0) || (hasS L k && !(getS L k).leaf && decide ((pathL L k).length < 8))
noncomputable def addE (L : List Sp) (s : Sp) : Int := if mayN s ≠ 0 then 130 else if 64 ≤ L.length then 4 else if hasS L s.id then 80 else if bearsL L s.par then 0 else 160
noncomputable def addL (L : List Sp) (s : Sp) : List Sp := if addE L s = 0 then insL s L else L
noncomputable def chgE (L : List Sp) (s : Sp) : Int := if hasS L s.id then (if mayN (withS (getS L s.id) s) = 0 then 0 else 130) else 81
noncomputable def chL (L : List Sp) (s : Sp) : List Sp := if chgE L s = 0 then chgL L s else L
def drpE (L : List Sp) (i : Int) : Int := if hasS L i then (if (underL L i).isEmpty then 0 else 161) else 81
def drpL (L : List Sp) (i : Int) : List Sp := if drpE L i = 0 then dropL L i else L
theorem hasS_iff {k : Int} : hasS L k = true ↔ ∃ p ∈ L, p.id = k := by
  unfold hasS
  rw [Option.isSome_iff_exists]
  constructor
  · rintro ⟨p, hp⟩; exact ⟨p, atH_some hp⟩
  · rintro ⟨p, hp, e⟩
    cases hk : atH L k with
    | some q => exact ⟨q, rfl⟩
    | none => exact absurd (List.find?_eq_none.1 hk p hp) (by simp [e])
theorem Fit.add (h : Fit L) {s : Sp} (hs : s.ok) : Fit (addL L s) := by
  unfold addL
  split
  · rename_i e
    unfold addE at e
    split at e
    · cases e
    · rename_i e1
      split at e
      · cases e
      · rename_i e2
        split at e
        · cases e
        · rename_i e3
          split at e
          · rename_i e4
            have hm : mayN s = 0 := by simpa using e1
            have hid := may_id hm
            refine ⟨h.tree.add (by omega) (fun c hc e5 => e3 (hasS_iff.2 ⟨c, hc, e5⟩)) ?_, by rw [ins_len]; omega, fun p hp => ?_⟩
            · unfold bearsL at e4
              simp only [Bool.or_eq_true, Bool.and_eq_true, beq_iff_eq, decide_eq_true_eq, Bool.not_eq_true'] at e4
              rcases e4 with e4 | ⟨⟨e4, e5⟩, e6⟩
              · exact .inl e4
              · obtain ⟨p, hp, e7⟩ := hasS_iff.1 e4
                refine .inr ⟨p, hp, e7, ?_, e6⟩
                rw [← e7, getS_mem h.tree hp] at e5
                exact e5
            · rcases mem_insL.1 hp with rfl | hp
              · exact ⟨hs, hm⟩
              · exact h.each p hp
          · cases e
  · exact h
theorem add_free {s : Sp} (e : addE L s = 0) : mayN s = 0 ∧ L.length < 64 ∧ (∀ c ∈ L, c.id ≠ s.id) ∧ bearsL L s.par = true := by
  unfold addE at e
  split at e
  · cases e
  · rename_i e1
    split at e
    · cases e
    · rename_i e2
      split at e
      · cases e
      · rename_i e3
        split at e
        · rename_i e4
          exact ⟨by simpa using e1, by omega, fun c hc e5 => e3 (hasS_iff.2 ⟨c, hc, e5⟩), e4⟩
        · cases e
theorem with_ok {c s : Sp} (h : c.ok) (k : s.ok) : (withS c s).ok := ⟨h.1, h.2.1, k.2.2.1, k.2.2.2.1, k.2.2.2.2.1, h.2.2.2.2.2⟩
theorem Fit.chg (h : Fit L) {s : Sp} (hs : s.ok) : Fit (chL L s) := by
  unfold chL
  split
  · rename_i e
    unfold chgE at e
    split at e
    · rename_i e1
      split at e
      · rename_i e2
        refine ⟨h.tree.chg s, by unfold chgL; rw [List.length_map]; exact h.few, fun p hp => ?_⟩
        obtain ⟨q, hq, rfl⟩ := List.mem_map.1 hp
        unfold chgF
        split
        · rename_i e3
          rw [← e3, getS_mem h.tree hq] at e2
          exact ⟨with_ok (h.each q hq).1 hs, e2⟩
        · exact h.each q hq
      · cases e
    · cases e
  · exact h
theorem Fit.drop (h : Fit L) (i : Int) : Fit (drpL L i) := by
  unfold drpL
  split
  · rename_i e
    unfold drpE at e
    split at e
    · split at e
      · rename_i e1 e2
        have hu : underL L i = [] := by simpa using e2
        refine ⟨h.tree.drop (fun c hc e3 => ?_), Nat.le_trans (List.length_filter_le _ _) h.few, fun p hp => h.each p (mem_dropL.1 hp).1⟩
        have := mem_underL.2 ⟨c, hc, e3, rfl⟩
        rw [hu] at this; cases this
      · cases e
    · cases e
  · exact h
end
end Go.Proofs.YtpopcnebndgblaaGreat.H

namespace Go.Proofs.YtpopcnebndgblaaGreat.H
open Go.ChangeShapes Go.WideShapes Go.Deep Go.RowKit
set_option linter.unusedVariables false
set_option linter.unusedSimpArgs false
/-- Block B is the program's tree of the classes L, in the colour c. -/
def Tre (w : World) (χ : Nat → Nat) (c B : Nat) (L : List Sp) : Prop := (∃ bm G Cp, T0 w χ c B bm G Cp (getS L) (underL L) (0 :: idsL L)) ∧ Fit L
theorem may30 (p : Sp) (hp : p.ok) (w : World) : Calls Tryz.prog 30 #[.agg (sV p)] w fun e w' => e = .returned (eI (mayN p)) ∧ Below w.heap.size w w' := May_any 12 sort12 (by omega) p hp w
theorem may33 (p : Sp) (hp : p.ok) (w : World) : Calls Tryz.prog 33 #[.agg (sV p)] w fun e w' => e = .returned (eI (mayN p)) ∧ Below w.heap.size w w' := rMay_any p hp w
theorem with37 (p q : Sp) (w : World) : Calls Tryz.prog 37 #[.agg (sV p), .agg (sV q)] w fun e w' => e = .returned (.agg (sV (withS p q))) ∧ Below w.heap.size w w' := With_any p q w
section
variable {w w' : World} {χ χ' : Nat → Nat} {c d B bm : Nat} {G : Int → Option Nat} {Cp : Int → Nat} {L : List Sp}
set_option maxHeartbeats 4000000 in
set_option maxRecDepth 100000 in
theorem bears_any (h : T0 w χ c B bm G Cp (getS L) (underL L) (0 :: idsL L)) (hF : Fit L) {k : Int} (hk : I64 k) :
    Calls Tryz.prog 31 #[ptr B, eI k] w fun e w' => e = .returned (.bool (bearsL L k)) ∧ Below w.heap.size w w' := by
  have hl := h.map.look_ok hk
  have c0 := h.box.cell 0
  have hu := undef_ne
  by_cases hm : k ∈ 0 :: idsL L
  · rw [decide_eq_true hm] at hl
    cases hlf : (getS L k).leaf with
    | true =>
      have hb : bearsL L k = false := by
        unfold bearsL
        rw [hlf]
        rcases List.mem_cons.1 hm with rfl | hm
        · rw [getS_none (no_zero hF.tree)] at hlf; cases hlf
        · obtain ⟨p, hp, rfl⟩ := mem_ids.1 hm
          have := no_zero hF.tree p hp
          simp [this]
      rw [hb]
      clear h hm hb
      go_enter Tryz.func31, Tryz.ntmps31
      go_upto_region 2 with (first
        | (refine wl_alloc 62 rfl rfl zero62 ?_; intro w1 X1 T1)
        | (refine wl_store 62 X1 rfl rfl rfl rfl size62 rfl (by omega : 0 + 15 ≤ 15) (kV_one _ _ _ _) (spl_kk _ _ _ _ _ _ _ _) ?_; intro w2 X2 K2; have S2 := K2.up T1 (Nat.le_refl _); have c2 := (X2.cell 2).trans (kV_2 _ _ _ _); rw [hlf] at c2))
      go_wp2
      go_ret
      exact ⟨by simp, S2⟩
    | false =>
      have hb : bearsL L k = decide ((pathL L k).length < 8) := by
        unfold bearsL
        rw [hlf]
        rcases List.mem_cons.1 hm with rfl | hm
        · rw [hF.tree.none (no_zero hF.tree)]; rfl
        · obtain ⟨p, hp, rfl⟩ := mem_ids.1 hm
          have := no_zero hF.tree p hp
          rw [hasS_mem hF.tree hp]
          simp [this]
      rw [hb]
      obtain ⟨hP, h8⟩ := pw_any hF.tree k
      have hPa := fun W (hW : Below w.heap.size w W) => path_any (h.below hW) hF.ok hk hP h8
      generalize (pathL L k).length = n at *
      clear h hm hb hP h8
      go_enter Tryz.func31, Tryz.ntmps31
      go_upto_region 2 with (first
        | (refine wl_alloc 62 rfl rfl zero62 ?_; intro w1 X1 T1)
        | (refine wl_store 62 X1 rfl rfl rfl rfl size62 rfl (by omega : 0 + 15 ≤ 15) (kV_one _ _ _ _) (spl_kk _ _ _ _ _ _ _ _) ?_; intro w2 X2 K2; have S2 := K2.up T1 (Nat.le_refl _); have c2 := (X2.cell 2).trans (kV_2 _ _ _ _); rw [hlf] at c2; have hP2 := hPa w2 S2))
      clear hPa hl c0
      go_wp2_with (first
        | (go_at_call 24; (with_reducible refine hP2.mono ?_); rintro e w3 ⟨v3, rfl, O3, T3⟩; obtain ⟨a3, c3, rfl, _⟩ := own_len O3; have S3 := ups S2 T3 S2.size))
      go_ret
      exact ⟨by simp; omega, S3⟩
  · rw [decide_eq_false hm] at hl
    have hb : bearsL L k = false := by
      unfold bearsL
      have h0 : (k == 0) = false := by simp; rintro rfl; exact hm (by simp)
      rw [h0, hasS_none (fun p hp e => hm (List.mem_cons.2 (.inr (mem_ids.2 ⟨p, hp, e⟩))))]
      rfl
    rw [hb]
    clear h hm hb
    go_enter Tryz.func31, Tryz.ntmps31
    go_upto_region 2 with (first
      | (refine wl_alloc 62 rfl rfl zero62 ?_; intro w1 X1 T1)
      | (refine wl_store 62 X1 rfl rfl rfl rfl size62 rfl (by omega : 0 + 15 ≤ 15) (kV_one _ _ _ _) (spl_kk _ _ _ _ _ _ _ _) ?_; intro w2 X2 K2; have S2 := K2.up T1 (Nat.le_refl _)))
    go_wp2
    go_ret
    exact ⟨by simp, S2⟩
theorem Tre.below (h : Tre w χ c B L) (hb : Below w.heap.size w w') : Tre w' χ c B L := by
  obtain ⟨⟨bm, G, Cp, h1⟩, h2⟩ := h
  exact ⟨⟨bm, G, Cp, h1.below hb⟩, h2⟩
theorem Tre.other (h : Tre w χ c B L) (k : Col χ χ' d w w') (hd : c ≠ d) : Tre w' χ' c B L := by
  obtain ⟨⟨bm, G, Cp, h1⟩, h2⟩ := h
  exact ⟨⟨bm, G, Cp, h1.other k hd⟩, h2⟩
theorem Tre.new (h : Tre w χ c B L) (hb : Below w.heap.size w w') (d : Nat) : Tre w' (recol χ w.heap.size d) c B L := by
  obtain ⟨⟨bm, G, Cp, h1⟩, h2⟩ := h
  exact ⟨⟨bm, G, Cp, h1.new hb d⟩, h2⟩
theorem T0.say {S S' : Int → Sp} {R R' : Int → List Int} {ks js : List Int} (h : T0 w χ c B bm G Cp S R ks) (hs : ∀ k, S k = S' k) (hr : ∀ k, R k = R' k) (hn : js.Nodup) (hk : ∀ k, k ∈ ks ↔ k ∈ js) : T0 w χ c B bm G Cp S' R' js := by
  obtain rfl : S = S' := funext hs
  obtain rfl : R = R' := funext hr
  exact ⟨h.box, h.colB, h.colM, h.map.keys hn hk, h.rows, h.colR, h.apart, h.few, Nat.le_trans (nodup_le hn (fun x hx => (hk x).2 hx)) h.many⟩
theorem tre_len (h : T0 w χ c B bm G Cp (getS L) (underL L) (0 :: idsL L)) : Calls Tryz.prog 21 #[ptr B] w fun e w' => e = .returned (eI (L.length : Int)) ∧ w = w' :=
  (len_any h).mono fun e w' ⟨x, y⟩ => ⟨by rw [x, List.length_cons]; unfold idsL; rw [List.length_map]; congr 2; omega, y⟩
set_option maxHeartbeats 4000000 in
set_option maxRecDepth 100000 in
theorem add_shape (h : T0 w χ c B bm G Cp (getS L) (underL L) (0 :: idsL L)) {s : Sp} (hs : s.ok) (hm : mayN s = 30 ∨ mayN s = 130) :
    Calls Tryz.prog 11 #[ptr B, .agg (sV s)] w fun e w' => e = .returned (eI (130)) ∧ Below w.heap.size w w' := by
  rcases hm with hm | hm
  all_goals
    go_enter Tryz.func11, Tryz.ntmps11
    go_wp2_with (first
      | (refine wl_box 34 rfl rfl rfl ?_; intro w1 X1 T1; have h1 := h.below T1; have hM := made_yes h1.box; have hY := may30 s hs w1; have c01 := (X1.cell 0).trans (sV_0 _); have c11 := (X1.cell 1).trans (sV_1 _))
      | (go_at_call 29; (with_reducible refine hM.mono ?_); rintro e w2 ⟨rfl, rfl⟩)
      | (refine wl_load 34 X1 rfl rfl rfl Tryz.underlying34 rfl size34 (by omega : 0 + 14 ≤ 14) (sV_all _) ?_)
      | (go_at_call 30; (with_reducible refine hY.mono ?_); rintro e w3 ⟨rfl, T3⟩; rw [hm]; have S3 := ups T1 T3 T1.size))
    go_ret
    exact ⟨by simp, S3⟩
set_option maxHeartbeats 4000000 in
set_option maxRecDepth 100000 in
theorem add_full (h : T0 w χ c B bm G Cp (getS L) (underL L) (0 :: idsL L)) {s : Sp} (hs : s.ok) (hm : mayN s = 0) (hl : 64 ≤ L.length) :
    Calls Tryz.prog 11 #[ptr B, .agg (sV s)] w fun e w' => e = .returned (eI (4)) ∧ Below w.heap.size w w' := by
  have hli : (64 : Int) ≤ (L.length : Int) := by omega
  go_enter Tryz.func11, Tryz.ntmps11
  go_wp2_with (first
    | (refine wl_box 34 rfl rfl rfl ?_; intro w1 X1 T1; have h1 := h.below T1; have hM := made_yes h1.box; have hY := may30 s hs w1; have c01 := (X1.cell 0).trans (sV_0 _); have c11 := (X1.cell 1).trans (sV_1 _))
    | (go_at_call 29; (with_reducible refine hM.mono ?_); rintro e w2 ⟨rfl, rfl⟩)
    | (refine wl_load 34 X1 rfl rfl rfl Tryz.underlying34 rfl size34 (by omega : 0 + 14 ≤ 14) (sV_all _) ?_)
    | (go_at_call 30; (with_reducible refine hY.mono ?_); rintro e w3 ⟨rfl, T3⟩; rw [hm]; have X3 := X1.below T3; have S3 := ups T1 T3 T1.size; have h3 := h.below S3; have hL := tre_len h3; have c03 := (X3.cell 0).trans (sV_0 _); have c13 := (X3.cell 1).trans (sV_1 _))
    | (go_at_call 21; (with_reducible refine hL.mono ?_); rintro e w4 ⟨rfl, rfl⟩))
  go_ret
  exact ⟨by simp, S3⟩
set_option maxHeartbeats 4000000 in
set_option maxRecDepth 100000 in
theorem add_twice (h : T0 w χ c B bm G Cp (getS L) (underL L) (0 :: idsL L)) {s : Sp} (hs : s.ok) (hm : mayN s = 0) (hl : L.length < 64) (hg : getS L s.id ≠ Sp.zero) :
    Calls Tryz.prog 11 #[ptr B, .agg (sV s)] w fun e w' => e = .returned (eI (80)) ∧ Below w.heap.size w w' := by
  have hli : ¬ (64 : Int) ≤ (L.length : Int) := by omega
  go_enter Tryz.func11, Tryz.ntmps11
  go_wp2_with (first
    | (refine wl_box 34 rfl rfl rfl ?_; intro w1 X1 T1; have h1 := h.below T1; have hM := made_yes h1.box; have hY := may30 s hs w1; have c01 := (X1.cell 0).trans (sV_0 _); have c11 := (X1.cell 1).trans (sV_1 _))
    | (go_at_call 29; (with_reducible refine hM.mono ?_); rintro e w2 ⟨rfl, rfl⟩)
    | (refine wl_load 34 X1 rfl rfl rfl Tryz.underlying34 rfl size34 (by omega : 0 + 14 ≤ 14) (sV_all _) ?_)
    | (go_at_call 30; (with_reducible refine hY.mono ?_); rintro e w3 ⟨rfl, T3⟩; rw [hm]; have X3 := X1.below T3; have S3 := ups T1 T3 T1.size; have h3 := h.below S3; have hL := tre_len h3; have hG := get_yes h3 hs.1 hg; have c03 := (X3.cell 0).trans (sV_0 _); have c13 := (X3.cell 1).trans (sV_1 _))
    | (go_at_call 21; (with_reducible refine hL.mono ?_); rintro e w4 ⟨rfl, rfl⟩)
    | (go_at_call 20; (with_reducible refine hG.mono ?_); rintro e w5 ⟨rfl, T5⟩; have X5 := X3.below T5; have S5 := ups S3 T5 S3.size)
    | (refine wl_alloc 34 rfl rfl zero34 ?_; intro w6 X6 T6; have X7 := X5.below T6; have S6 := ups S5 T6 S5.size)
    | (refine wl_store 34 X6 rfl rfl rfl rfl size34 rfl (by omega : 0 + 14 ≤ 14) (sV_one _) (spl_ss _ _) ?_; intro w8 X8 K8; have S8 := K8.up S6 S5.size; have X9 := K8.box X7 (Nat.ne_of_lt X5.lt); have c08 := (X9.cell 0).trans (sV_0 _); have c18 := (X9.cell 1).trans (sV_1 _)))
  go_ret
  exact ⟨by simp, S8⟩
set_option maxHeartbeats 4000000 in
set_option maxRecDepth 100000 in
theorem add_parent (h : T0 w χ c B bm G Cp (getS L) (underL L) (0 :: idsL L)) (hF : Fit L) {s : Sp} (hs : s.ok) (hm : mayN s = 0) (hl : L.length < 64) (hg : getS L s.id = Sp.zero) (hb : bearsL L s.par = false) :
    Calls Tryz.prog 11 #[ptr B, .agg (sV s)] w fun e w' => e = .returned (eI (160)) ∧ Below w.heap.size w w' := by
  have hli : ¬ (64 : Int) ≤ (L.length : Int) := by omega
  go_enter Tryz.func11, Tryz.ntmps11
  go_wp2_with (first
    | (refine wl_box 34 rfl rfl rfl ?_; intro w1 X1 T1; have h1 := h.below T1; have hM := made_yes h1.box; have hY := may30 s hs w1; have c01 := (X1.cell 0).trans (sV_0 _); have c11 := (X1.cell 1).trans (sV_1 _))
    | (go_at_call 29; (with_reducible refine hM.mono ?_); rintro e w2 ⟨rfl, rfl⟩)
    | (refine wl_load 34 X1 rfl rfl rfl Tryz.underlying34 rfl size34 (by omega : 0 + 14 ≤ 14) (sV_all _) ?_)
    | (go_at_call 30; (with_reducible refine hY.mono ?_); rintro e w3 ⟨rfl, T3⟩; rw [hm]; have X3 := X1.below T3; have S3 := ups T1 T3 T1.size; have h3 := h.below S3; have hL := tre_len h3; have hG := get_no h3 hs.1 hg; have c03 := (X3.cell 0).trans (sV_0 _); have c13 := (X3.cell 1).trans (sV_1 _))
    | (go_at_call 21; (with_reducible refine hL.mono ?_); rintro e w4 ⟨rfl, rfl⟩)
    | (go_at_call 20; (with_reducible refine hG.mono ?_); rintro e w5 ⟨rfl, T5⟩; have X5 := X3.below T5; have S5 := ups S3 T5 S3.size)
    | (refine wl_alloc 34 rfl rfl zero34 ?_; intro w6 X6 T6; have X7 := X5.below T6; have S6 := ups S5 T6 S5.size)
    | (refine wl_store 34 X6 rfl rfl rfl rfl size34 rfl (by omega : 0 + 14 ≤ 14) (sV_one _) (spl_ss _ _) ?_; intro w8 X8 K8; have S8 := K8.up S6 S5.size; have X9 := K8.box X7 (Nat.ne_of_lt X5.lt); have h8 := h.below S8; have hB := bears_any h8 hF hs.2.1; rw [hb] at hB; have c08 := (X9.cell 0).trans (sV_0 _); have c18 := (X9.cell 1).trans (sV_1 _))
    | (go_at_call 31; (with_reducible refine hB.mono ?_); rintro e wb ⟨rfl, Tb⟩; have Xb := X9.below Tb; have Sb := ups S8 Tb S8.size))
  go_ret
  exact ⟨by simp, Sb⟩
end
end Go.Proofs.YtpopcnebndgblaaGreat.H

namespace Go.Proofs.YtpopcnebndgblaaGreat.H
open Go.ChangeShapes Go.WideShapes Go.Deep Go.RowKit
set_option linter.unusedVariables false
set_option linter.unusedSimpArgs false
section
variable {w w' : World} {χ χ' : Nat → Nat} {c d B bm : Nat} {G : Int → Option Nat} {Cp : Int → Nat} {L : List Sp}
set_option maxHeartbeats 4000000 in
set_option maxRecDepth 100000 in
theorem add_ok (h : T0 w χ c B bm G Cp (getS L) (underL L) (0 :: idsL L)) (hF : Fit L) {s : Sp} (hs : s.ok) (he : addE L s = 0) :
    Calls Tryz.prog 11 #[ptr B, .agg (sV s)] w fun e w' => e = .returned (eI 0) ∧ ∃ χ', Tre w' χ' c B (insL s L) ∧ Col χ χ' c w w' := by
  obtain ⟨hm, hl, hn, hb⟩ := add_free he
  have hFi : Fit (insL s L) := by have := hF.add hs; unfold addL at this; rwa [if_pos he] at this
  have hid := may_id hm
  have hg : getS L s.id = Sp.zero := getS_none hn
  have hli : ¬ (64 : Int) ≤ (L.length : Int) := by omega
  have hks : (0 :: idsL L).length ≤ 5000 := by have := h.many; omega
  have hnk : s.id ∉ 0 :: idsL L := fun e => by
    rcases List.mem_cons.1 e with e | e
    · omega
    · obtain ⟨p, hp, e⟩ := mem_ids.1 e; exact hn p hp e
  have hpk : s.par ∈ s.id :: 0 :: idsL L := by
    refine List.mem_cons.2 (.inr ?_)
    unfold bearsL at hb
    simp only [Bool.or_eq_true, Bool.and_eq_true, beq_iff_eq] at hb
    rcases hb with hb | ⟨⟨hb, _⟩, _⟩
    · rw [hb]; simp
    · obtain ⟨p, hp, e⟩ := hasS_iff.1 hb
      exact List.mem_cons.2 (.inr (mem_ids.2 ⟨p, hp, e⟩))
  have hneB := h.neM
  have hbl := h.box.lt
  have hml := h.map.lt
  have hneX : w.heap.size ≠ bm := by omega
  -- behind the store: the class is there, no row has it yet
  have hturn : ∀ wb wc, Below w.heap.size w wb → MapV wc bm (fun j => if j = s.id then .agg (kV s none 0 0) else .agg (kV (getS L j) (adr (G j)) (underL L j).length (Cp j))) (if s.id ∈ 0 :: idsL L then 0 :: idsL L else s.id :: 0 :: idsL L) → But bm wb.drew wc →
      ∃ χ1 G1 C1, T0 wc χ1 c B bm G1 C1 (upd (getS L) s.id s) (upd (underL L) s.id []) (s.id :: 0 :: idsL L) ∧ Col χ χ1 c w wc := fun wb wc hw hM hk => by
    have hb' := (Below.refl w.heap.size w).trans hw
    rw [if_neg hnk] at hM
    have E : Off (fun j => j = bm ∨ G s.id = some j) w wc := (Off.of hw.drew).but hk (.inr (.inl rfl))
    obtain ⟨t, k⟩ := h.turn (k := s.id) (p := s) (g' := none) (c' := 0) (zs := []) E hM (World.ownsRow_nil _ _ _ _) (fun q e => by cases e) (by simp) (by simp only [List.length_cons]; unfold idsL; rw [List.length_map]; omega)
    exact ⟨_, _, _, t, k⟩
  have hRp : upd (underL L) s.id [] s.par = underL L s.par := upd_ne _ _ hid.2.2
  -- behind the call: it is hung
  have hhang : ∀ wc, (∃ χ1 G1 C1, T0 wc χ1 c B bm G1 C1 (upd (getS L) s.id s) (upd (underL L) s.id []) (s.id :: 0 :: idsL L) ∧ Col χ χ1 c w wc) →
      Calls Tryz.prog 32 #[ptr B, eI s.id, eI s.par] wc fun e w' => e = .returned (.tuple #[]) ∧ ∃ χ', Tre w' χ' c B (insL s L) ∧ Col χ χ' c w w' := fun wc ⟨χ1, G1, C1, t, k⟩ => by
    have hrl : (underL L s.par).length < 64 := Nat.lt_of_le_of_lt (underL_len L s.par) hl
    refine (hang_any t hs.2.1 hpk (by rw [hRp]; exact underL_le hF.tree _) (by rw [hRp]; exact hrl)).mono ?_
    rintro e w' ⟨rfl, G2, C2, t2, k2⟩
    refine ⟨rfl, _, ⟨⟨bm, G2, C2, t2.say (fun j => (getS_ins hF.tree hFi.tree hn j).symm) (fun j => ?_) (ids_nodup hFi.tree) (fun j => ?_)⟩, hFi⟩, k.trans k2⟩
    · rw [underL_ins hF.tree hFi.tree hn j, hRp]
      by_cases hj : j = s.par
      · subst hj; rw [upd_same, upd_same]
      · rw [upd_ne _ _ hj, upd_ne _ _ hj]
        by_cases hj2 : j = s.id
        · subst hj2
          rw [upd_same]
          exact (underL_none hF.tree (by omega) hn).symm
        · rw [upd_ne _ _ hj2]
    · rw [List.mem_cons, List.mem_cons, List.mem_cons, mem_ids, mem_ids]
      constructor
      · rintro (e | e | ⟨p, hp, e⟩)
        · exact .inr ⟨s, mem_insL.2 (.inl rfl), e.symm⟩
        · exact .inl e
        · exact .inr ⟨p, mem_insL.2 (.inr hp), e⟩
      · rintro (e | ⟨p, hp, e⟩)
        · exact .inr (.inl e)
        · rcases mem_insL.1 hp with rfl | hp
          · exact .inl e.symm
          · exact .inr (.inr ⟨p, hp, e⟩)
  have hT := Lib.hid hturn
  have hH := Lib.hid hhang
  have hsp := hs.2.1
  clear hturn hhang hid hnk hpk hRp hn hl
  go_enter Tryz.func11, Tryz.ntmps11
  go_upto_region 12 with (first
    | (refine wl_box 34 rfl rfl rfl ?_; intro w1 X1 T1; have h1 := h.below T1; have hM := made_yes h1.box; have hY := may30 s hs w1; have c01 := (X1.cell 0).trans (sV_0 _); have c11 := (X1.cell 1).trans (sV_1 _))
    | (go_at_call 29; (with_reducible refine hM.mono ?_); rintro e w2 ⟨rfl, rfl⟩)
    | (refine wl_load 34 X1 rfl rfl rfl Tryz.underlying34 rfl size34 (by omega : 0 + 14 ≤ 14) (sV_all _) ?_)
    | (go_at_call 30; (with_reducible refine hY.mono ?_); rintro e w3 ⟨rfl, T3⟩; rw [hm]; have X3 := X1.below T3; have S3 := ups T1 T3 T1.size; have h3 := h.below S3; have hL := tre_len h3; have hG := get_no h3 hs.1 hg; have c03 := (X3.cell 0).trans (sV_0 _); have c13 := (X3.cell 1).trans (sV_1 _))
    | (go_at_call 21; (with_reducible refine hL.mono ?_); rintro e w4 ⟨rfl, rfl⟩)
    | (go_at_call 20; (with_reducible refine hG.mono ?_); rintro e w5 ⟨rfl, T5⟩; have X5 := X3.below T5; have S5 := ups S3 T5 S3.size)
    | (refine wl_alloc 34 rfl rfl zero34 ?_; intro w6 X6 T6; have X7 := X5.below T6; have S6 := ups S5 T6 S5.size)
    | (refine wl_store 34 X6 rfl rfl rfl rfl size34 rfl (by omega : 0 + 14 ≤ 14) (sV_one _) (spl_ss _ _) ?_; intro w8 X8 K8; have S8 := K8.up S6 S5.size; have X9 := K8.box X7 (Nat.ne_of_lt X5.lt); have h8 := h.below S8; have hB := bears_any h8 hF hs.2.1; rw [hb] at hB; have c08 := (X9.cell 0).trans (sV_0 _); have c18 := (X9.cell 1).trans (sV_1 _))
    | (go_at_call 31; (with_reducible refine hB.mono ?_); rintro e wb ⟨rfl, Tb⟩; have Xb := X9.below Tb; have Sb := ups S8 Tb S8.size))
  have hb' := h.below Sb
  have Yb := hb'.box
  have Mb : MapV wb.drew bm _ _ := hb'.map
  clear hb' X1 T1 h1 c01 c11 T3 X3 S3 h3 c03 c13 T5 X5 S5 X6 T6 X7 S6 X8 K8 S8 X9 h8 c08 c18 Tb h hM hY hL hG hB
  refine wp_region_held_drew (S := fun W => Box W B #[.map (some bm)] 48 ∧ Box W w.heap.size (sV s) 34) (by kernel_rfl) ⟨Yb.drew, Xb.drew⟩ (fun hHeld => ?_)
  refine wpAnyH_take (i := 0) (v := ?_) (by simp only [List.getElem?_toArray, List.getElem?_cons_zero]; rfl) (by kernel_rfl) (by kernel_rfl) (by kernel_rfl) (by exact fun _ _ _ h => h) (Or.inl ⟨by rfl, ?_⟩) (by assumption) ?_
  rotate_left
  · (intro w hSw; (try dsimp only at hSw); go_simp; (try with_reducible rfl))
  try simp only [Act.put, List.setIfInBounds_toArray, List.set_cons_zero, List.set_cons_succ]
  refine wpAnyH_take (i := 1) (v := ?_) (by simp only [List.getElem?_toArray, List.getElem?_cons_zero, List.getElem?_cons_succ]; rfl) (by kernel_rfl) (by kernel_rfl) (by kernel_rfl) (by exact fun _ _ _ h => h) (Or.inl ⟨by rfl, ?_⟩) (by assumption) ?_
  rotate_left
  · (intro w hSw; (try dsimp only at hSw); go_simp; (try with_reducible rfl))
  try simp only [Act.put, List.setIfInBounds_toArray, List.set_cons_zero, List.set_cons_succ]
  refine wpAnyH_take (i := 2) (v := ?_) (by simp only [List.getElem?_toArray, List.getElem?_cons_zero, List.getElem?_cons_succ]; rfl) (by kernel_rfl) (by kernel_rfl) (by kernel_rfl) (by exact fun _ _ _ h => h) (Or.inl ⟨by rfl, ?_⟩) (by assumption) ?_
  rotate_left
  · (intro w hSw; (try dsimp only at hSw); go_simp; (try with_reducible rfl))
  try simp only [Act.put, List.setIfInBounds_toArray, List.set_cons_zero, List.set_cons_succ]
  refine wpAnyH_take (i := 3) (v := .map (some bm)) (by simp only [List.getElem?_toArray, List.getElem?_cons_zero, List.getElem?_cons_succ]; rfl) (by kernel_rfl) (by kernel_rfl) (by kernel_rfl) (by exact fun _ _ _ h => h) (Or.inl ⟨by rfl, fun w hSw => xl_cell 46 hSw.1 rfl rfl Tryz.underlying46 rfl rfl⟩) (by assumption) ?_
  try simp only [Act.put, List.setIfInBounds_toArray, List.set_cons_zero, List.set_cons_succ]
  refine wpAnyH_take (i := 4) (v := ?_) (by simp only [List.getElem?_toArray, List.getElem?_cons_zero, List.getElem?_cons_succ]; rfl) (by kernel_rfl) (by kernel_rfl) (by kernel_rfl) (by exact fun _ _ _ h => h) (Or.inl ⟨by rfl, ?_⟩) (by assumption) ?_
  rotate_left
  · (intro w hSw; (try dsimp only at hSw); go_simp; (try with_reducible rfl))
  try simp only [Act.put, List.setIfInBounds_toArray, List.set_cons_zero, List.set_cons_succ]
  refine wpAnyH_take (i := 5) (v := eI s.id) (by simp only [List.getElem?_toArray, List.getElem?_cons_zero, List.getElem?_cons_succ]; rfl) (by kernel_rfl) (by kernel_rfl) (by kernel_rfl) (by exact fun _ _ _ h => h) (Or.inl ⟨by rfl, fun w hSw => xl_cell 3 hSw.2 rfl rfl Tryz.underlying3 rfl (sV_0 _)⟩) (by assumption) ?_
  try simp only [Act.put, List.setIfInBounds_toArray, List.set_cons_zero, List.set_cons_succ]
  refine wpAnyH_take (i := 6) (v := .agg (sV s)) (by simp only [List.getElem?_toArray, List.getElem?_cons_zero, List.getElem?_cons_succ]; rfl) (by kernel_rfl) (by kernel_rfl) (by kernel_rfl) (by exact fun _ _ _ h => h) (Or.inl ⟨by rfl, fun w hSw => xl_load 34 hSw.2 rfl rfl Tryz.underlying34 rfl size34 (by omega : 0 + 14 ≤ 14) (sV_all _)⟩) (by assumption) ?_
  try simp only [Act.put, List.setIfInBounds_toArray, List.set_cons_zero, List.set_cons_succ]
  refine wpAnyH_take (i := 7) (v := .agg (kV s none 0 0)) (by simp only [List.getElem?_toArray, List.getElem?_cons_zero, List.getElem?_cons_succ]; rfl) (by kernel_rfl) (by kernel_rfl) (by kernel_rfl) (by exact fun _ _ _ h => h) (Or.inl ⟨by rfl, fun w hSw => xl_build 62 (parts := [(0, .tmp 35)]) (built62s s) rfl⟩) (by assumption) ?_
  try simp only [Act.put, List.setIfInBounds_toArray, List.set_cons_zero, List.set_cons_succ]
  refine wpAnyH_ready (rs := [8]) (by kernel_rfl) (by simp) ?_
  refine AllReadyH.cons (by simp only [List.getElem?_toArray, List.getElem?_cons_zero, List.getElem?_cons_succ]; rfl) (fun K hK => ?_) AllReadyH.nil
  refine st_upd rfl rfl Mb hks rfl s.id rfl hs.1 (.agg (kV s none 0 0)) rfl ?_
  intro wc Mc Kc Sc
  refine hK.out _ _ ⟨Kc.box hHeld.1 hneB, Kc.box hHeld.2 hneX⟩ (fun hHeld => ?_)
  clear hK K
  try simp only [Act.put, List.setIfInBounds_toArray, List.set_cons_zero, List.set_cons_succ]
  refine wpAnyH_done (by kernel_rfl) ?_ _
  have hW := hT.out wb wc Sb Mc Kc
  have hC := hH.out wc hW
  have d0 := (hHeld.2.cell 0).trans (sV_0 _)
  have d1 := (hHeld.2.cell 1).trans (sV_1 _)
  clear hW Mc Mb Yb Xb Sb Kc
  go_wp2_with (first
    | (go_at_call 32; (with_reducible refine hC.mono ?_); rintro e wd ⟨rfl, hd⟩))
  go_ret
  exact ⟨rfl, hd⟩
theorem add_any (h : Tre w χ c B L) {s : Sp} (hs : s.ok) :
    Calls Tryz.prog 11 #[ptr B, .agg (sV s)] w fun e w' => e = .returned (eI (addE L s)) ∧ ∃ χ', Tre w' χ' c B (addL L s) ∧ Col χ χ' c w w' := by
  have hT := h
  obtain ⟨⟨bm, G, Cp, h1⟩, hF⟩ := h
  by_cases he : addE L s = 0
  · unfold addL
    rw [if_pos he, he]
    exact add_ok h1 hF hs he
  · have hno : addL L s = L := if_neg he
    rw [hno]
    have fin : ∀ x, addE L s = x → (Calls Tryz.prog 11 #[ptr B, .agg (sV s)] w fun e w' => e = .returned (eI x) ∧ Below w.heap.size w w') → Calls Tryz.prog 11 #[ptr B, .agg (sV s)] w fun e w' => e = .returned (eI (addE L s)) ∧ ∃ χ', Tre w' χ' c B L ∧ Col χ χ' c w w' := fun x e hc =>
      hc.mono fun e1 w' ⟨x1, y1⟩ => ⟨by rw [x1, e], χ, hT.below y1, Col.of y1⟩
    by_cases hm : mayN s = 0
    · have hm' : ¬ mayN s ≠ 0 := fun h => h hm
      by_cases hl : 64 ≤ L.length
      · exact fin 4 (by unfold addE; rw [if_neg hm', if_pos hl]) (add_full h1 hs hm hl)
      · by_cases hg : hasS L s.id = true
        · refine fin 80 (by unfold addE; rw [if_neg hm', if_neg hl, if_pos hg]) (add_twice h1 hs hm (by omega) ?_)
          obtain ⟨p, hp, e⟩ := hasS_iff.1 hg
          rw [← e, getS_mem hF.tree hp]
          rintro rfl
          exact no_zero hF.tree _ hp zero_id
        · have hn : ∀ p ∈ L, p.id ≠ s.id := fun p hp e => hg (hasS_iff.2 ⟨p, hp, e⟩)
          cases hb : bearsL L s.par with
          | true => exact absurd (by unfold addE; rw [if_neg hm', if_neg hl, if_neg hg, if_pos hb]) he
          | false => exact fin 160 (by unfold addE; rw [if_neg hm', if_neg hl, if_neg hg, hb]; rfl) (add_parent h1 hF hs hm (by omega) (getS_none hn) hb)
    · exact fin 130 (by unfold addE; rw [if_pos hm]) (add_shape h1 hs ((may_or s).resolve_left hm))
end
end Go.Proofs.YtpopcnebndgblaaGreat.H

namespace Go.Proofs.YtpopcnebndgblaaGreat.H
open Go.ChangeShapes Go.WideShapes Go.Deep Go.RowKit
set_option linter.unusedVariables false
set_option linter.unusedSimpArgs false
section
variable {w w' : World} {χ χ' : Nat → Nat} {c d B bm : Nat} {G : Int → Option Nat} {Cp : Int → Nat} {L : List Sp}
set_option maxHeartbeats 4000000 in
set_option maxRecDepth 100000 in
theorem chg_absent (h : T0 w χ c B bm G Cp (getS L) (underL L) (0 :: idsL L)) {s : Sp} (hs : s.ok) (hg : getS L s.id = Sp.zero) :
    Calls Tryz.prog 13 #[ptr B, .agg (sV s)] w fun e w' => e = .returned (eI (81)) ∧ Below w.heap.size w w' := by
  go_enter Tryz.func13, Tryz.ntmps13
  go_wp2_with (first
    | (refine wl_box 34 rfl rfl rfl ?_; intro w1 X1 T1; have h1 := h.below T1; have hM := made_yes h1.box; have c01 := (X1.cell 0).trans (sV_0 _); have hG := get_no h1 hs.1 hg)
    | (go_at_call 29; (with_reducible refine hM.mono ?_); rintro e w2 ⟨rfl, rfl⟩)
    | (go_at_call 20; (with_reducible refine hG.mono ?_); rintro e w3 ⟨rfl, T3⟩; have X3 := X1.below T3; have S3 := ups T1 T3 T1.size)
    | (refine wl_alloc 34 rfl rfl zero34 ?_; intro w4 X4 T4; have X5 := X3.below T4; have S4 := ups S3 T4 S3.size)
    | (refine wl_store 34 X4 rfl rfl rfl rfl size34 rfl (by omega : 0 + 14 ≤ 14) (sV_one _) (spl_ss _ _) ?_; intro w6 X6 K6; have S6 := K6.up S4 S3.size; have X7 := K6.box X5 (Nat.ne_of_lt X3.lt)))
  go_ret
  exact ⟨by simp, S6⟩
set_option maxHeartbeats 4000000 in
set_option maxRecDepth 100000 in
theorem chg_shape (h : T0 w χ c B bm G Cp (getS L) (underL L) (0 :: idsL L)) {s : Sp} (hs : s.ok) (hg : getS L s.id ≠ Sp.zero) (hwo : (withS (getS L s.id) s).ok) (hm : mayN (withS (getS L s.id) s) = 30 ∨ mayN (withS (getS L s.id) s) = 130) :
    Calls Tryz.prog 13 #[ptr B, .agg (sV s)] w fun e w' => e = .returned (eI (130)) ∧ Below w.heap.size w w' := by
  rcases hm with hm | hm
  all_goals
    go_enter Tryz.func13, Tryz.ntmps13
    go_upto_region 6 with (first
      | (refine wl_box 34 rfl rfl rfl ?_; intro w1 X1 T1; have h1 := h.below T1; have hM := made_yes h1.box; have c01 := (X1.cell 0).trans (sV_0 _); have hG := get_yes h1 hs.1 hg)
      | (go_at_call 29; (with_reducible refine hM.mono ?_); rintro e w2 ⟨rfl, rfl⟩)
      | (go_at_call 20; (with_reducible refine hG.mono ?_); rintro e w3 ⟨rfl, T3⟩; have X3 := X1.below T3; have S3 := ups T1 T3 T1.size)
      | (refine wl_alloc 34 rfl rfl zero34 ?_; intro w4 X4 T4; have X5 := X3.below T4; have S4 := ups S3 T4 S3.size)
      | (refine wl_store 34 X4 rfl rfl rfl rfl size34 rfl (by omega : 0 + 14 ≤ 14) (sV_one _) (spl_ss _ _) ?_; intro w6 X6 K6; have S6 := K6.up S4 S3.size; have X7 := K6.box X5 (Nat.ne_of_lt X3.lt)))
    have hne39 : w.heap.size ≠ w3.heap.size := Nat.ne_of_lt X3.lt
    go_wp2_with (first
      | (refine wl_load 34 X6 rfl rfl rfl Tryz.underlying34 rfl size34 (by omega : 0 + 14 ≤ 14) (sV_all _) ?_)
      | (refine wl_load 34 X7 rfl rfl rfl Tryz.underlying34 rfl size34 (by omega : 0 + 14 ≤ 14) (sV_all _) ?_; have hW := with37 (getS L s.id) s w6)
      | (go_at_call 37; (with_reducible refine hW.mono ?_); rintro e w8 ⟨rfl, T8⟩; have X8 := X6.below T8; have Y8 := X7.below T8; have S8 := ups S6 T8 S6.size)
      | (refine wl_store 34 X8 rfl rfl rfl rfl size34 rfl (by omega : 0 + 14 ≤ 14) (sV_one _) (spl_ss _ _) ?_; intro w9 X9 K9; have S9 := K9.up S8 S3.size; have Y9 := K9.box Y8 hne39; have hY := may30 (withS (getS L s.id) s) hwo w9)
      | (refine wl_load 34 X9 rfl rfl rfl Tryz.underlying34 rfl size34 (by omega : 0 + 14 ≤ 14) (sV_all _) ?_)
      | (go_at_call 30; (with_reducible refine hY.mono ?_); rintro e wa ⟨rfl, Ta⟩; rw [hm]; have Xa := X9.below Ta; have Ya := Y9.below Ta; have Sa := ups S9 Ta S9.size))
    go_ret
    exact ⟨by simp, Sa⟩
theorem xl_field1 {o : Oper} {a : Act} {w : World} {x : Operand} {p : Sp} {b : Option Addr} {n q : Nat} (ho : o.op = .field 62 x 1) (hx : a.eval x = .agg (kV p b n q)) : (execOp a.eval o).run Tryz.prog w = .ok (.value (.slice b n q)) w := by
  have hf := kfield1 p b n q w
  unfold execOp
  simp only [ho, hx, Sem.run_bind, hf, Result.andThen_ok, Sem.run_pure]
set_option maxHeartbeats 4000000 in
set_option maxRecDepth 100000 in
theorem chg_ok (h : T0 w χ c B bm G Cp (getS L) (underL L) (0 :: idsL L)) (hF : Fit L) {s : Sp} (hs : s.ok) (he : chgE L s = 0) :
    Calls Tryz.prog 13 #[ptr B, .agg (sV s)] w fun e w' => e = .returned (eI 0) ∧ ∃ χ', Tre w' χ' c B (chgL L s) ∧ Col χ χ' c w w' := by
  have hFc : Fit (chgL L s) := by have := hF.chg hs; unfold chL at this; rwa [if_pos he] at this
  obtain ⟨hh, hm⟩ : hasS L s.id = true ∧ mayN (withS (getS L s.id) s) = 0 := by
    unfold chgE at he
    split at he
    · rename_i e1
      split at he
      · rename_i e2; exact ⟨e1, e2⟩
      · cases he
    · cases he
  obtain ⟨q, hq, hqi⟩ := hasS_iff.1 hh
  have hgq : getS L s.id = q := by rw [← hqi]; exact getS_mem hF.tree hq
  have hg : getS L s.id ≠ Sp.zero := by
    rw [hgq]; rintro rfl; exact no_zero hF.tree _ hq zero_id
  have hwo : (withS (getS L s.id) s).ok := with_ok (hF.ok _) hs
  have hks : (0 :: idsL L).length ≤ 5000 := by have := h.many; omega
  have hnk : s.id ∈ 0 :: idsL L := List.mem_cons.2 (.inr (mem_ids.2 ⟨q, hq, hqi⟩))
  have hneB := h.neM
  have hbl := h.box.lt
  have hml := h.map.lt
  have hneX : w.heap.size ≠ bm := by omega
  have hturn : ∀ wb wc, Below w.heap.size w wb → MapV wc bm (fun j => if j = s.id then .agg (kV (withS (getS L s.id) s) (adr (G s.id)) (underL L s.id).length (Cp s.id)) else .agg (kV (getS L j) (adr (G j)) (underL L j).length (Cp j))) (if s.id ∈ 0 :: idsL L then 0 :: idsL L else s.id :: 0 :: idsL L) → But bm wb wc →
      ∃ χ1, Tre wc χ1 c B (chgL L s) ∧ Col χ χ1 c w wc := fun wb wc hw hM hk => by
    rw [if_pos hnk] at hM
    have E : Off (fun j => j = bm ∨ G s.id = some j) w wc := (Off.of hw).but hk (.inr (.inl rfl))
    have hO : wc.ownsRow 0 3 1 (.slice (adr (G s.id)) (underL L s.id).length (Cp s.id)) (underL L s.id).length ((underL L s.id).map eI) :=
      own_but (own_below (h.rows s.id) hw) hk (fun e => by rw [adr_own] at e; exact (h.rowB e).2 rfl)
    obtain ⟨t, k⟩ := h.turn (k := s.id) (p := withS (getS L s.id) s) (g' := G s.id) (c' := Cp s.id) (zs := underL L s.id) E hM hO (fun q e => .inl e) (h.few _) h.many
    refine ⟨_, ⟨⟨bm, _, _, t.say (fun j => ?_) (fun j => ?_) (ids_nodup hFc.tree) (fun j => by rw [ids_chg])⟩, hFc⟩, k⟩
    · rw [getS_chg hF.tree hq hqi j, hgq]
    · rw [underL_chg]
      by_cases hj : j = s.id
      · subst hj; rw [upd_same]
      · rw [upd_ne _ _ hj]
  have hT := Lib.hid hturn
  have h0 := h
  clear hturn hh hgq hqi hq hnk
  go_enter Tryz.func13, Tryz.ntmps13
  go_upto_region 6 with (first
    | (refine wl_box 34 rfl rfl rfl ?_; intro w1 X1 T1; have h1 := h.below T1; have hM := made_yes h1.box; have c01 := (X1.cell 0).trans (sV_0 _); have hG := get_yes h1 hs.1 hg)
    | (go_at_call 29; (with_reducible refine hM.mono ?_); rintro e w2 ⟨rfl, rfl⟩)
    | (go_at_call 20; (with_reducible refine hG.mono ?_); rintro e w3 ⟨rfl, T3⟩; have X3 := X1.below T3; have S3 := ups T1 T3 T1.size)
    | (refine wl_alloc 34 rfl rfl zero34 ?_; intro w4 X4 T4; have X5 := X3.below T4; have S4 := ups S3 T4 S3.size)
    | (refine wl_store 34 X4 rfl rfl rfl rfl size34 rfl (by omega : 0 + 14 ≤ 14) (sV_one _) (spl_ss _ _) ?_; intro w6 X6 K6; have S6 := K6.up S4 S3.size; have X7 := K6.box X5 (Nat.ne_of_lt X3.lt)))
  have hne39 : w.heap.size ≠ w3.heap.size := Nat.ne_of_lt X3.lt
  have hlt3 : w.heap.size ≤ w3.heap.size := S3.size
  go_upto_region 9 with (first
    | (refine wl_load 34 X6 rfl rfl rfl Tryz.underlying34 rfl size34 (by omega : 0 + 14 ≤ 14) (sV_all _) ?_)
    | (refine wl_load 34 X7 rfl rfl rfl Tryz.underlying34 rfl size34 (by omega : 0 + 14 ≤ 14) (sV_all _) ?_; have hW := with37 (getS L s.id) s w6)
    | (go_at_call 37; (with_reducible refine hW.mono ?_); rintro e w8 ⟨rfl, T8⟩; have X8 := X6.below T8; have Y8 := X7.below T8; have S8 := ups S6 T8 S6.size)
    | (refine wl_store 34 X8 rfl rfl rfl rfl size34 rfl (by omega : 0 + 14 ≤ 14) (sV_one _) (spl_ss _ _) ?_; intro w9 X9 K9; have S9 := K9.up S8 S3.size; have Y9 := K9.box Y8 hne39; have hY := may30 (withS (getS L s.id) s) hwo w9)
    | (refine wl_load 34 X9 rfl rfl rfl Tryz.underlying34 rfl size34 (by omega : 0 + 14 ≤ 14) (sV_all _) ?_)
    | (go_at_call 30; (with_reducible refine hY.mono ?_); rintro e wa ⟨rfl, Ta⟩; rw [hm]; have Xa := X9.below Ta; have Ya := Y9.below Ta; have Sa := ups S9 Ta S9.size))
  have ha := h.below (Sa.drew)
  have Ba : Box wa B #[.map (some bm)] 48 := (h.below Sa).box
  have Ma : MapV wa.drew bm _ _ := ha.map
  have hA := at_any ha hs.1
  have hneZ : w3.heap.size ≠ bm := by omega
  clear X1 T1 h1 c01 T3 X3 S3 T4 X5 S4 X4 X6 K6 S6 X7 T8 X8 Y8 S8 X9 K9 S9 Y9 Ta h hM hY hG hW ha
  refine wp_region_held_drew (S := fun W => Box W B #[.map (some bm)] 48 ∧ Box W w.heap.size (sV s) 34 ∧ Box W w3.heap.size (sV (withS (getS L s.id) s)) 34) (by kernel_rfl) ⟨Ba.drew, Ya.drew, Xa.drew⟩ (fun hHeld => ?_)
  refine wpAnyH_take (i := 0) (v := ?_) (by simp only [List.getElem?_toArray, List.getElem?_cons_zero]; rfl) (by kernel_rfl) (by kernel_rfl) (by kernel_rfl) (by exact fun _ _ _ h => h) (Or.inl ⟨by rfl, ?_⟩) (by assumption) ?_
  rotate_left
  · (intro w hSw; (try dsimp only at hSw); go_simp; (try with_reducible rfl))
  try simp only [Act.put, List.setIfInBounds_toArray, List.set_cons_zero, List.set_cons_succ]
  refine wpAnyH_take (i := 1) (v := ?_) (by simp only [List.getElem?_toArray, List.getElem?_cons_zero, List.getElem?_cons_succ]; rfl) (by kernel_rfl) (by kernel_rfl) (by kernel_rfl) (by exact fun _ _ _ h => h) (Or.inl ⟨by rfl, ?_⟩) (by assumption) ?_
  rotate_left
  · (intro w hSw; (try dsimp only at hSw); go_simp; (try with_reducible rfl))
  try simp only [Act.put, List.setIfInBounds_toArray, List.set_cons_zero, List.set_cons_succ]
  refine wpAnyH_take (i := 2) (v := ?_) (by simp only [List.getElem?_toArray, List.getElem?_cons_zero, List.getElem?_cons_succ]; rfl) (by kernel_rfl) (by kernel_rfl) (by kernel_rfl) (by exact fun _ _ _ h => h) (Or.inl ⟨by rfl, ?_⟩) (by assumption) ?_
  rotate_left
  · (intro w hSw; (try dsimp only at hSw); go_simp; (try with_reducible rfl))
  try simp only [Act.put, List.setIfInBounds_toArray, List.set_cons_zero, List.set_cons_succ]
  refine wpAnyH_take (i := 3) (v := .map (some bm)) (by simp only [List.getElem?_toArray, List.getElem?_cons_zero, List.getElem?_cons_succ]; rfl) (by kernel_rfl) (by kernel_rfl) (by kernel_rfl) (by exact fun _ _ _ h => h) (Or.inl ⟨by rfl, fun w hSw => xl_cell 46 hSw.1 rfl rfl Tryz.underlying46 rfl rfl⟩) (by assumption) ?_
  try simp only [Act.put, List.setIfInBounds_toArray, List.set_cons_zero, List.set_cons_succ]
  refine wpAnyH_take (i := 4) (v := ?_) (by simp only [List.getElem?_toArray, List.getElem?_cons_zero, List.getElem?_cons_succ]; rfl) (by kernel_rfl) (by kernel_rfl) (by kernel_rfl) (by exact fun _ _ _ h => h) (Or.inl ⟨by rfl, ?_⟩) (by assumption) ?_
  rotate_left
  · (intro w hSw; (try dsimp only at hSw); go_simp; (try with_reducible rfl))
  try simp only [Act.put, List.setIfInBounds_toArray, List.set_cons_zero, List.set_cons_succ]
  refine wpAnyH_take (i := 5) (v := eI s.id) (by simp only [List.getElem?_toArray, List.getElem?_cons_zero, List.getElem?_cons_succ]; rfl) (by kernel_rfl) (by kernel_rfl) (by kernel_rfl) (by exact fun _ _ _ h => h) (Or.inl ⟨by rfl, fun w hSw => xl_cell 3 hSw.2.1 rfl rfl Tryz.underlying3 rfl (sV_0 _)⟩) (by assumption) ?_
  try simp only [Act.put, List.setIfInBounds_toArray, List.set_cons_zero, List.set_cons_succ]
  refine wpAnyH_take (i := 6) (v := .agg (sV (withS (getS L s.id) s))) (by simp only [List.getElem?_toArray, List.getElem?_cons_zero, List.getElem?_cons_succ]; rfl) (by kernel_rfl) (by kernel_rfl) (by kernel_rfl) (by exact fun _ _ _ h => h) (Or.inl ⟨by rfl, fun w hSw => xl_load 34 hSw.2.2 rfl rfl Tryz.underlying34 rfl size34 (by omega : 0 + 14 ≤ 14) (sV_all _)⟩) (by assumption) ?_
  try simp only [Act.put, List.setIfInBounds_toArray, List.set_cons_zero, List.set_cons_succ]
  refine wpAnyH_take (i := 7) (v := ?_) (by simp only [List.getElem?_toArray, List.getElem?_cons_zero, List.getElem?_cons_succ]; rfl) (by kernel_rfl) (by kernel_rfl) (by kernel_rfl) (by exact fun _ _ _ h => h) (Or.inl ⟨by rfl, ?_⟩) (by assumption) ?_
  rotate_left
  · (intro w hSw; (try dsimp only at hSw); go_simp; (try with_reducible rfl))
  try simp only [Act.put, List.setIfInBounds_toArray, List.set_cons_zero, List.set_cons_succ]
  refine wpAnyH_take (i := 8) (v := ?_) (by simp only [List.getElem?_toArray, List.getElem?_cons_zero, List.getElem?_cons_succ]; rfl) (by kernel_rfl) (by kernel_rfl) (by kernel_rfl) (by exact fun _ _ _ h => h) (Or.inl ⟨by rfl, ?_⟩) (by assumption) ?_
  rotate_left
  · (intro w hSw; (try dsimp only at hSw); go_simp; (try with_reducible rfl))
  try simp only [Act.put, List.setIfInBounds_toArray, List.set_cons_zero, List.set_cons_succ]
  refine wpAnyH_take (i := 9) (v := eI s.id) (by simp only [List.getElem?_toArray, List.getElem?_cons_zero, List.getElem?_cons_succ]; rfl) (by kernel_rfl) (by kernel_rfl) (by kernel_rfl) (by exact fun _ _ _ h => h) (Or.inl ⟨by rfl, fun w hSw => xl_cell 3 hSw.2.1 rfl rfl Tryz.underlying3 rfl (sV_0 _)⟩) (by assumption) ?_
  try simp only [Act.put, List.setIfInBounds_toArray, List.set_cons_zero, List.set_cons_succ]
  refine wpAnyH_ready (rs := [10]) (by kernel_rfl) (by simp) ?_
  refine AllReadyH.cons (by simp only [List.getElem?_toArray, List.getElem?_cons_zero, List.getElem?_cons_succ]; rfl) (fun K hK => ?_) AllReadyH.nil
  go_simp
  go_at_call 38
  (with_reducible refine hA.mono ?_)
  rintro e wb ⟨rfl, Tb⟩
  refine hK.out _ _ ⟨hHeld.1.below Tb, hHeld.2.1.below Tb, hHeld.2.2.below Tb⟩ (fun hHeld => ?_)
  clear hK K
  try simp only [Act.put, List.setIfInBounds_toArray, List.set_cons_zero, List.set_cons_succ]
  refine wpAnyH_take (i := 11) (v := .slice (adr (G s.id)) (underL L s.id).length (Cp s.id)) (by simp only [List.getElem?_toArray, List.getElem?_cons_zero, List.getElem?_cons_succ]; rfl) (by kernel_rfl) (by kernel_rfl) (by kernel_rfl) (by exact fun _ _ _ h => h) (Or.inl ⟨by rfl, fun w hSw => xl_field1 rfl rfl⟩) (by assumption) ?_
  try simp only [Act.put, List.setIfInBounds_toArray, List.set_cons_zero, List.set_cons_succ]
  refine wpAnyH_take (i := 12) (v := .agg (kV (withS (getS L s.id) s) (adr (G s.id)) (underL L s.id).length (Cp s.id))) (by simp only [List.getElem?_toArray, List.getElem?_cons_zero, List.getElem?_cons_succ]; rfl) (by kernel_rfl) (by kernel_rfl) (by kernel_rfl) (by exact fun _ _ _ h => h) (Or.inl ⟨by rfl, fun w hSw => xl_build 62 (parts := [(0, .tmp 31), (1, .tmp 36)]) (built62 _ _ _ _) rfl⟩) (by assumption) ?_
  try simp only [Act.put, List.setIfInBounds_toArray, List.set_cons_zero, List.set_cons_succ]
  refine wpAnyH_ready (rs := [13]) (by kernel_rfl) (by simp) ?_
  refine AllReadyH.cons (by simp only [List.getElem?_toArray, List.getElem?_cons_zero, List.getElem?_cons_succ]; rfl) (fun K hK => ?_) AllReadyH.nil
  refine st_upd rfl rfl (Ma.below Tb) hks rfl s.id rfl hs.1 (.agg (kV (withS (getS L s.id) s) (adr (G s.id)) (underL L s.id).length (Cp s.id))) rfl ?_
  intro wc Mc Kc Sc
  refine hK.out _ _ ⟨Kc.box hHeld.1 hneB, Kc.box hHeld.2.1 hneX, Kc.box hHeld.2.2 hneZ⟩ (fun hHeld => ?_)
  clear hK K
  try simp only [Act.put, List.setIfInBounds_toArray, List.set_cons_zero, List.set_cons_succ]
  refine wpAnyH_done (by kernel_rfl) ?_ _
  have hd := hT.out wb wc ((Sa.drew).trans (Tb.mono (by show w.heap.size ≤ wa.heap.size; exact Sa.size))) Mc Kc
  clear Mc Ma Ya Xa Sa Kc hA
  go_wp2
  go_ret
  exact ⟨rfl, hd⟩
theorem chg_any (h : Tre w χ c B L) {s : Sp} (hs : s.ok) :
    Calls Tryz.prog 13 #[ptr B, .agg (sV s)] w fun e w' => e = .returned (eI (chgE L s)) ∧ ∃ χ', Tre w' χ' c B (chL L s) ∧ Col χ χ' c w w' := by
  have hT := h
  obtain ⟨⟨bm, G, Cp, h1⟩, hF⟩ := h
  by_cases he : chgE L s = 0
  · unfold chL
    rw [if_pos he, he]
    exact chg_ok h1 hF hs he
  · have hno : chL L s = L := if_neg he
    rw [hno]
    have fin : ∀ x, chgE L s = x → (Calls Tryz.prog 13 #[ptr B, .agg (sV s)] w fun e w' => e = .returned (eI x) ∧ Below w.heap.size w w') → Calls Tryz.prog 13 #[ptr B, .agg (sV s)] w fun e w' => e = .returned (eI (chgE L s)) ∧ ∃ χ', Tre w' χ' c B L ∧ Col χ χ' c w w' := fun x e hc =>
      hc.mono fun e1 w' ⟨x1, y1⟩ => ⟨by rw [x1, e], χ, hT.below y1, Col.of y1⟩
    by_cases hg : hasS L s.id = true
    · obtain ⟨q, hq, hqi⟩ := hasS_iff.1 hg
      have hgq : getS L s.id = q := by rw [← hqi]; exact getS_mem hF.tree hq
      have hm : mayN (withS (getS L s.id) s) ≠ 0 := fun e => he (by unfold chgE; rw [if_pos hg, if_pos e])
      refine fin 130 (by unfold chgE; rw [if_pos hg, if_neg hm]) (chg_shape h1 hs ?_ (with_ok (hF.ok _) hs) ((may_or _).resolve_left hm))
      rw [hgq]; rintro rfl; exact no_zero hF.tree _ hq zero_id
    · exact fin 81 (by unfold chgE; rw [if_neg hg]) (chg_absent h1 hs (getS_none (fun p hp e => hg (hasS_iff.2 ⟨p, hp, e⟩))))
end
end Go.Proofs.YtpopcnebndgblaaGreat.H

namespace Go.Proofs.YtpopcnebndgblaaGreat.H
open Go.ChangeShapes Go.WideShapes Go.Deep Go.RowKit
set_option linter.unusedVariables false
set_option linter.unusedSimpArgs false
section
variable {w w' : World} {χ χ' : Nat → Nat} {c d B bm : Nat} {G : Int → Option Nat} {Cp : Int → Nat} {L : List Sp}
set_option maxHeartbeats 4000000 in
set_option maxRecDepth 100000 in
theorem drop_absent (h : T0 w χ c B bm G Cp (getS L) (underL L) (0 :: idsL L)) {i : Int} (hi : I64 i) (hg : getS L i = Sp.zero) :
    Calls Tryz.prog 15 #[ptr B, eI i] w fun e w' => e = .returned (eI (81)) ∧ Below w.heap.size w w' := by
  have hM := made_yes h.box
  have hG := get_no h hi hg
  go_enter Tryz.func15, Tryz.ntmps15
  go_wp2_with (first
    | (go_at_call 29; (with_reducible refine hM.mono ?_); rintro e w2 ⟨rfl, rfl⟩)
    | (go_at_call 20; (with_reducible refine hG.mono ?_); rintro e w3 ⟨rfl, T3⟩)
    | (refine wl_alloc 34 rfl rfl zero34 ?_; intro w4 X4 T4; have S4 := ups T3 T4 T3.size)
    | (refine wl_store 34 X4 rfl rfl rfl rfl size34 rfl (by omega : 0 + 14 ≤ 14) (sV_one _) (spl_ss _ _) ?_; intro w6 X6 K6; have S6 := K6.up S4 T3.size;))
  go_ret
  exact ⟨by simp, S6⟩
set_option maxHeartbeats 4000000 in
set_option maxRecDepth 100000 in
theorem drop_child (h : T0 w χ c B bm G Cp (getS L) (underL L) (0 :: idsL L)) {i : Int} (hi : I64 i) (hg : getS L i ≠ Sp.zero) (hu : 0 < (underL L i).length) :
    Calls Tryz.prog 15 #[ptr B, eI i] w fun e w' => e = .returned (eI (161)) ∧ Below w.heap.size w w' := by
  have hM := made_yes h.box
  have hG := get_yes h hi hg
  have hf := kfield1 (getS L i) (adr (G i)) (underL L i).length (Cp i)
  go_enter Tryz.func15, Tryz.ntmps15
  go_wp2_with (first
    | (go_at_call 29; (with_reducible refine hM.mono ?_); rintro e w2 ⟨rfl, rfl⟩)
    | (go_at_call 20; (with_reducible refine hG.mono ?_); rintro e w3 ⟨rfl, T3⟩)
    | (refine wl_alloc 34 rfl rfl zero34 ?_; intro w4 X4 T4; have S4 := ups T3 T4 T3.size)
    | (refine wl_store 34 X4 rfl rfl rfl rfl size34 rfl (by omega : 0 + 14 ≤ 14) (sV_one _) (spl_ss _ _) ?_; intro w6 X6 K6; have S6 := K6.up S4 T3.size; have h6 := h.below S6; have hA := at_any h6 hi)
    | (go_at_call 38; (with_reducible refine hA.mono ?_); rintro e w7 ⟨rfl, T7⟩; have X7 := X6.below T7; have S7 := ups S6 T7 S6.size))
  go_ret
  exact ⟨by simp, S7⟩
set_option maxHeartbeats 4000000 in
set_option maxRecDepth 100000 in
theorem drop_ok (h : T0 w χ c B bm G Cp (getS L) (underL L) (0 :: idsL L)) (hF : Fit L) {i : Int} (hi : I64 i) (he : drpE L i = 0) :
    Calls Tryz.prog 15 #[ptr B, eI i] w fun e w' => e = .returned (eI 0) ∧ ∃ χ', Tre w' χ' c B (dropL L i) ∧ Col χ χ' c w w' := by
  have hFd : Fit (dropL L i) := by have := hF.drop i; unfold drpL at this; rwa [if_pos he] at this
  obtain ⟨hh, hu⟩ : hasS L i = true ∧ underL L i = [] := by
    unfold drpE at he
    split at he
    · rename_i e1
      split at he
      · rename_i e2; exact ⟨e1, by simpa using e2⟩
      · cases he
    · cases he
  obtain ⟨q, hq, rfl⟩ := hasS_iff.1 hh
  have hgq : getS L q.id = q := getS_mem hF.tree hq
  have hg : getS L q.id ≠ Sp.zero := by
    rw [hgq]; rintro rfl; exact no_zero hF.tree _ hq zero_id
  have hid := may_id (hF.each q hq).2
  have hpo := (hF.each q hq).1.2.1
  have hneB := h.neM
  have hbl := h.box.lt
  have hml := h.map.lt
  have hneX : w.heap.size ≠ bm := by omega
  have hG0 : ∀ g, G q.id = some g → g ≠ bm := fun g e => (h.rowB e).2
  have hturn : ∀ wb wc, Below w.heap.size w wb → MapV wc bm (fun j => if j = q.id then zK else .agg (kV (getS L j) (adr (G j)) (underL L j).length (Cp j))) ((0 :: idsL L).filter (fun j => j != q.id)) → But bm wb wc →
      ∃ χ1 G1 C1, T0 wc χ1 c B bm G1 C1 (upd (getS L) q.id Sp.zero) (upd (underL L) q.id []) ((0 :: idsL L).filter (fun j => j != q.id)) ∧ Col χ χ1 c w wc := fun wb wc hw hM hk => by
    have E : Off (fun j => j = bm ∨ G q.id = some j) w wc := (Off.of hw).but hk (.inr (.inl rfl))
    obtain ⟨t, k⟩ := h.turn (k := q.id) (p := Sp.zero) (g' := none) (c' := 0) (zs := []) E hM (World.ownsRow_nil _ _ _ _) (fun q e => by cases e) (by simp) (Nat.le_trans (List.length_filter_le _ _) h.many)
    exact ⟨_, _, _, t, k⟩
  have hRp : upd (underL L) q.id [] q.par = underL L q.par := upd_ne _ _ hid.2.2
  have hin : q.id ∈ underL L q.par := mem_underL.2 ⟨q, hq, rfl, rfl⟩
  have hpk : q.par ∈ (0 :: idsL L).filter (fun j => j != q.id) := by
    refine List.mem_filter.2 ⟨?_, by simpa using hid.2.2⟩
    by_cases h0 : q.par = 0
    · rw [h0]; simp
    · obtain ⟨p, hp, e, _⟩ := hF.tree.inn q hq h0
      exact List.mem_cons.2 (.inr (mem_ids.2 ⟨p, hp, e⟩))
  have hun : ∀ wc, (∃ χ1 G1 C1, T0 wc χ1 c B bm G1 C1 (upd (getS L) q.id Sp.zero) (upd (underL L) q.id []) ((0 :: idsL L).filter (fun j => j != q.id)) ∧ Col χ χ1 c w wc) →
      Calls Tryz.prog 39 #[ptr B, eI q.id, eI q.par] wc fun e w' => e = .returned (.tuple #[]) ∧ ∃ χ', Tre w' χ' c B (dropL L q.id) ∧ Col χ χ' c w w' := fun wc ⟨χ1, G1, C1, t, k⟩ => by
    refine (unhang_any t hpo hpk (by rw [hRp]; exact List.length_pos_of_mem hin)).mono ?_
    rintro e w' ⟨rfl, G2, C2, t2, k2⟩
    refine ⟨rfl, _, ⟨⟨bm, G2, C2, t2.say (fun j => (getS_drop hF.tree hFd.tree j).symm) (fun j => ?_) (ids_nodup hFd.tree) (fun j => ?_)⟩, hFd⟩, k.trans k2⟩
    · rw [underL_drop hF.tree hq hFd.tree j, hRp]
      by_cases hj : j = q.par
      · subst hj; rw [upd_same, upd_same]
      · rw [upd_ne _ _ hj, upd_ne _ _ hj]
        by_cases hj2 : j = q.id
        · subst hj2
          rw [upd_same, hu]
        · rw [upd_ne _ _ hj2]
    · rw [List.mem_filter, List.mem_cons, List.mem_cons, mem_ids, mem_ids]
      constructor
      · rintro ⟨e | ⟨p, hp, e⟩, hne⟩
        · exact .inl e
        · exact .inr ⟨p, mem_dropL.2 ⟨hp, by rw [e]; simpa using hne⟩, e⟩
      · rintro (e | ⟨p, hp, e⟩)
        · exact ⟨.inl e, by rw [e]; have := no_zero hF.tree q hq; simp; omega⟩
        · obtain ⟨hp, hne⟩ := mem_dropL.1 hp
          exact ⟨.inr ⟨p, hp, e⟩, by rw [← e]; simpa using hne⟩
  have hT := Lib.hid hturn
  have hU := Lib.hid hun
  have hM := made_yes h.box
  have hG := get_yes h hi hg
  have hf := kfield1 (getS L q.id) (adr (G q.id)) (underL L q.id).length (Cp q.id)
  rw [hu] at hf
  simp only [List.length_nil] at hf
  have hA0 := fun W (hW : Below w.heap.size w W) => at_any (h.below hW) hi
  rw [hu] at hA0
  simp only [List.length_nil] at hA0
  rw [hgq] at hG hf hA0
  clear hturn hun hRp hin hpk hid hh hgq
  go_enter Tryz.func15, Tryz.ntmps15
  go_upto_region 8 with (first
    | (go_at_call 29; (with_reducible refine hM.mono ?_); rintro e w2 ⟨rfl, rfl⟩)
    | (go_at_call 20; (with_reducible refine hG.mono ?_); rintro e w3 ⟨rfl, T3⟩)
    | (refine wl_alloc 34 rfl rfl zero34 ?_; intro w4 X4 T4; have S4 := ups T3 T4 T3.size)
    | (refine wl_store 34 X4 rfl rfl rfl rfl size34 rfl (by omega : 0 + 14 ≤ 14) (sV_one _) (spl_ss _ _) ?_; intro w6 X6 K6; have S6 := K6.up S4 T3.size; have hA := hA0 w6 S6)
    | (go_at_call 38; (with_reducible refine hA.mono ?_); rintro e w7 ⟨rfl, T7⟩; have X7 := X6.below T7; have S7 := ups S6 T7 S6.size))
  have h7 := h.below S7
  have M7 := h7.map
  have c7 := h7.box.cell 0
  have hlt3 : w3.heap.size ≠ bm := by have := T3.size; omega
  go_upto_region 9 with (first
    | (refine wl_del rfl rfl M7 rfl q.id rfl hi ?_; intro wc Mc Kc Sc; have X9 := Kc.box X7 hlt3; have d1 := (X9.cell 1).trans (sV_1 _)))
  have hC := hU.out wc (hT.out w7 wc S7 Mc Kc)
  clear h7 M7 c7 Mc Kc T3 S4 T4 X4 K6 S6 X6 T7 X7 S7 hA hA0 hG hM h
  go_wp2_with (first
    | (go_at_call 39; (with_reducible refine hC.mono ?_); rintro e wd ⟨rfl, hd⟩))
  go_ret
  exact ⟨rfl, hd⟩
theorem drop_any (h : Tre w χ c B L) {i : Int} (hi : I64 i) :
    Calls Tryz.prog 15 #[ptr B, eI i] w fun e w' => e = .returned (eI (drpE L i)) ∧ ∃ χ', Tre w' χ' c B (drpL L i) ∧ Col χ χ' c w w' := by
  have hT := h
  obtain ⟨⟨bm, G, Cp, h1⟩, hF⟩ := h
  by_cases he : drpE L i = 0
  · unfold drpL
    rw [if_pos he, he]
    exact drop_ok h1 hF hi he
  · have hno : drpL L i = L := if_neg he
    rw [hno]
    have fin : ∀ x, drpE L i = x → (Calls Tryz.prog 15 #[ptr B, eI i] w fun e w' => e = .returned (eI x) ∧ Below w.heap.size w w') → Calls Tryz.prog 15 #[ptr B, eI i] w fun e w' => e = .returned (eI (drpE L i)) ∧ ∃ χ', Tre w' χ' c B L ∧ Col χ χ' c w w' := fun x e hc =>
      hc.mono fun e1 w' ⟨x1, y1⟩ => ⟨by rw [x1, e], χ, hT.below y1, Col.of y1⟩
    by_cases hg : hasS L i = true
    · obtain ⟨q, hq, hqi⟩ := hasS_iff.1 hg
      have hgq : getS L i = q := by rw [← hqi]; exact getS_mem hF.tree hq
      cases hu : underL L i with
      | nil => exact absurd (by unfold drpE; rw [if_pos hg, hu]; rfl) he
      | cons x l =>
        refine fin 161 (by unfold drpE; rw [if_pos hg, hu]; rfl) (drop_child h1 hi ?_ (by rw [hu]; simp))
        rw [hgq]; rintro rfl; exact no_zero hF.tree _ hq zero_id
    · exact fin 81 (by unfold drpE; rw [if_neg hg]) (drop_absent h1 hi (getS_none (fun p hp e => hg (hasS_iff.2 ⟨p, hp, e⟩))))
end
end Go.Proofs.YtpopcnebndgblaaGreat.H
