/- Blocks, colours, rows; plain books; a book as an object in memory; what it shows. No condition but words, and how much there is. -/
import Derived.Test.YtjbpaapglamilaaGA
import Derived.WalkKit
import Derived.ProofKit
import Derived.Below
import Derived.Outline
import Derived.Lib.Hide
import Derived.Laws.Externs
import Derived.RowKit3
import Derived.BigQuiet
import Derived.Deep.QuietTactic
import Derived.WalkSmall
import Derived.OwnWalk
import Derived.RegionTactic
import Derived.Deep.Slices
import Derived.Deep.Fields
import Derived.ChangeSame
import Derived.OpenShut
import Derived.Deep.AppendLies
import Derived.Laws.CopyOwn
import Derived.IntWalk
import Derived.OneCell
import Derived.Deep.DeepCutAuto
import Derived.Deep.CutBlock
import Derived.Deep.CutRange
import Derived.Deep.RegionHeld3
import Derived.Deep.RegionLaw
import Derived.StillTailTactics
import Derived.Deep.MidRow
import Derived.Deep.WholeRow
import Derived.Laws.StructEq
import Derived.BigRegion
import Derived.Great.Walk
import Derived.Test.YtjbpaapglamilaaGI
import Derived.Maps.OwnSet
import Derived.Maps.OwnIn
import Derived.Maps.RangeWalk
import Derived.Test.YtjbpaapglamilaaCoU
import Derived.Test.YtjbpaapglamilaaShelfB
import Derived.Lib.SliceRun
import Derived.Deep.LoopGhost
namespace Go.Proofs.Ytjbpaapglamilaa.H
open Go.ChangeShapes Go.WideShapes Go.Deep Go.RowKit
set_option linter.unusedVariables false
abbrev eU (n : Int) : Value := .int .u64 n
abbrev eI (n : Int) : Value := .int .i64 n
theorem add_plain (b o j : Nat) : (⟨b, o, none⟩ : Addr).add j = ⟨b, o + j, none⟩ := by unfold Addr.add; split <;> simp_all
theorem pk_u64 {x : Int} (h : (Lit.int .u64 x).wf = true) : 0 ≤ x ∧ x < 18446744073709551616 := by
  simp [Lit.wf, IntKind.min, IntKind.max, IntKind.bits, IntKind.signed] at h
  omega
theorem pk_i64 {x : Int} (h : (Lit.int .i64 x).wf = true) : -9223372036854775808 ≤ x ∧ x < 9223372036854775808 := by
  simp [Lit.wf, IntKind.min, IntKind.max, IntKind.bits, IntKind.signed] at h
  omega
theorem pk_u8 {x : Int} (h : (Lit.int .u8 x).wf = true) : 0 ≤ x ∧ x < 256 := by
  simp [Lit.wf, IntKind.min, IntKind.max, IntKind.bits, IntKind.signed] at h
  omega
/-! ### Blocks -/
/-- Block B is a block of those values. -/
def Box (W : World) (B : Nat) (vs : Array Value) (t : TypeId) : Prop := W.heap[B]? = some (.cells vs t (0, 0))
theorem Box.lt {W : World} {B : Nat} {t : TypeId} {v : Array Value} (h : Box W B v t) : B < W.heap.size := (Array.getElem?_eq_some_iff.1 h).1
theorem Box.new (W : World) (t : TypeId) (v : Array Value) : Box (W.alloc (.cells v t)) W.heap.size v t := heap_alloc_new W _
theorem Box.alloc {W : World} {B : Nat} {t : TypeId} {v : Array Value} (h : Box W B v t) (o : Obj) : Box (W.alloc o) B v t := (Below.heap_alloc W o B h.lt).trans h
theorem Box.below {W w : World} {B : Nat} {t : TypeId} {v : Array Value} (h : Box W B v t) (hb : Below W.heap.size W w) : Box w B v t := (hb.block B h.lt).trans h
theorem Box.setNe {W : World} {B : Nat} {t : TypeId} {vs : Array Value} (h : Box W B vs t) {a : Addr} (hne : B ≠ a.block) (v : Value) : Box (W.setCell a v) B vs t := (Below.heap_setCell W a v B hne).trans h
theorem Box.drew {W : World} {B : Nat} {t : TypeId} {v : Array Value} (h : Box W B v t) : Box W.drew B v t := h
theorem up1 (w : World) (o1 : Obj) : Below w.heap.size w (w.alloc o1) := (Below.refl _ _).alloc (Nat.le_refl _) _
theorem up2 (w : World) (o1 o2 : Obj) : Below w.heap.size w ((w.alloc o1).alloc o2) := (up1 w o1).alloc (by simp) _
theorem ups {B : Nat} {W w w' : World} (h : Below B W w) (k : Below w.heap.size w w') (hB : B ≤ w.heap.size) : Below B W w' := h.trans (k.mono hB)
theorem undrew {w w' : World} (h : Below w.drew.heap.size w.drew w') : Below w.heap.size w w' := ((Below.refl _ w).drew).trans h
theorem undrewN {w w' : World} {n : Nat} (h : Below (w.drewN n).heap.size (w.drewN n) w') : Below w.heap.size w w' := (show Below w.heap.size w (w.drewN n) from ⟨rfl, rfl, rfl, Nat.le_refl _, fun _ _ => rfl⟩).trans h
/-- All blocks that lie, but B, lie as they lay. -/
structure But (B : Nat) (w w' : World) : Prop where
  os : w'.os = w.os
  tape : w'.tape = w.tape
  output : w'.output = w.output
  size : w.heap.size ≤ w'.heap.size
  block : ∀ k, k < w.heap.size → k ≠ B → w'.heap[k]? = w.heap[k]?
theorem But.of {B : Nat} {w w' : World} (h : Below w.heap.size w w') : But B w w' := ⟨h.os, h.tape, h.output, h.size, fun k hk _ => h.block k hk⟩
theorem But.refl (B : Nat) (w : World) : But B w w := But.of (Below.refl _ _)
theorem But.trans {B : Nat} {a b c : World} (h : But B a b) (k : But B b c) : But B a c :=
  ⟨k.os.trans h.os, k.tape.trans h.tape, k.output.trans h.output, Nat.le_trans h.size k.size, fun i hi hn => (k.block i (Nat.lt_of_lt_of_le hi h.size) hn).trans (h.block i hi hn)⟩
theorem But.set {B : Nat} {w w' : World} (h : But B w w') (i : Nat) (v : Value) : But B w (w'.setCell ⟨B, i, none⟩ v) :=
  ⟨h.os, h.tape, h.output, by simpa [World.setCell] using h.size, fun k hk hn => (Below.heap_setCell _ _ _ k hn).trans (h.block k hk hn)⟩
theorem But.below {B n : Nat} {w w' : World} (h : But B w w') (hB : n ≤ B) (hn : n ≤ w.heap.size) : Below n w w' :=
  ⟨h.os, h.tape, h.output, h.size, fun k hk => h.block k (Nat.lt_of_lt_of_le hk hn) (Nat.ne_of_lt (Nat.lt_of_lt_of_le hk hB))⟩
theorem But.box {B B' : Nat} {w w' : World} {vs : Array Value} {t : TypeId} (h : But B w w') (b : Box w B' vs t) (hne : B' ≠ B) : Box w' B' vs t :=
  (h.block B' b.lt hne).trans b
/-- Below the base of W everything stays, if B lies at it or behind it. -/
theorem But.up {B : Nat} {W w w' : World} (h : But B w w') (T : Below W.heap.size W w) (hB : W.heap.size ≤ B) : Below W.heap.size W w' :=
  T.trans (h.below hB T.size)
theorem But.cell {B : Nat} {w w' : World} {p : Addr} (h : But B w w') (hp : p.block < w.heap.size) (hne : p.block ≠ B) : w'.cell? p = w.cell? p := World.cell?_of_block (h.block _ hp hne)
theorem Box.set {W : World} {B : Nat} {vs : Array Value} {t : TypeId} (h : Box W B vs t) (i : Nat) (v : Value) : Box (W.setCell ⟨B, i, none⟩ v) B (vs.setIfInBounds i v) t := by
  have e : W.heap[B]? = some (.cells vs t (0, 0)) := h
  show (W.setCell ⟨B, i, none⟩ v).heap[B]? = _
  simp [World.setCell, Array.getElem?_modify, e]
theorem Box.cell {W : World} {B : Nat} {vs : Array Value} {t : TypeId} (h : Box W B vs t) (i : Nat) : W.cell? ⟨B, i, none⟩ = vs[i]? := by
  have e : W.heap[B]? = some (.cells vs t (0, 0)) := h
  simp [World.cell?, e]
theorem Box.thaw {W : World} {B : Nat} {vs : Array Value} {t : TypeId} (h : Box W B vs t) (i : Nat) : W.frozen? ⟨B, i, none⟩ = false := by
  have e : W.heap[B]? = some (.cells vs t (0, 0)) := h
  simp [World.frozen?, e]
theorem i64_id {x : Int} (h : -9223372036854775808 ≤ x ∧ x < 9223372036854775808) : IntKind.i64.wrap x = x := by
  simp [IntKind.wrap, IntKind.bits, IntKind.signed]; omega
theorem box_ne {W : World} {B B' : Nat} {vs vs' : Array Value} {t t' : TypeId} (h : Box W B vs t) (h' : Box W B' vs' t') (ht : t ≠ t') : B ≠ B' := fun e => by
  subst e
  have h1 : W.heap[B]? = some (.cells vs t (0, 0)) := h
  rw [show W.heap[B]? = some (.cells vs' t' (0, 0)) from h'] at h1
  injection h1 with h3
  injection h3 with _ h4 _
  exact ht h4.symm
/-- All blocks that lie, but those of a set, lie as they lay. -/
structure Off (S : Nat → Prop) (w w' : World) : Prop where
  os : w'.os = w.os
  tape : w'.tape = w.tape
  output : w'.output = w.output
  size : w.heap.size ≤ w'.heap.size
  block : ∀ k, k < w.heap.size → ¬ S k → w'.heap[k]? = w.heap[k]?
theorem Off.of {S : Nat → Prop} {w w' : World} (h : Below w.heap.size w w') : Off S w w' := ⟨h.os, h.tape, h.output, h.size, fun k hk _ => h.block k hk⟩
theorem Off.mono {S T : Nat → Prop} {w w' : World} (h : Off S w w') (hS : ∀ k, k < w.heap.size → S k → T k) : Off T w w' :=
  ⟨h.os, h.tape, h.output, h.size, fun k hk hT => h.block k hk (fun hs => hT (hS k hk hs))⟩
theorem Off.trans {S T : Nat → Prop} {a b c : World} (h : Off S a b) (k : Off T b c) (hT : ∀ i, i < a.heap.size → T i → S i) : Off S a c :=
  ⟨k.os.trans h.os, k.tape.trans h.tape, k.output.trans h.output, Nat.le_trans h.size k.size, fun i hi hS => (k.block i (Nat.lt_of_lt_of_le hi h.size) (fun ht => hS (hT i hi ht))).trans (h.block i hi hS)⟩
theorem Off.below {S : Nat → Prop} {n : Nat} {w w' : World} (h : Off S w w') (hS : ∀ k, k < w.heap.size → S k → n ≤ k) (hn : n ≤ w.heap.size) : Below n w w' :=
  ⟨h.os, h.tape, h.output, h.size, fun k hk => h.block k (by omega) (fun hs => by have := hS k (by omega) hs; omega)⟩
theorem Off.box {S : Nat → Prop} {w w' : World} {B : Nat} {vs : Array Value} {t : TypeId} (h : Off S w w') (b : Box w B vs t) (hn : ¬ S B) : Box w' B vs t := (h.block B b.lt hn).trans b
theorem Off.set {S : Nat → Prop} {w w' : World} (h : Off S w w') {B : Nat} (hB : S B) (i : Nat) (v : Value) : Off S w (w'.setCell ⟨B, i, none⟩ v) :=
  ⟨h.os, h.tape, h.output, by simpa [World.setCell] using h.size, fun k hk hn => (Below.heap_setCell _ _ _ k (fun e => hn (by rw [show k = B from e]; exact hB))).trans (h.block k hk hn)⟩
theorem Off.owns {S : Nat → Prop} {w w' : World} {base n : Nat} {e : TypeId} {size : Nat} {v : Value} {xs : List Value} (h : Off S w w') (o : w.ownsRow base e size v n xs) (hn : ∀ g, v.ownBlock = some g → ¬ S g) : w'.ownsRow base e size v n xs := by
  obtain ⟨h1, h2⟩ := o
  refine ⟨h1, h2.imp id ?_⟩
  rintro ⟨g, cap, cur, rfl, a2, a3, a4⟩
  exact ⟨g, cap, cur, rfl, a2, (h.block g (Array.getElem?_eq_some_iff.1 a3).1 (hn g rfl)).trans a3, a4⟩
theorem own_below {w w' : World} {base : Nat} {e : TypeId} {size : Nat} {v : Value} {n : Nat} {xs : List Value} (h : w.ownsRow base e size v n xs) (hb : Below w.heap.size w w') : w'.ownsRow base e size v n xs :=
  h.kept (row := none) ⟨hb.os, hb.tape, hb.output, hb.size, fun k hk _ => hb.block k hk⟩ (by cases hv : v.ownBlock <;> simp)
theorem own_mono {w : World} {base base' size n : Nat} {e : TypeId} {v : Value} {xs : List Value} (h : w.ownsRow base e size v n xs) (hb : base' ≤ base) : w.ownsRow base' e size v n xs := by
  obtain ⟨h1, h2⟩ := h
  refine ⟨h1, h2.imp id ?_⟩
  rintro ⟨g, cap, cur, a1, a2, a3⟩
  exact ⟨g, cap, cur, a1, Nat.le_trans hb a2, a3⟩
theorem own_some {w : World} {base : Nat} {e : TypeId} {size : Nat} {v : Value} {n : Nat} {xs : List Value} (h : w.ownsRow base e size v n xs) (hn : 0 < n) :
    ∃ g cap cur, v = .slice (some ⟨g, 0, none⟩) n cap ∧ base ≤ g ∧ g < w.heap.size ∧ n ≤ cap ∧ cap ≤ maxLen ∧ Box w g cur e ∧ ∀ j u, xs[j]? = some u → w.cell? ((⟨g, 0, none⟩ : Addr).add j) = some u := by
  have hc := fun g (e : v.ownBlock = some g) => h.cells e
  have hl := h.lt
  rcases h.2 with ⟨_, h0⟩ | ⟨g, cap, cur, rfl, hb, hB, hk, hm, _, _⟩
  · omega
  · exact ⟨g, cap, cur, rfl, hb, (hl g rfl).2, hk, hm, hB, hc g rfl⟩
theorem own_len {w : World} {base : Nat} {e : TypeId} {size : Nat} {v : Value} {n : Nat} {xs : List Value} (h : w.ownsRow base e size v n xs) : ∃ a cap, v = .slice a n cap ∧ n ≤ cap ∧ cap ≤ maxLen := by
  rcases h.2 with ⟨rfl, rfl⟩ | ⟨g, cap, cur, rfl, _, _, hk, hm, _, _⟩
  · exact ⟨none, 0, rfl, Nat.le_refl _, by decide⟩
  · exact ⟨_, cap, rfl, hk, hm⟩

theorem own_not {w : World} {base n : Nat} {e : TypeId} {size : Nat} {v : Value} {xs : List Value} {B : Nat} {vs : Array Value} {t : TypeId} (h : w.ownsRow base e size v n xs) (b : Box w B vs t) (ht : t ≠ e) : v.ownBlock ≠ some B := by
  rcases h.2 with ⟨rfl, _⟩ | ⟨g, cap, cur, rfl, _, hg, _⟩
  · simp [Value.ownBlock]
  · intro k
    have e' : g = B := by simpa [Value.ownBlock] using k
    exact box_ne (show Box w g cur e from hg) b (fun h => ht h.symm) e'
theorem Box.grown {W w : World} {B : Nat} {vs : Array Value} {t : TypeId} {row : Option Nat} (h : Box W B vs t) (g : W.grownBy w row) (hr : some B ≠ row) : Box w B vs t := (g.block B h.lt hr).trans h
theorem Off.drew {S : Nat → Prop} {W w : World} (h : Off S w W) : Off S w W.drew := ⟨h.os, h.tape, h.output, h.size, h.block⟩
theorem Off.setHi {S : Nat → Prop} {w w' : World} (h : Off S w w') {B : Nat} (hB : w.heap.size ≤ B) (i : Nat) (v : Value) : Off S w (w'.setCell ⟨B, i, none⟩ v) :=
  ⟨h.os, h.tape, h.output, by simpa [World.setCell] using h.size, fun k hk hn => (Below.heap_setCell _ _ _ k (by show k ≠ B; omega)).trans (h.block k hk hn)⟩
theorem Off.grown {S : Nat → Prop} {w W W' : World} {row : Option Nat} (h : Off S w W) (hg : W.grownBy W' row) (hr : ∀ k, row = some k → S k ∨ w.heap.size ≤ k) : Off S w W' :=
  ⟨hg.os.trans h.os, hg.tape.trans h.tape, hg.output.trans h.output, Nat.le_trans h.size hg.size, fun k hk hn => (hg.block k (Nat.lt_of_lt_of_le hk h.size) (fun e => by
    rcases hr k e.symm with h1 | h1
    · exact hn h1
    · omega)).trans (h.block k hk hn)⟩
theorem Off.alloc {S : Nat → Prop} {w W : World} (h : Off S w W) (o : Obj) : Off S w (W.alloc o) :=
  ⟨h.os, h.tape, h.output, Nat.le_trans h.size (by simp), fun k hk hn => (Below.heap_alloc W o k (Nat.lt_of_lt_of_le hk h.size)).trans (h.block k hk hn)⟩
/-- An object's own blocks: its box, and its row's. -/
def Own2 (B : Nat) (v : Value) (k : Nat) : Prop := k = B ∨ v.ownBlock = some k
/-- Blocks that lie keep their colours; those of another colour than c lie as they lay. -/
structure Col (χ χ' : Nat → Nat) (c : Nat) (w w' : World) : Prop where
  os : w'.os = w.os
  tape : w'.tape = w.tape
  output : w'.output = w.output
  size : w.heap.size ≤ w'.heap.size
  col : ∀ k, k < w.heap.size → χ' k = χ k
  block : ∀ k, k < w.heap.size → χ k ≠ c → w'.heap[k]? = w.heap[k]?
/-- What is new gets a colour. -/
def recol (χ : Nat → Nat) (n c : Nat) : Nat → Nat := fun k => if k < n then χ k else c
theorem recol_lt {χ : Nat → Nat} {n c k : Nat} (h : k < n) : recol χ n c k = χ k := by unfold recol; rw [if_pos h]
theorem recol_ge {χ : Nat → Nat} {n c k : Nat} (h : n ≤ k) : recol χ n c k = c := by unfold recol; rw [if_neg (by omega)]
section
variable {w0 w w' w'' : World} {χ χ' χ'' : Nat → Nat} {c d : Nat}
theorem Col.of (h : Below w.heap.size w w') : Col χ χ c w w' := ⟨h.os, h.tape, h.output, h.size, fun _ _ => rfl, fun k hk _ => h.block k hk⟩
theorem Col.new (h : Below w.heap.size w w') (d : Nat) : Col χ (recol χ w.heap.size d) c w w' := ⟨h.os, h.tape, h.output, h.size, fun _ hk => recol_lt hk, fun k hk _ => h.block k hk⟩
theorem Col.off {S : Nat → Prop} (h : Off S w w') (hS : ∀ k, S k → χ k = c) : Col χ (recol χ w.heap.size c) c w w' :=
  ⟨h.os, h.tape, h.output, h.size, fun _ hk => recol_lt hk, fun k hk hn => h.block k hk (fun hs => hn (hS k hs))⟩
theorem Col.trans (h : Col χ χ' c w w') (k : Col χ' χ'' c w' w'') : Col χ χ'' c w w'' :=
  ⟨k.os.trans h.os, k.tape.trans h.tape, k.output.trans h.output, Nat.le_trans h.size k.size, fun i hi => (k.col i (Nat.lt_of_lt_of_le hi h.size)).trans (h.col i hi),
   fun i hi hn => (k.block i (Nat.lt_of_lt_of_le hi h.size) (by rw [h.col i hi]; exact hn)).trans (h.block i hi hn)⟩
/-- What lay ahead of the call has the colour 0, and lies as it lay. -/
structure Fr (w0 : World) (χ : Nat → Nat) (w : World) : Prop where
  zero : ∀ k, k < w0.heap.size → χ k = 0
  world : Below w0.heap.size w0 w
theorem Fr.start (w0 : World) : Fr w0 (fun _ => 0) w0 := ⟨fun _ _ => rfl, Below.refl _ _⟩
theorem Fr.next (h : Fr w0 χ w) (k : Col χ χ' c w w') (hc : c ≠ 0) : Fr w0 χ' w' :=
  ⟨fun i hi => (k.col i (Nat.lt_of_lt_of_le hi h.world.size)).trans (h.zero i hi), h.world.trans ⟨k.os, k.tape, k.output, k.size, fun i hi => k.block i (Nat.lt_of_lt_of_le hi h.world.size) (by rw [h.zero i hi]; exact fun e => hc e.symm)⟩⟩
theorem Fr.below (h : Fr w0 χ w) (k : Below w.heap.size w w') : Fr w0 χ w' := ⟨h.zero, ups h.world k h.world.size⟩
/-- A block of colour c. -/
def Bx (w : World) (χ : Nat → Nat) (c N : Nat) (vs : Array Value) (t : TypeId) : Prop := Box w N vs t ∧ χ N = c
theorem Bx.other {N : Nat} {vs : Array Value} {t : TypeId} (h : Bx w χ c N vs t) (k : Col χ χ' d w w') (hd : c ≠ d) : Bx w' χ' c N vs t :=
  ⟨(k.block N h.1.lt (by rw [h.2]; exact hd)).trans h.1, (k.col N h.1.lt).trans h.2⟩
theorem Bx.below {N : Nat} {vs : Array Value} {t : TypeId} (h : Bx w χ c N vs t) (k : Below w.heap.size w w') : Bx w' χ c N vs t := ⟨h.1.below k, h.2⟩
end
/-! ### Rows of elements -/
/-- The cells of a row, element by element. -/
def rowC {α : Type} (f : α → List Value) : List α → List Value
  | [] => []
  | x :: L => f x ++ rowC f L
/-- So many cells an element, each a plain one. -/
structure Cells {α : Type} (f : α → List Value) (s : Nat) : Prop where
  len : ∀ x, (f x).length = s
  one : ∀ x, ∀ u ∈ f x, u.oneCell' = true
section
variable {α : Type} {f : α → List Value} {s : Nat}
theorem rowC_append : ∀ (a b : List α), rowC f (a ++ b) = rowC f a ++ rowC f b
  | [], b => rfl
  | x :: a, b => by rw [List.cons_append, rowC, rowC, rowC_append a b, List.append_assoc]
theorem rowC_one (x : α) : rowC f [x] = f x := by simp [rowC]
theorem rowC_len (h : Cells f s) : ∀ (L : List α), (rowC f L).length = L.length * s
  | [] => by simp [rowC]
  | x :: L => by rw [rowC, List.length_append, h.len, rowC_len h L, List.length_cons, Nat.add_mul]; omega
theorem rowC_at (h : Cells f s) : ∀ (L : List α) (i : Nat) (x : α), L[i]? = some x → ∀ j, j < s → (rowC f L)[i * s + j]? = (f x)[j]?
  | [], i, x, hx, j, hj => by simp at hx
  | y :: L, 0, x, hx, j, hj => by
    simp only [List.getElem?_cons_zero, Option.some.injEq] at hx
    subst hx
    rw [rowC, Nat.zero_mul, Nat.zero_add, List.getElem?_append_left (by rw [h.len]; exact hj)]
  | y :: L, i + 1, x, hx, j, hj => by
    rw [List.getElem?_cons_succ] at hx
    rw [rowC, List.getElem?_append_right (by rw [h.len, Nat.add_mul]; omega), h.len, show (i + 1) * s + j - s = i * s + j by rw [Nat.add_mul]; omega]
    exact rowC_at h L i x hx j hj
theorem rowC_take (h : Cells f s) : ∀ (L : List α) (k : Nat), (rowC f L).take (k * s) = rowC f (L.take k)
  | _, 0 => by simp [rowC]
  | [], k + 1 => by simp [rowC]
  | x :: L, k + 1 => by
    rw [List.take_succ_cons, rowC, rowC, ← rowC_take h L k, List.take_append, h.len, List.take_of_length_le (by rw [h.len, Nat.add_mul]; omega)]
    congr 2; rw [Nat.add_mul]; omega
theorem rowC_drop (h : Cells f s) : ∀ (L : List α) (k : Nat), (rowC f L).drop (k * s) = rowC f (L.drop k)
  | _, 0 => by simp
  | [], k + 1 => by simp [rowC]
  | x :: L, k + 1 => by
    rw [List.drop_succ_cons, rowC, ← rowC_drop h L k, List.drop_append, h.len, List.drop_eq_nil_of_le (by rw [h.len, Nat.add_mul]; omega), List.nil_append]
    congr 1; rw [Nat.add_mul]; omega
theorem rowC_cells (h : Cells f s) : ∀ (L : List α), ∀ u ∈ rowC f L, u.oneCell' = true
  | [], u, hu => by cases hu
  | x :: L, u, hu => by
    rw [rowC] at hu
    rcases List.mem_append.1 hu with hu | hu
    · exact h.one x u hu
    · exact rowC_cells h L u hu
theorem rowC_set (h : Cells f s) : ∀ (L : List α) (i : Nat) (x y : α) (j : Nat) (u : Value), L[i]? = some x → j < s → f y = (f x).set j u → (rowC f L).set (i * s + j) u = rowC f (L.set i y)
  | [], i, x, y, j, u, hx, hj, hy => by simp at hx
  | z :: L, 0, x, y, j, u, hx, hj, hy => by
    simp only [List.getElem?_cons_zero, Option.some.injEq] at hx
    subst hx
    rw [List.set_cons_zero, rowC, rowC, hy, Nat.zero_mul, Nat.zero_add, List.set_append_left _ _ (by rw [h.len]; exact hj)]
  | z :: L, i + 1, x, y, j, u, hx, hj, hy => by
    rw [List.getElem?_cons_succ] at hx
    rw [List.set_cons_succ, rowC, rowC, ← rowC_set h L i x y j u hx hj hy, List.set_append_right _ _ (by rw [h.len, Nat.add_mul]; omega), h.len]
    congr 2; rw [Nat.add_mul]; omega
/-- A slice type of the program's, and its elements: so many cells, so many bytes. -/
structure RowTy (P : Program) (sl el : TypeId) (s : Nat) : Prop where
  und : P.underlying sl = some (.slice el)
  pos : 0 < s
  info : ∃ i z b, P.info? el = some i ∧ i.zero = some z ∧ i.size = s ∧ i.bytes = b ∧ z.cells.size = s ∧ b ≤ 1024
variable {P : Program} {sl el : TypeId}
/-- An element's cells, of a row that the call owns. -/
theorem own_elem {w : World} {base g n cap : Nat} {L : List α} (hf : Cells f s) (h : w.ownsRow base el s (.slice (some ⟨g, 0, none⟩) n cap) n (rowC f L)) (i : Nat) (x : α) (hx : L[i]? = some x) (j : Nat) (hj : j < s) (u : Value) (hu : (f x)[j]? = some u) : w.cell? ⟨g, i * s + j, none⟩ = some u := by
  have e := h.cells (g := g) rfl (i * s + j) u (by rw [rowC_at hf L i x hx j hj]; exact hu)
  rw [add_plain, Nat.zero_add] at e
  exact e
theorem own_form {w : World} {base n : Nat} {v : Value} {xs : List Value} (h : w.ownsRow base el s v n xs) : (v = .slice none 0 0 ∧ n = 0) ∨ ∃ g cap, v = .slice (some ⟨g, 0, none⟩) n cap ∧ n ≤ cap ∧ base ≤ g ∧ g < w.heap.size := by
  rcases h.2 with h | ⟨g, cap, cur, e, h1, h2, h3, _⟩
  · exact .inl h
  · exact .inr ⟨g, cap, e, h3, h1, (Array.getElem?_eq_some_iff.1 h2).1⟩
/-- What append makes of a row that the call owns, and elements that lie somewhere. -/
theorem run_more (T : RowTy P sl el s) (hf : Cells f s) (w : World) (ty : TypeId) (m : Nat) (v : Value) (X Y : List α) (n k : Nat) (hn : X.length = n) (hk : Y.length = k) (hown : w.ownsRow m el s v n (rowC f X)) (ad : Addr) (c : Nat) (hflat : ∀ j u, (rowC f Y)[j]? = some u → w.cell? (ad.add j) = some u) (hl : n + k ≤ 1000000) (hm : m ≤ w.heap.size) :
    ∃ v' w', (Builtin.append_ #[sl, sl] ty #[v, .slice (some ad) k c]).run P w = .ok v' w' ∧ w'.ownsRow m el s v' (n + k) (rowC f (X ++ Y)) ∧ w.grownBy w' v.ownBlock ∧ (∀ g, v'.ownBlock = some g → v.ownBlock = some g ∨ g = w.heap.size) ∧ (v ≠ .slice none 0 0 → v' ≠ .slice none 0 0) := by
  obtain ⟨i, z, b, h1, h2, h3, h4, h5, h6⟩ := T.info
  subst hn hk
  have hb : (X.length + Y.length) * b ≤ 140737488355328 := Nat.le_trans (Nat.mul_le_mul hl h6) (by decide)
  obtain ⟨v', w', hr, k2, k3, k4, k5⟩ := run_append_own_at (P := P) w m sl ty el i z s b T.und h1 h2 h3 h4 h5 T.pos v X.length (rowC f X) hown ad Y.length c (rowC f Y) (rowC_len hf Y) hflat (rowC_cells hf Y) (by unfold maxLen; omega) hb hm
  rw [← rowC_append] at k2
  refine ⟨v', w', hr, k2, k3, fun g e => ?_, fun hv e => hv (k4.1 e).1⟩
  rcases k5 with k5 | k5
  · exact .inl (by rw [← k5]; exact e)
  · rw [k5] at e; cases e; exact .inr rfl
theorem wpList_more (T : RowTy P sl el s) (hf : Cells f s) {w : World} {ops : Array Oper} {rest : List Oper} {o : Oper} {a : Act} {Q : Exit → Act → World → Prop} (hgd : o.guard = none) (q x : Operand)
    (ho : o.op = .call { callee := .builtin .append, args := #[q, x], argTypes := #[sl, sl] })
    (m : Nat) (v : Value) (X Y : List α) (n k : Nat) (hn : X.length = n) (hk : Y.length = k) (hs : a.eval q = v) (hown : w.ownsRow m el s v n (rowC f X)) (ad : Addr) (c : Nat) (hx : a.eval x = .slice (some ad) k c) (hflat : ∀ j u, (rowC f Y)[j]? = some u → w.cell? (ad.add j) = some u) (hl : n + k ≤ 1000000) (hm : m ≤ w.heap.size)
    (h : ∀ v' w', w'.ownsRow m el s v' (n + k) (rowC f (X ++ Y)) → w.grownBy w' v.ownBlock → (∀ g, v'.ownBlock = some g → v.ownBlock = some g ∨ g = w.heap.size) → (v ≠ .slice none 0 0 → v' ≠ .slice none 0 0) → wpList P ops Q rest (a.put o.dst v') w') :
    wpList P ops Q (o :: rest) a w := by
  refine wpList_plain hgd fun K hK => ?_
  obtain ⟨v', w', hr, h2, h3, h4, h5⟩ := run_more T hf w o.type m v X Y n k hn hk hown ad c hflat hl hm
  unfold Oper.wp execOp
  simp only [ho, resolve, invoke, builtin, Sem.run_bind, Sem.run_pure, Result.andThen_ok, List.map_toArray, List.map_cons, List.map_nil, hs, hx, hr]
  exact hK _ _ (h v' w' h2 h3 h4 h5)
theorem step_more (T : RowTy P sl el s) (hf : Cells f s) {w : World} {ops : Array Oper} {o : Oper} {a : Act} {K : Act → World → Prop} {Q : Exit → Act → World → Prop} {E : Prop} (hw : Region.wanted o (yielded ops a.tmps) = true) (q x : Operand)
    (ho : o.op = .call { callee := .builtin .append, args := #[q, x], argTypes := #[sl, sl] })
    (m : Nat) (v : Value) (X Y : List α) (n k : Nat) (hn : X.length = n) (hk : Y.length = k) (hs : a.eval q = v) (hown : w.ownsRow m el s v n (rowC f X)) (ad : Addr) (c : Nat) (hx : a.eval x = .slice (some ad) k c) (hflat : ∀ j u, (rowC f Y)[j]? = some u → w.cell? (ad.add j) = some u) (hl : n + k ≤ 1000000) (hm : m ≤ w.heap.size)
    (h : ∀ v' w', w'.ownsRow m el s v' (n + k) (rowC f (X ++ Y)) → w.grownBy w' v.ownBlock → (∀ g, v'.ownBlock = some g → v.ownBlock = some g ∨ g = w.heap.size) → (v ≠ .slice none 0 0 → v' ≠ .slice none 0 0) → K (a.put o.dst v') w') :
    if Region.wanted o (yielded ops a.tmps) = true then Oper.wp P o a w K Q else E := by
  rw [if_pos hw]
  obtain ⟨v', w', hr, h2, h3, h4, h5⟩ := run_more T hf w o.type m v X Y n k hn hk hown ad c hflat hl hm
  unfold Oper.wp execOp
  simp only [ho, resolve, invoke, builtin, Sem.run_bind, Sem.run_pure, Result.andThen_ok, List.map_toArray, List.map_cons, List.map_nil, hs, hx, hr]
  exact h v' w' h2 h3 h4 h5
/-- Nothing is appended. -/
theorem wpList_nomore (T : RowTy P sl el s) {w : World} {ops : Array Oper} {rest : List Oper} {o : Oper} {a : Act} {Q : Exit → Act → World → Prop} (hgd : o.guard = none) (q x : Operand)
    (ho : o.op = .call { callee := .builtin .append, args := #[q, x], argTypes := #[sl, sl] }) (m n : Nat) (v : Value) (xs : List Value) (hs : a.eval q = v) (hown : w.ownsRow m el s v n xs) (hx : a.eval x = .slice none 0 0)
    (h : wpList P ops Q rest (a.put o.dst v) w) : wpList P ops Q (o :: rest) a w := by
  obtain ⟨i, z, b, h1, h2, h3, h4, h5, h6⟩ := T.info
  have hr := run_append_owned_none (P := P) w m sl o.type el i s T.und h1 v n xs hown
  refine wpList_plain hgd fun K hK => ?_
  unfold Oper.wp execOp
  simp only [ho, resolve, invoke, builtin, Sem.run_bind, Sem.run_pure, Result.andThen_ok, List.map_toArray, List.map_cons, List.map_nil, hs, hx, hr]
  exact hK _ _ h
theorem step_nomore (T : RowTy P sl el s) {w : World} {ops : Array Oper} {o : Oper} {a : Act} {K : Act → World → Prop} {Q : Exit → Act → World → Prop} {E : Prop} (hw : Region.wanted o (yielded ops a.tmps) = true) (q x : Operand)
    (ho : o.op = .call { callee := .builtin .append, args := #[q, x], argTypes := #[sl, sl] }) (m n : Nat) (v : Value) (xs : List Value) (hs : a.eval q = v) (hown : w.ownsRow m el s v n xs) (hx : a.eval x = .slice none 0 0)
    (h : K (a.put o.dst v) w) : if Region.wanted o (yielded ops a.tmps) = true then Oper.wp P o a w K Q else E := by
  rw [if_pos hw]
  obtain ⟨i, z, b, h1, h2, h3, h4, h5, h6⟩ := T.info
  have hr := run_append_owned_none (P := P) w m sl o.type el i s T.und h1 v n xs hown
  unfold Oper.wp execOp
  simp only [ho, resolve, invoke, builtin, Sem.run_bind, Sem.run_pure, Result.andThen_ok, List.map_toArray, List.map_cons, List.map_nil, hs, hx, hr]
  exact h
/-- An element that was laid now, as a slice of one. -/
theorem flat_new {w : World} {N : Nat} {t : TypeId} {x : α} {cs : Array Value} (hB : Box w N cs t) (hc : cs.toList = f x) : ∀ j u, (rowC f [x])[j]? = some u → w.cell? ((⟨N, 0, none⟩ : Addr).add j) = some u := by
  intro j u hu
  rw [rowC_one, ← hc] at hu
  exact World.news_of_block hB j u hu
/-- A part of an owned row lies at its place. -/
theorem flat_part {w w' : World} {base g n cap : Nat} {L : List α} (hf : Cells f s) (h : w.ownsRow base el s (.slice (some ⟨g, 0, none⟩) n cap) n (rowC f L)) (hb : Below w.heap.size w w') (k : Nat) {ad : Addr} (had : L.drop k ≠ [] → ad = ⟨g, k * s, none⟩) : ∀ j u, (rowC f (L.drop k))[j]? = some u → w'.cell? (ad.add j) = some u := by
  intro j u hu
  by_cases hd : L.drop k = []
  · rw [hd] at hu; simp [rowC] at hu
  · rw [had hd, add_plain]
    rw [← rowC_drop hf, List.getElem?_drop] at hu
    have e := h.cells (g := g) rfl _ _ hu
    rw [add_plain, Nat.zero_add] at e
    exact (hb.cell (p := ⟨g, k * s + j, none⟩) (h.lt g rfl).2).trans e
theorem flat_first {w w' : World} {base g n cap : Nat} {L : List α} (hf : Cells f s) (h : w.ownsRow base el s (.slice (some ⟨g, 0, none⟩) n cap) n (rowC f L)) (hb : Below w.heap.size w w') (k : Nat) : ∀ j u, (rowC f (L.take k))[j]? = some u → w'.cell? ((⟨g, 0, none⟩ : Addr).add j) = some u := by
  intro j u hu
  rw [add_plain, Nat.zero_add]
  rw [← rowC_take hf, List.getElem?_take] at hu
  split at hu
  · have e := h.cells (g := g) rfl _ _ hu
    rw [add_plain, Nat.zero_add] at e
    exact (hb.cell (p := ⟨g, j, none⟩) (h.lt g rfl).2).trans e
  · cases hu
theorem own_take {w : World} {m n g cap k : Nat} {L : List α} (hf : Cells f s) (h : w.ownsRow m el s (.slice (some ⟨g, 0, none⟩) n cap) n (rowC f L)) (hL : L.length = n) (hk : k ≤ n) : w.ownsRow m el s (.slice (some ⟨g, 0, none⟩) k cap) k (rowC f (L.take k)) := by
  obtain ⟨h1, h2 | ⟨g', cap', cur, e, h3, h4, h5, h6, h7, h8⟩⟩ := h
  · cases h2.1
  · cases e
    refine ⟨by rw [rowC_len hf, List.length_take, hL, Nat.min_eq_left hk], .inr ⟨g, cap, cur, rfl, h3, h4, by omega, h6, h7, ?_⟩⟩
    rw [← rowC_take hf, ← h8, List.take_take, Nat.min_eq_left (Nat.mul_le_mul_right s hk)]
/-- A row of one's own, with nothing in it: '[]T{}'. -/
theorem own_empty {w : World} {g m : Nat} (h : Box w g #[] el) (hm : m ≤ g) : w.ownsRow m el s (.slice (some ⟨g, 0, none⟩) 0 0) 0 (rowC f ([] : List α)) :=
  ⟨by simp [rowC], .inr ⟨g, 0, #[], rfl, hm, h, Nat.le_refl _, by decide, by simp, by simp [rowC]⟩⟩
end
/-- A slice of elements: nil, empty, or a row in memory. -/
def IsRow {α : Type} (f : α → List Value) (s : Nat) (w : World) (a : Option Addr) (n c : Nat) (xs : Nat → α) : Prop :=
  n ≤ c ∧ (n = 0 ∨ ∃ b o, a = some ⟨b, o, none⟩ ∧ b < w.heap.size ∧ ∀ i, i < n → ∀ j u, (f (xs i))[j]? = some u → w.cell? ⟨b, o + i * s + j, none⟩ = some u)
section
variable {α : Type} {f : α → List Value} {s : Nat}
theorem IsRow.below {W w : World} {a : Option Addr} {n c : Nat} {xs : Nat → α} (h : IsRow f s W a n c xs) (hb : Below W.heap.size W w) : IsRow f s w a n c xs := by
  obtain ⟨h2, h3⟩ := h
  refine ⟨h2, h3.imp id ?_⟩
  rintro ⟨b, o, e, h4, h5⟩
  exact ⟨b, o, e, Nat.lt_of_lt_of_le h4 hb.size, fun i hi j u hu => (hb.cell (p := ⟨b, _, none⟩) h4).trans (h5 i hi j u hu)⟩
/-- An element's cells, in whatever world behind. -/
theorem row_at {w0 : World} {a : Option Addr} {n c : Nat} {xs : Nat → α} (hI : IsRow f s w0 a n c xs) (k : Nat) (hk : k < n) : ∃ b o, a = some ⟨b, o, none⟩ ∧ b < w0.heap.size ∧ ∀ w', Below w0.heap.size w0 w' → ∀ j u, (f (xs k))[j]? = some u → w'.cell? ⟨b, o + k * s + j, none⟩ = some u := by
  rcases hI.2 with h | ⟨b, o, e, h1, h2⟩
  · omega
  · exact ⟨b, o, e, h1, fun w' hb j u hu => (hb.cell (p := ⟨b, _, none⟩) h1).trans (h2 k hk j u hu)⟩
variable {H : Type} {enc : TypeId × Value → H} {P : Program} {w : World} {base : Nat} {spare : Nat → Bool} {held : Bool}
theorem open_row {t e : TypeId} {fuel : Nat} {cs : List Value} {x : DataW H × List MemPlace} {ok : α → Prop} (d : α) (hd : ok d) (hs : 0 < s) (hf : ∀ v, (f v).length = s) (ht : P.underlying t = some (.slice e)) (hC : P.cellsOf e = s)
    (elem : ∀ n (cs : List Value) (x : DataW H × List MemPlace), cs.length = s → DataW.trod enc P w base spare held n e cs = some x → ∃ v, ok v ∧ cs = f v) (h : DataW.trod enc P w base spare held fuel t cs = some x) :
    ∃ (a : Option Addr) (n c : Nat) (xs : Nat → α), cs = [.slice a n c] ∧ IsRow f s w a n c xs ∧ (∀ i, ok (xs i)) ∧ c ≤ maxLen ∧ (a = none → n = 0 ∧ c = 0) := by
  rcases open_slice ht h with ⟨h0, _⟩ | ⟨a, len, cap, m, n, D, Pl, hcs, hb', hl, hm, hmm, hx, hi⟩
  · exact ⟨none, 0, 0, fun _ => d, h0, ⟨Nat.le_refl _, .inl rfl⟩, fun _ => hd, by decide, fun _ => ⟨rfl, rfl⟩⟩
  · have hlm : len ≤ m := by rw [hmm]; split <;> omega
    have key : ∀ i, i < len → ∃ v : α, ok v ∧ ∀ j u, (f v)[j]? = some u → w.cell? (a.add (i * s + j)) = some u := by
      intro i hil
      obtain ⟨cs', hc, ht'⟩ := hi i (by omega)
      rw [hC] at hc
      obtain ⟨_, hl', hat⟩ := World.cells?_some hc
      obtain ⟨v, hv, rfl⟩ := elem _ _ _ hl' ht'
      refine ⟨v, hv, fun j u hu => ?_⟩
      have hj : j < (f v).length := by
        rcases Nat.lt_or_ge j (f v).length with h | h
        · exact h
        · rw [List.getElem?_eq_none h] at hu; cases hu
      have e := hat j (by rw [hf] at hj; exact hj)
      rw [add_add] at e
      exact e.trans hu
    obtain ⟨F, hF⟩ : ∃ F : Nat → α, ∀ i, ok (F i) ∧ (i < len → ∀ j u, (f (F i))[j]? = some u → w.cell? (a.add (i * s + j)) = some u) := by
      refine ⟨fun i => if q : i < len then Classical.choose (key i q) else d, fun i => ?_⟩
      by_cases hil : i < len
      · simp only [hil, dif_pos]
        have h := Classical.choose_spec (key i hil)
        exact ⟨h.1, fun _ => h.2⟩
      · simp only [hil, dif_neg, not_false_eq_true]
        exact ⟨hd, fun h => absurd h (by simp)⟩
    refine ⟨some a, len, cap, F, hcs, ⟨hl, ?_⟩, fun i => (hF i).1, hm, fun q => by cases q⟩
    by_cases hz : len = 0
    · exact .inl hz
    · have c0 := (hF 0).2 (by omega) 0 _ (List.getElem?_eq_getElem (by rw [hf]; exact hs))
      obtain ⟨b, off, spot⟩ := a
      have hspot : spot = none := by simpa [Addr.add] using World.cell?_spot c0
      subst hspot
      have hlt := World.block_lt_of_cell? w _ c0
      refine .inr ⟨b, off, rfl, by rw [add_plain] at hlt; exact hlt, fun i hil j u hu => ?_⟩
      have e := (hF i).2 hil j u hu
      rw [add_plain, ← Nat.add_assoc] at e
      exact e
end
abbrev ptr (B : Nat) : Value := .pointer (some ⟨B, 0, none⟩)
/-! ### Rows -/
/-- c with the cells from o on replaced by vs. -/
def spl (c : Array Value) (o : Nat) : List Value → Array Value
  | [] => c
  | v :: r => spl (c.setIfInBounds o v) (o + 1) r
theorem Box.setCells {W : World} {B : Nat} {t : TypeId} : ∀ (vs : List Value) (o : Nat) (W : World) (c : Array Value), Box W B c t → Box (W.setCells B o vs) B (spl c o vs) t
  | [], _, _, _, h => h
  | v :: r, o, W, c, h => Box.setCells (W := W) r (o + 1) _ _ (h.set o v)
theorem But.setCells {B : Nat} : ∀ (vs : List Value) (o : Nat) (w w' : World), But B w w' → But B w (w'.setCells B o vs)
  | [], _, _, _, h => h
  | v :: r, o, w, w', h => But.setCells r (o + 1) _ _ (h.set o v)
theorem Box.range {W : World} {B : Nat} {c : Array Value} {t : TypeId} (h : Box W B c t) (o n : Nat) : W.rangeAt B o (c.extract o (o + n)).toList := World.rangeAt_of_block h o n
theorem Box.there {W : World} {B : Nat} {c : Array Value} {t : TypeId} (h : Box W B c t) {o n : Nat} (hn : o + n ≤ c.size) : W.there B o n := fun j hj => by
  refine ⟨?_, h.thaw _⟩
  rw [h.cell, Array.getElem?_eq_getElem (by omega)]
  rfl
section
variable {P : Program} {ops : Array Oper} {rest : List Oper} {o : Oper} {a : Act} {w : World} {Q : Exit → Act → World → Prop}
/-- A row is loaded from a block, from offset k on. -/
theorem wl_load (ty : TypeId) {x : Operand} {B k n : Nat} {c cs : Array Value} {t : TypeId} {d : TypeDesc} (hB : Box w B c t) (hgd : o.guard = none) (ho : o.op = .load ty x) (hx : a.eval x = .pointer (some ⟨B, k, none⟩))
    (hu : P.underlying ty = some d) (hd : d.isRow = true) (hi : (P.info? ty).map (·.size) = some n) (hs : k + n ≤ c.size) (hc : c.extract k (k + n) = cs)
    (h : wpList P ops Q rest (a.put o.dst (.agg cs)) w) : wpList P ops Q (o :: rest) a w := by
  refine wpList_load_mid hgd ty x ho B k hx (c.extract k (k + n)).toList d (hB.range k n) hu hd ?_ ?_
  · rw [hi, Array.length_toList, Array.size_extract]
    congr 1
    omega
  · rw [Array.toArray_toList, hc]
    exact h
/-- A row is stored in a block, from offset k on. -/
theorem wl_store (ty : TypeId) {x y : Operand} {B k n : Nat} {c vs c' : Array Value} {t : TypeId} (hB : Box w B c t) (hgd : o.guard = none) (ho : o.op = .store ty x y) (hx : a.eval x = .pointer (some ⟨B, k, none⟩)) (hy : a.eval y = .agg vs)
    (hi : (P.info? ty).map (·.size) = some n) (hn : vs.size = n) (hs : k + n ≤ c.size) (h1 : vs.all (·.oneCell') = true) (hc : spl c k vs.toList = c')
    (h : ∀ w', Box w' B c' t → But B w w' → wpList P ops Q rest (a.put o.dst undef) w') : wpList P ops Q (o :: rest) a w := by
  subst hn
  refine wpList_store_mid hgd ty x y ho B k vs hx hy (hB.there hs) hi h1 (h _ ?_ ?_)
  · rw [← hc]
    exact Box.setCells (W := w) vs.toList k w c hB
  · exact But.setCells vs.toList k w w (But.refl B w)
/-- A new variable that holds a value. -/
theorem wl_box (t : TypeId) {x : Operand} {c : Array Value} (hgd : o.guard = none) (ho : o.op = .box t x) (hx : a.eval x = .agg c)
    (h : ∀ w', Box w' w.heap.size c t → Below w.heap.size w w' → wpList P ops Q rest (a.put o.dst (.pointer (some ⟨w.heap.size, 0, none⟩))) w') : wpList P ops Q (o :: rest) a w := by
  refine wpList_plain hgd fun K hK => ?_
  unfold Oper.wp execOp
  simp only [ho, hx, Sem.run_bind, Instr.box, newVar, newRow, run_newObj_alloc, Sem.run_pure, Result.andThen_ok, Value.cells]
  exact hK _ _ (h _ (Box.new w t c) (up1 w _))
/-- A new variable that holds zero. -/
theorem wl_alloc (t : TypeId) {c : Array Value} (hgd : o.guard = none) (ho : o.op = .alloc t) (hz : (P.info? t).map (fun i => i.zero) = some (some (.agg c)))
    (h : ∀ w', Box w' w.heap.size c t → Below w.heap.size w w' → wpList P ops Q rest (a.put o.dst (.pointer (some ⟨w.heap.size, 0, none⟩))) w') : wpList P ops Q (o :: rest) a w := by
  refine wpList_plain hgd fun K hK => ?_
  cases hq : P.info? t with
  | none => simp [hq] at hz
  | some i =>
    have hz' : i.zero = some (.agg c) := by simpa [hq] using hz
    unfold Oper.wp execOp
    simp only [ho, Sem.run_bind, Instr.alloc, zeroValue, typeInfo, hq, hz', newVar, newRow, run_newObj_alloc, Sem.run_pure, Result.andThen_ok, Value.cells, run_program]
    exact hK _ _ (h _ (Box.new w t c) (up1 w _))
/-- A value of parts. -/
theorem wl_build (t : TypeId) {parts : List (Nat × Operand)} {c : Array Value} (hgd : o.guard = none) (ho : o.op = .build t parts.toArray) (hc : P.built t (parts.map fun x => (x.1, a.eval x.2)) = some c)
    (h : wpList P ops Q rest (a.put o.dst (.agg c)) w) : wpList P ops Q (o :: rest) a w := by
  have e : P.built t (parts.toArray.map fun x => (x.1, a.eval x.2)).toList = some c := by
    rw [← hc]
    congr 1
    simp
  refine wpList_build hgd t parts.toArray ho (by rw [show P.built t (parts.toArray.map fun x => (x.1, a.eval x.2)).toList = some c from e]; rfl) ?_
  rw [show P.built t (parts.toArray.map fun x => (x.1, a.eval x.2)).toList = some c from e]
  exact h
end
/-- In a region that draws its order: a row is loaded. -/
theorem xl_load {P : Program} (ty : TypeId) {o : Oper} {a : Act} {w : World} {x : Operand} {B k n : Nat} {c cs : Array Value} {t : TypeId} {d : TypeDesc} (hB : Box w B c t) (ho : o.op = .load ty x) (hx : a.eval x = .pointer (some ⟨B, k, none⟩))
    (hu : P.underlying ty = some d) (hd : d.isRow = true) (hi : (P.info? ty).map (·.size) = some n) (hs : k + n ≤ c.size) (hc : c.extract k (k + n) = cs) : (execOp a.eval o).run P w = .ok (.value (.agg cs)) w := by
  unfold execOp
  have h := run_loadVar_mid (P := P) w B k ty (c.extract k (k + n)).toList d (hB.range k n) hu hd (by rw [hi, Array.length_toList, Array.size_extract]; congr 1; omega)
  rw [Array.toArray_toList, hc] at h
  simp only [ho, hx, Instr.loadAt, Instr.sureAddr, Sem.run_bind, Sem.run_pure, Result.andThen_ok, h]
section
variable {P : Program} {ops : Array Oper} {rest : List Oper} {o : Oper} {a : Act} {w : World} {Q : Exit → Act → World → Prop}
/-- An operation that is wanted and yields a value. -/
theorem wl_run {v : Value} (hr : (execOp a.eval o).run P w = .ok (.value v) w) (hw : Region.wanted o (yielded ops a.tmps) = true) (h : wpList P ops Q rest (a.put o.dst v) w) : wpList P ops Q (o :: rest) a w := by
  refine wpList_step fun K hK => ?_
  rw [if_pos hw]
  unfold Oper.wp
  rw [hr]
  exact hK _ _ h
end
theorem ifs {W : World} {p p' : Prop} [Decidable p] [Decidable p'] {x : Result Bool} {r : Bool} (hp : p ↔ p') (h : x = .ok r W) : (if p then x else .ok false W) = .ok (decide p' && r) W := by
  by_cases q : p
  · rw [if_pos q, decide_eq_true (hp.1 q), Bool.true_and]; exact h
  · rw [if_neg q, decide_eq_false (fun z => q (hp.2 z)), Bool.false_and]
theorem results_cell_two {P : Program} {fn : Func} {p q : Tmp} {ty : TypeId} (h : fn.results = #[.cell p ty, .tmp q]) (tmps : Array Value) (w : World) (g : Nat) (t : TypeId) (cs : Array Value) (v : Value) (d : TypeDesc)
    (hp : tmps.getD p undef = .pointer (some ⟨g, 0, none⟩)) (hv : tmps.getD q undef = v) (hg : Box w g cs t)
    (hu : P.underlying ty = some d) (hd : (match d with | .struct _ | .array _ _ => true | _ => false) = true) (hi : (P.info? ty).map (·.size) = some cs.size) :
    (results fn tmps).run P w = .ok (.tuple #[.agg cs, v]) w := by
  have hp' : tmps[p]?.getD undef = .pointer (some ⟨g, 0, none⟩) := by simpa using hp
  have hv' : tmps[q]?.getD undef = v := by simpa using hv
  simp [results, h, hp', hv', asAddr, run_loadVar_row w g t ty cs (0, 0) d hg hu hd hi]
/-! ### Frames -/
section
variable {S : Nat → Prop} {w x y : World}
theorem Off.refl (w : World) : Off S w w := Off.of (Below.refl _ _)
theorem Off.up (E : Off S w x) (h : Below x.heap.size x y) : Off S w y :=
  ⟨h.os.trans E.os, h.tape.trans E.tape, h.output.trans E.output, Nat.le_trans E.size h.size, fun k hk hn => (h.block k (Nat.lt_of_lt_of_le hk E.size)).trans (E.block k hk hn)⟩
theorem Off.but {b : Nat} (E : Off S w x) (h : But b x y) (hb : w.heap.size ≤ b ∨ S b) : Off S w y :=
  ⟨h.os.trans E.os, h.tape.trans E.tape, h.output.trans E.output, Nat.le_trans E.size h.size, fun k hk hn => (h.block k (Nat.lt_of_lt_of_le hk E.size) (by
    rintro rfl
    rcases hb with hb | hb
    · omega
    · exact hn hb)).trans (E.block k hk hn)⟩
theorem Off.grow {row : Option Nat} (E : Off S w x) (h : x.grownBy y row) (hr : ∀ g, row = some g → w.heap.size ≤ g ∨ S g) : Off S w y :=
  ⟨h.os.trans E.os, h.tape.trans E.tape, h.output.trans E.output, Nat.le_trans E.size h.size, fun k hk hn => (h.block k (Nat.lt_of_lt_of_le hk E.size) (by
    intro e
    rcases hr k e.symm with hb | hb
    · omega
    · exact hn hb)).trans (E.block k hk hn)⟩
end
theorem Below.but {b : Nat} {w x y : World} (E : Below w.heap.size w x) (h : But b x y) (hb : w.heap.size ≤ b) : Below w.heap.size w y := h.up E hb
def adr (g : Option Nat) : Option Addr := g.map fun b => ⟨b, 0, none⟩
theorem adr_own (g : Option Nat) (n c : Nat) : (Value.slice (adr g) n c).ownBlock = g := by cases g <;> rfl
theorem _root_.Go.World.ownsRow.grown' {w w' : World} {row : Option Nat} {base size n : Nat} {e : TypeId} {v : Value} {xs : List Value} (h : w.ownsRow base e size v n xs) (hg : w.grownBy w' row) (hne : ∀ q, v.ownBlock = some q → row ≠ some q) : w'.ownsRow base e size v n xs :=
  h.kept hg (by cases hv : v.ownBlock with
    | none => exact .inl rfl
    | some q => exact .inr (fun e => hne q hv e.symm))
theorem own_adr {w : World} {base n size : Nat} {e : TypeId} {v : Value} {xs : List Value} (h : w.ownsRow base e size v n xs) : ∃ a c, v = .slice (adr a) n c := by
  rcases own_form h with ⟨rfl, rfl⟩ | ⟨g, cap, rfl, _⟩
  · exact ⟨none, 0, rfl⟩
  · exact ⟨some g, cap, rfl⟩
theorem recol_recol {χ : Nat → Nat} {n m d : Nat} (h : n ≤ m) : recol (recol χ n d) m d = recol χ n d := by
  funext k
  unfold recol
  by_cases h1 : k < m
  · rw [if_pos h1]
  · rw [if_neg h1, if_neg (by omega)]
theorem own_but {w w' : World} {b base n size : Nat} {e : TypeId} {v : Value} {xs : List Value} (h : w.ownsRow base e size v n xs) (k : But b w w') (hne : v.ownBlock ≠ some b) : w'.ownsRow base e size v n xs :=
  h.kept (row := some b) ⟨k.os, k.tape, k.output, k.size, fun i hi hn => k.block i hi (fun e => hn (by rw [e]))⟩ (.inr hne)
theorem own_lt_ne {w : World} {b base n size : Nat} {e : TypeId} {v : Value} {xs : List Value} (h : w.ownsRow base e size v n xs) (hb : w.heap.size ≤ b) : v.ownBlock ≠ some b := fun e => by
  have := (h.lt b e).2; omega
def fI (x : Int) : List Value := [eI x]
theorem cellsI : Cells fI 1 := ⟨fun _ => rfl, fun x u hu => by simp [fI] at hu; subst hu; rfl⟩
theorem rowI_map : ∀ (zs : List Int), rowC fI zs = zs.map eI
  | [] => rfl
  | z :: zs => by rw [rowC, rowI_map zs]; rfl
section
variable {P : Program} {ops : Array Oper} {rest : List Oper} {o : Oper} {a : Act} {w : World} {Q : Exit → Act → World → Prop} {K : Act → World → Prop} {E : Prop}
/-- One cell is stored in a block. -/
theorem wl_put (ty : TypeId) {x y : Operand} {B k : Nat} {c c' : Array Value} {t : TypeId} {v : Value} (hB : Box w B c t) (hgd : o.guard = none) (ho : o.op = .store ty x y) (hx : a.eval x = .pointer (some ⟨B, k, none⟩)) (hy : a.eval y = v)
    (hv : v.cells = #[v]) (h1 : v.oneCell' = true) (hi : (P.info? ty).map (·.size) = some 1) (hs : k < c.size) (hc : c.setIfInBounds k v = c')
    (h : ∀ w', Box w' B c' t → But B w w' → wpList P ops Q rest (a.put o.dst undef) w') : wpList P ops Q (o :: rest) a w := by
  have hst : (storeVar ty ⟨B, k, none⟩ v).run P w = .ok () (w.setCell ⟨B, k, none⟩ v) := by
    have := run_storeCells_cells (P := P) B k [v] 0 w (fun j hj => by simpa using ((hB.there (o := k) (n := 1) (by omega)) j (by simpa using hj)).1) (fun j hj => by simpa using ((hB.there (o := k) (n := 1) (by omega)) j (by simpa using hj)).2)
      (fun u hu => by
        have e : u = v := by simpa using hu
        rw [e]; exact h1)
    cases hq : P.info? ty with
    | none => simp [hq] at hi
    | some i =>
      have hs : i.size = 1 := by simpa [hq] using hi
      simp only [Nat.add_zero] at this
      simp [storeVar, sizeOf, typeInfo, hq, hv, hs, this, World.setCells]
  refine wpList_plain hgd fun K hK => ?_
  unfold Oper.wp execOp
  simp only [ho, hx, hy, Instr.storeAt, Instr.sureAddr, Sem.run_bind, Sem.run_pure, Result.andThen_ok, hst]
  exact hK _ _ (h _ (by rw [← hc]; exact hB.set k v) ((But.refl B w).set k v))
/-- One cell is loaded from a block. -/
theorem xl_cell (ty : TypeId) {x : Operand} {B k : Nat} {c : Array Value} {t : TypeId} {v : Value} {d : TypeDesc} (hB : Box w B c t) (ho : o.op = .load ty x) (hx : a.eval x = .pointer (some ⟨B, k, none⟩))
    (hu : P.underlying ty = some d) (hd : d.isRow = false) (hc : c[k]? = some v) : (execOp a.eval o).run P w = .ok (.value v) w := by
  have hl : (loadVar ty ⟨B, k, none⟩).run P w = .ok v w := by
    have hagg : (isAgg ty).run P w = .ok false w := by
      unfold isAgg
      rw [Sem.run_bind, run_underlying hu w]
      cases d <;> simp_all
    have hcell : w.cell? ⟨B, k, none⟩ = some v := (hB.cell k).trans hc
    simp [loadVar, Sem.run_bind, hagg, run_load, hcell]
  unfold execOp
  simp only [ho, hx, Instr.loadAt, Instr.sureAddr, Sem.run_bind, Sem.run_pure, Result.andThen_ok, hl]
theorem xl_build (t : TypeId) {parts : List (Nat × Operand)} {c : Array Value} (hc : P.built t (parts.map fun x => (x.1, a.eval x.2)) = some c) (ho : o.op = .build t parts.toArray) : (execOp a.eval o).run P w = .ok (.value (.agg c)) w := by
  have e : P.built t (parts.toArray.map fun x => (x.1, a.eval x.2)).toList = some c := by
    rw [← hc]
    congr 1
    simp
  have h := run_build (P := P) w t (parts.toArray.map fun x => (x.1, a.eval x.2)) c e
  unfold execOp
  simp only [ho, Sem.run_bind, Sem.run_pure]
  rw [show (Instr.build t (parts.toArray.map fun x => (x.1, a.eval x.2))).run P w = _ from h]
  rfl
theorem xl_build0 (t : TypeId) {c : Array Value} (hc : P.built t [] = some c) (ho : o.op = .build t #[]) : (execOp a.eval o).run P w = .ok (.value (.agg c)) w := xl_build (parts := []) t hc ho
/-- In a region: an operation that yields a value. -/
theorem st_run {v : Value} (hr : (execOp a.eval o).run P w = .ok (.value v) w) (hw : Region.wanted o (yielded ops a.tmps) = true) (h : K (a.put o.dst v) w) : if Region.wanted o (yielded ops a.tmps) = true then Oper.wp P o a w K Q else E := by
  rw [if_pos hw]
  unfold Oper.wp
  rw [hr]
  exact h
/-- In a region: a row is stored in a block. -/
theorem st_store (ty : TypeId) {x y : Operand} {B k n : Nat} {c vs c' : Array Value} {t : TypeId} (hB : Box w B c t) (hw : Region.wanted o (yielded ops a.tmps) = true) (ho : o.op = .store ty x y) (hx : a.eval x = .pointer (some ⟨B, k, none⟩)) (hy : a.eval y = .agg vs)
    (hi : (P.info? ty).map (·.size) = some n) (hn : vs.size = n) (hs : k + n ≤ c.size) (h1 : vs.all (·.oneCell') = true) (hc : spl c k vs.toList = c')
    (h : ∀ w', Box w' B c' t → But B w w' → K (a.put o.dst undef) w') : if Region.wanted o (yielded ops a.tmps) = true then Oper.wp P o a w K Q else E := by
  rw [if_pos hw]
  subst hn
  have hl : ∀ j, j < vs.toList.length → (w.cell? ⟨B, k + j, none⟩).isSome = true ∧ w.frozen? ⟨B, k + j, none⟩ = false := fun j hj => hB.there (o := k) (n := vs.size) hs j (by simpa using hj)
  have hst := run_storeCells_cells (P := P) B k vs.toList 0 w (fun j hj => by simpa using (hl j hj).1) (fun j hj => by simpa using (hl j hj).2) (fun u hu => by
    have := (Array.all_eq_true'.1 h1) u (by simpa using hu)
    exact this)
  simp only [Nat.add_zero] at hst
  have hsv : (storeVar ty ⟨B, k, none⟩ (.agg vs)).run P w = .ok () (w.setCells B k vs.toList) := by
    cases hq : P.info? ty with
    | none => simp [hq] at hi
    | some i =>
      have hs : i.size = vs.size := by simpa [hq] using hi
      simp [storeVar, sizeOf, typeInfo, hq, Value.cells, hs, hst]
  unfold Oper.wp execOp
  simp only [ho, hx, hy, Instr.storeAt, Instr.sureAddr, Sem.run_bind, Sem.run_pure, Result.andThen_ok, hsv]
  refine h _ ?_ (But.setCells vs.toList k w w (But.refl B w))
  rw [← hc]
  exact Box.setCells (W := w) vs.toList k w c hB
end
section
variable {P : Program} {ops : Array Oper} {rest : List Oper} {o : Oper} {a : Act} {w : World} {Q : Exit → Act → World → Prop} {K : Act → World → Prop} {E : Prop}
theorem run_sl (t e : TypeId) {v : Value} {cells : Array Value} (hu : P.underlying t = some (.slice e)) (hf : P.builtSlice e 1 [(0, v)] = some cells) : (Instr.buildSlice t 1 #[(0, v)]).run P w = .ok (.slice (some ⟨w.heap.size, 0, none⟩) 1 1) (w.alloc (.cells cells e)) := by
  unfold Program.builtSlice at hf
  cases hie : P.info? e with
  | none => simp [hie] at hf
  | some ie =>
    simp only [hie] at hf
    cases hz : ie.zero with
    | none => simp [hz] at hf
    | some z =>
      simp only [hz] at hf
      by_cases hc : 1 * ie.size > 2 ^ 24 ∨ 1 * ie.size = 0
      · rw [if_pos hc] at hf; cases hf
      · rw [if_neg hc] at hf
        exact run_buildSlice w t e 1 _ cells ie z hu hie hz (fun h' => hc (Or.inl h')) (fun h' => hc (Or.inr h')) hf
/-- A slice of one value, made now. -/
theorem wl_sl (t e : TypeId) {x : Operand} {v : Value} {cells : Array Value} (hgd : o.guard = none) (ho : o.op = .buildSlice t 1 #[(0, x)]) (hx : a.eval x = v) (hu : P.underlying t = some (.slice e)) (hf : P.builtSlice e 1 [(0, v)] = some cells)
    (h : ∀ w', Box w' w.heap.size cells e → Below w.heap.size w w' → wpList P ops Q rest (a.put o.dst (.slice (some ⟨w.heap.size, 0, none⟩) 1 1)) w') : wpList P ops Q (o :: rest) a w := by
  refine wpList_plain hgd fun K hK => ?_
  have hr := run_sl (w := w) t e hu hf
  unfold Oper.wp execOp
  simp only [ho, List.map_toArray, List.map_cons, List.map_nil, hx, Sem.run_bind, hr, Result.andThen_ok]
  exact hK _ _ (h _ (Box.new w e cells) (up1 w _))
theorem st_sl (t e : TypeId) {x : Operand} {v : Value} {cells : Array Value} (hw : Region.wanted o (yielded ops a.tmps) = true) (ho : o.op = .buildSlice t 1 #[(0, x)]) (hx : a.eval x = v) (hu : P.underlying t = some (.slice e)) (hf : P.builtSlice e 1 [(0, v)] = some cells)
    (h : ∀ w', Box w' w.heap.size cells e → Below w.heap.size w w' → K (a.put o.dst (.slice (some ⟨w.heap.size, 0, none⟩) 1 1)) w') : if Region.wanted o (yielded ops a.tmps) = true then Oper.wp P o a w K Q else E := by
  rw [if_pos hw]
  have hr := run_sl (w := w) t e hu hf
  unfold Oper.wp execOp
  simp only [ho, List.map_toArray, List.map_cons, List.map_nil, hx, Sem.run_bind, hr, Result.andThen_ok]
  exact h _ (Box.new w e cells) (up1 w _)
theorem run_sl0 (t e : TypeId) {n : Nat} (hu : P.underlying t = some (.slice e)) (hi : (P.info? e).map (·.size) = some n) : (Instr.buildSlice t 0 #[]).run P w = .ok (.slice (some ⟨w.heap.size, 0, none⟩) 0 0) (w.alloc (.cells #[] e)) := by
  cases hie : P.info? e with
  | none => simp [hie] at hi
  | some ie =>
    simp [Instr.buildSlice, run_underlying hu, sizeOf, typeInfo, hie, Instr.fill, newRow]
    rw [show Array.range 0 = (#[] : Array Nat) from Array.eq_empty_of_size_eq_zero (by simp), Array.map_empty]
    try rfl
/-- An empty slice, made now. -/
theorem wl_sl0 (t e : TypeId) {n : Nat} (hgd : o.guard = none) (ho : o.op = .buildSlice t 0 #[]) (hu : P.underlying t = some (.slice e)) (hi : (P.info? e).map (·.size) = some n)
    (h : ∀ w', Box w' w.heap.size #[] e → Below w.heap.size w w' → wpList P ops Q rest (a.put o.dst (.slice (some ⟨w.heap.size, 0, none⟩) 0 0)) w') : wpList P ops Q (o :: rest) a w := by
  refine wpList_plain hgd fun K hK => ?_
  have hr := run_sl0 (w := w) t e hu hi
  unfold Oper.wp execOp
  simp only [ho, List.map_toArray, List.map_nil, Sem.run_bind, hr, Result.andThen_ok]
  exact hK _ _ (h _ (Box.new w e #[]) (up1 w _))
theorem st_sl0 (t e : TypeId) {n : Nat} (hw : Region.wanted o (yielded ops a.tmps) = true) (ho : o.op = .buildSlice t 0 #[]) (hu : P.underlying t = some (.slice e)) (hi : (P.info? e).map (·.size) = some n)
    (h : ∀ w', Box w' w.heap.size #[] e → Below w.heap.size w w' → K (a.put o.dst (.slice (some ⟨w.heap.size, 0, none⟩) 0 0)) w') : if Region.wanted o (yielded ops a.tmps) = true then Oper.wp P o a w K Q else E := by
  rw [if_pos hw]
  have hr := run_sl0 (w := w) t e hu hi
  unfold Oper.wp execOp
  simp only [ho, List.map_toArray, List.map_nil, Sem.run_bind, hr, Result.andThen_ok]
  exact h _ (Box.new w e #[]) (up1 w _)
end
section
variable {P : Program} {ops : Array Oper} {rest : List Oper} {o : Oper} {a : Act} {w : World} {Q : Exit → Act → World → Prop}
/-- A new variable of one cell. -/
theorem wl_box1 (t : TypeId) {x : Operand} {v : Value} (hgd : o.guard = none) (ho : o.op = .box t x) (hx : a.eval x = v) (hv : v.cells = #[v])
    (h : ∀ w', Box w' w.heap.size #[v] t → Below w.heap.size w w' → wpList P ops Q rest (a.put o.dst (.pointer (some ⟨w.heap.size, 0, none⟩))) w') : wpList P ops Q (o :: rest) a w := by
  refine wpList_plain hgd fun K hK => ?_
  unfold Oper.wp execOp
  simp only [ho, hx, Sem.run_bind, Instr.box, newVar, newRow, run_newObj_alloc, Sem.run_pure, Result.andThen_ok, hv]
  exact hK _ _ (h _ (Box.new w t #[v]) (up1 w _))
end
section
variable {P : Program} {ops : Array Oper} {rest : List Oper} {o : Oper} {a : Act} {w : World} {Q : Exit → Act → World → Prop} {K : Act → World → Prop} {E : Prop}
/-- A slice of two values, made now, where it is wanted. -/
theorem wl_slw (t e : TypeId) {x y : Operand} {u v : Value} {cells : Array Value} (hw : Region.wanted o (yielded ops a.tmps) = true) (ho : o.op = .buildSlice t 2 #[(0, x), (1, y)]) (hx : a.eval x = u) (hy : a.eval y = v) (hu : P.underlying t = some (.slice e)) (hf : P.builtSlice e 2 [(0, u), (1, v)] = some cells)
    (h : ∀ w', Box w' w.heap.size cells e → Below w.heap.size w w' → wpList P ops Q rest (a.put o.dst (.slice (some ⟨w.heap.size, 0, none⟩) 2 2)) w') : wpList P ops Q (o :: rest) a w := by
  refine wpList_step fun K hK => ?_
  rw [if_pos hw]
  have hr : (Instr.buildSlice t 2 #[(0, u), (1, v)]).run P w = .ok (.slice (some ⟨w.heap.size, 0, none⟩) 2 2) (w.alloc (.cells cells e)) := by
    unfold Program.builtSlice at hf
    cases hie : P.info? e with
    | none => simp [hie] at hf
    | some ie =>
      simp only [hie] at hf
      cases hz : ie.zero with
      | none => simp [hz] at hf
      | some z =>
        simp only [hz] at hf
        by_cases hc : 2 * ie.size > 2 ^ 24 ∨ 2 * ie.size = 0
        · rw [if_pos hc] at hf; cases hf
        · rw [if_neg hc] at hf
          exact run_buildSlice w t e 2 _ cells ie z hu hie hz (fun h' => hc (Or.inl h')) (fun h' => hc (Or.inr h')) hf
  unfold Oper.wp execOp
  simp only [ho, List.map_toArray, List.map_cons, List.map_nil, hx, hy, Sem.run_bind, hr, Result.andThen_ok]
  exact hK _ _ (h _ (Box.new w e cells) (up1 w _))
end
end Go.Proofs.Ytjbpaapglamilaa.H

namespace Go.Proofs.Ytjbpaapglamilaa.H
open W
set_option linter.unusedVariables false
set_option linter.unusedSimpArgs false
instance : DecidableEq Cv := fun a b => decidable_of_iff (a.f = b.f ∧ a.l = b.l ∧ a.r = b.r) (by cases a; cases b; simp)
def I64 (x : Int) : Prop := -9223372036854775808 ≤ x ∧ x < 9223372036854775808
def zC : Cv := ⟨0, 0, 0⟩
theorem zC_word : zC.word := ⟨⟨by decide, by decide⟩, ⟨by decide, by decide⟩, ⟨by decide, by decide⟩⟩
def mB (c : Cv) : Bool := mayB c.f c.l c.r
theorem mB_zero : mB zC = true := by decide
noncomputable def kB (xs : List Cv) (r : Int) : Bool := @decide (kept xs r) (Classical.propDecidable _)
theorem kB_iff {xs : List Cv} {r : Int} : kB xs r = true ↔ kept xs r := by unfold kB; exact @decide_eq_true_iff _ (Classical.propDecidable _)
theorem sW_perm {a b : List Cv} (h : a.Perm b) (t : Int) : sW a t = sW b t := by
  induction h with
  | nil => rfl
  | cons x _ ih => simp only [sW, ih]
  | swap x y l => simp only [sW]; omega
  | trans _ _ h1 h2 => exact h1.trans h2
theorem kept_perm {a b : List Cv} (h : a.Perm b) (r : Int) : kept a r ↔ kept b r := by
  unfold kept lateAt
  constructor
  · intro k t h0 h1; rw [← sW_perm h]; exact k t h0 h1
  · intro k t h0 h1; rw [sW_perm h]; exact k t h0 h1
theorem kB_perm {a b : List Cv} (h : a.Perm b) (r : Int) : kB a r = kB b r := by
  rw [Bool.eq_iff_iff, kB_iff, kB_iff]; exact kept_perm h r
theorem oneW_zC (t : Int) : oneW zC t = 0 := by
  unfold oneW zC
  split
  · simp [cW]
  · rfl
theorem kB_zero (xs : List Cv) (r : Int) : kB (zC :: xs) r = kB xs r := by
  rw [Bool.eq_iff_iff, kB_iff, kB_iff]
  unfold kept lateAt
  simp only [sW, oneW_zC, Int.zero_add]
theorem kept_less {a b : List Cv} {r : Int} (h : ∀ t, 0 ≤ t → sW a t ≤ sW b t) (k : kept b r) : kept a r := by
  intro t h0 h1
  have := k t h0 h1
  unfold lateAt at *
  have := h t h0
  omega
theorem sW_sub {a b : List Cv} (hw : ∀ c ∈ b, c.word) (h : a.Sublist b) {t : Int} (ht : 0 ≤ t) : sW a t ≤ sW b t := by
  induction h with
  | slnil => exact Int.le_refl _
  | cons x h ih =>
    have := ih (fun c hc => hw c (List.mem_cons_of_mem _ hc))
    have h1 := oneW_nn (hw x (List.mem_cons_self ..)) ht
    simp only [sW]; omega
  | cons_cons x h ih =>
    have := ih (fun c hc => hw c (List.mem_cons_of_mem _ hc))
    simp only [sW]; omega
theorem kB_sub {a b : List Cv} {r : Int} (hw : ∀ c ∈ b, c.word) (h : a.Sublist b) (k : kB b r = true) : kB a r = true :=
  kB_iff.2 (kept_less (fun t ht => sW_sub hw h ht) (kB_iff.1 k))
theorem nodup_le {α : Type} [DecidableEq α] : ∀ {l m : List α}, l.Nodup → (∀ x ∈ l, x ∈ m) → l.length ≤ m.length
  | [], _, _, _ => Nat.zero_le _
  | x :: l, m, h, hs => by
    obtain ⟨h1, h2⟩ := List.nodup_cons.1 h
    have hx := hs x (by simp)
    have := nodup_le (m := m.erase x) h2 (fun y hy => (List.mem_erase_of_ne (by rintro rfl; exact h1 hy)).2 (hs y (by simp [hy])))
    have e := List.length_erase_of_mem hx
    have : 0 < m.length := List.length_pos_of_mem hx
    simp
    omega
/-! ### Live curves -/
abbrev Lv := List (Int × Cv)
def hasK : Lv → Int → Bool
  | [], _ => false
  | p :: L, k => p.1 == k || hasK L k
def getK : Lv → Int → Cv
  | [], _ => zC
  | p :: L, k => if p.1 = k then p.2 else getK L k
def insK : Lv → Int → Cv → Lv
  | [], k, c => [(k, c)]
  | p :: L, k, c => if p.1 < k then p :: insK L k c else (k, c) :: p :: L
def delK (L : Lv) (k : Int) : Lv := L.filter (fun p => p.1 != k)
def idsK (L : Lv) : List Int := L.map (·.1)
def cvsK (L : Lv) : List Cv := L.map (·.2)
def Srt (L : Lv) : Prop := (idsK L).Pairwise (· < ·)
theorem hasK_iff : ∀ {L : Lv} {k : Int}, hasK L k = true ↔ k ∈ idsK L
  | [], k => by simp [hasK, idsK]
  | p :: L, k => by
    have ih := hasK_iff (L := L) (k := k)
    unfold idsK at ih ⊢
    rw [hasK, Bool.or_eq_true, ih, List.map_cons, List.mem_cons, beq_iff_eq]
    constructor <;> rintro (h | h) <;> simp [h]
theorem hasK_no {L : Lv} {k : Int} (h : hasK L k = false) : k ∉ idsK L := fun e => by rw [hasK_iff.2 e] at h; cases h
theorem getK_none : ∀ {L : Lv} {k : Int}, k ∉ idsK L → getK L k = zC
  | [], k, _ => rfl
  | p :: L, k, h => by
    rw [getK, if_neg (fun e => h (by simp [idsK, e])), getK_none (fun e => h (by unfold idsK at *; simp [e]))]
theorem getK_mem : ∀ {L : Lv} {p : Int × Cv}, Srt L → p ∈ L → getK L p.1 = p.2
  | [], p, _, h => by cases h
  | q :: L, p, hs, h => by
    unfold Srt idsK at hs
    rw [List.map_cons, List.pairwise_cons] at hs
    rcases List.mem_cons.1 h with rfl | h
    · rw [getK, if_pos rfl]
    · have := hs.1 p.1 (List.mem_map_of_mem h)
      rw [getK, if_neg (by omega)]
      exact getK_mem hs.2 h
theorem mem_getK : ∀ {L : Lv} {k : Int}, k ∈ idsK L → (k, getK L k) ∈ L
  | [], k, h => by cases h
  | q :: L, k, h => by
    rw [getK]
    by_cases e : q.1 = k
    · rw [if_pos e, ← e]; exact List.mem_cons_self ..
    · rw [if_neg e]
      have : k ∈ idsK L := by
        unfold idsK at *
        rw [List.map_cons, List.mem_cons] at h
        exact h.resolve_left (fun x => e x.symm)
      exact List.mem_cons_of_mem _ (mem_getK this)
theorem mem_insK : ∀ {L : Lv} {k : Int} {c : Cv} {p : Int × Cv}, p ∈ insK L k c ↔ (p = (k, c) ∨ p ∈ L)
  | [], k, c, p => by simp [insK]
  | q :: L, k, c, p => by
    rw [insK]
    split
    · rw [List.mem_cons, mem_insK, List.mem_cons]
      constructor <;> rintro (h | h | h) <;> simp [h]
    · simp
theorem ids_insK {L : Lv} {k : Int} {c : Cv} {j : Int} : j ∈ idsK (insK L k c) ↔ (j = k ∨ j ∈ idsK L) := by
  unfold idsK
  constructor
  · intro h
    obtain ⟨p, hp, rfl⟩ := List.mem_map.1 h
    rcases mem_insK.1 hp with rfl | hp
    · exact .inl rfl
    · exact .inr (List.mem_map_of_mem hp)
  · rintro (rfl | h)
    · exact List.mem_map.2 ⟨_, mem_insK.2 (.inl rfl), rfl⟩
    · obtain ⟨p, hp, rfl⟩ := List.mem_map.1 h
      exact List.mem_map.2 ⟨p, mem_insK.2 (.inr hp), rfl⟩
theorem insK_srt : ∀ {L : Lv} {k : Int} {c : Cv}, Srt L → k ∉ idsK L → Srt (insK L k c)
  | [], k, c, _, _ => by simp [Srt, insK, idsK]
  | q :: L, k, c, hs, hn => by
    have hs' := hs
    unfold Srt idsK at hs'
    rw [List.map_cons, List.pairwise_cons] at hs'
    rw [insK]
    split
    · rename_i h
      unfold Srt
      show (q.1 :: idsK (insK L k c)).Pairwise _
      rw [List.pairwise_cons]
      refine ⟨fun j hj => ?_, insK_srt hs'.2 (fun e => hn (by unfold idsK at *; simp [e]))⟩
      rcases ids_insK.1 hj with rfl | hj
      · exact h
      · exact hs'.1 j hj
    · rename_i h
      have hne : q.1 ≠ k := fun e => hn (by simp [idsK, e])
      unfold Srt
      show (k :: idsK (q :: L)).Pairwise _
      rw [List.pairwise_cons]
      refine ⟨fun j hj => ?_, hs⟩
      unfold idsK at hj
      rw [List.map_cons, List.mem_cons] at hj
      rcases hj with rfl | hj
      · omega
      · have := hs'.1 j hj; omega
theorem insK_perm : ∀ (L : Lv) (k : Int) (c : Cv), (insK L k c).Perm ((k, c) :: L)
  | [], k, c => .refl _
  | q :: L, k, c => by
    rw [insK]
    split
    · exact ((insK_perm L k c).cons q).trans (.swap ..)
    · exact .refl _
theorem insK_len (L : Lv) (k : Int) (c : Cv) : (insK L k c).length = L.length + 1 := (insK_perm L k c).length_eq
theorem get_insK {L : Lv} {k : Int} {c : Cv} (hs : Srt L) (hn : k ∉ idsK L) (j : Int) : getK (insK L k c) j = if j = k then c else getK L j := by
  have hS := insK_srt (c := c) hs hn
  by_cases hj : j = k
  · subst hj
    rw [if_pos rfl]
    exact getK_mem hS (mem_insK.2 (.inl rfl))
  · rw [if_neg hj]
    by_cases hm : j ∈ idsK L
    · exact getK_mem (p := (j, getK L j)) hS (mem_insK.2 (.inr (mem_getK hm)))
    · rw [getK_none hm, getK_none (fun e => by rcases ids_insK.1 e with h | h <;> contradiction)]
theorem mem_delK {L : Lv} {k : Int} {p : Int × Cv} : p ∈ delK L k ↔ (p ∈ L ∧ p.1 ≠ k) := by unfold delK; rw [List.mem_filter]; simp
theorem ids_delK {L : Lv} {k j : Int} : j ∈ idsK (delK L k) ↔ (j ∈ idsK L ∧ j ≠ k) := by
  unfold idsK
  constructor
  · intro h
    obtain ⟨p, hp, rfl⟩ := List.mem_map.1 h
    obtain ⟨h1, h2⟩ := mem_delK.1 hp
    exact ⟨List.mem_map_of_mem h1, h2⟩
  · rintro ⟨h, h2⟩
    obtain ⟨p, hp, rfl⟩ := List.mem_map.1 h
    exact List.mem_map.2 ⟨p, mem_delK.2 ⟨hp, h2⟩, rfl⟩
theorem delK_sub (L : Lv) (k : Int) : (delK L k).Sublist L := List.filter_sublist
theorem delK_srt {L : Lv} {k : Int} (h : Srt L) : Srt (delK L k) := List.Pairwise.sublist ((delK_sub L k).map _) h
theorem delK_none {L : Lv} {k : Int} (h : k ∉ idsK L) : delK L k = L := List.filter_eq_self.2 (fun p hp => by
  simp only [bne_iff_ne, ne_eq]
  rintro rfl
  exact h (List.mem_map_of_mem hp))
theorem idsK_delK (L : Lv) (k : Int) : idsK (delK L k) = (idsK L).filter (fun j => j != k) := by
  unfold idsK delK
  rw [List.filter_map]
  rfl
theorem get_delK {L : Lv} {k : Int} (hs : Srt L) (j : Int) : getK (delK L k) j = if j = k then zC else getK L j := by
  by_cases hj : j = k
  · subst hj
    rw [if_pos rfl]
    exact getK_none (fun e => (ids_delK.1 e).2 rfl)
  · rw [if_neg hj]
    by_cases hm : j ∈ idsK L
    · exact getK_mem (p := (j, getK L j)) (delK_srt hs) (mem_delK.2 ⟨mem_getK hm, hj⟩)
    · rw [getK_none hm, getK_none (fun e => hm (ids_delK.1 e).1)]
theorem delK_perm : ∀ {L : Lv} {k : Int}, Srt L → k ∈ idsK L → L.Perm ((k, getK L k) :: delK L k)
  | [], k, _, h => by cases h
  | q :: L, k, hs, h => by
    have hs' := hs
    unfold Srt idsK at hs'
    rw [List.map_cons, List.pairwise_cons] at hs'
    rw [getK]
    by_cases e : q.1 = k
    · have hn : k ∉ idsK L := fun hk => by have := hs'.1 k hk; omega
      rw [if_pos e]
      have e2 : delK (q :: L) k = L := by
        unfold delK
        rw [List.filter_cons_of_neg (by simp [e])]
        exact delK_none hn
      rw [e2, ← e]
    · rw [if_neg e]
      have hm : k ∈ idsK L := by
        unfold idsK at *
        rw [List.map_cons, List.mem_cons] at h
        exact h.resolve_left (fun x => e x.symm)
      have e2 : delK (q :: L) k = q :: delK L k := by
        unfold delK
        rw [List.filter_cons_of_pos (by simpa using e)]
      rw [e2]
      exact ((delK_perm hs'.2 hm).cons q).trans (.swap ..)
theorem delK_len {L : Lv} {k : Int} (hs : Srt L) (h : k ∈ idsK L) : (delK L k).length + 1 = L.length := by rw [(delK_perm hs h).length_eq]; rfl
theorem srt_nodup {L : Lv} (h : Srt L) : (idsK L).Nodup := h.imp (fun h e => by omega)
theorem lv_len (L : Lv) : (idsK L).length = L.length := List.length_map _
/-! ### Books -/
structure Bk where
  R : Int
  L : Lv
  G : List Cv
def Bk.all (b : Bk) : List Cv := b.G ++ cvsK b.L
def Bk.get (b : Bk) (k : Int) : Cv := getK b.L k
def Bk.has (b : Bk) (k : Int) : Bool := hasK b.L k
noncomputable def Bk.fits (b : Bk) (c : Cv) : Bool := mB c && kB (c :: b.all) b.R
def Bk.note (b : Bk) (k : Int) (c : Cv) : Bk := if c = zC then b else { b with L := insK b.L k c }
def Bk.drop (b : Bk) (k : Int) (keep : Bool) : Bk := if b.has k then { b with L := delK b.L k, G := if keep then b.G ++ [b.get k] else b.G } else b
noncomputable def Bk.putE (b : Bk) (k : Int) (c : Cv) : Int := if mB c then (if b.has k then 80 else if kB (c :: b.all) b.R then 0 else 170) else 30
noncomputable def Bk.put (b : Bk) (k : Int) (c : Cv) : Bk := if b.putE k c = 0 then b.note k c else b
noncomputable def Bk.swpE (b : Bk) (k : Int) (c : Cv) (keep : Bool) : Int := if mB c then (if kB (c :: (b.drop k keep).all) b.R then 0 else 170) else 30
noncomputable def Bk.swp (b : Bk) (k : Int) (c : Cv) (keep : Bool) : Bk := if b.swpE k c keep = 0 then (b.drop k keep).note k c else b
def Bk.settle (b : Bk) : Bk := { b with G := [] }
/-- A curve that is noted. -/
def Nt (c : Cv) : Prop := c.word ∧ mB c = true ∧ c ≠ zC
structure Bk.Fit (b : Bk) (n : Nat) : Prop where
  rate : 1 ≤ b.R ∧ b.R ≤ 1048576
  srt : Srt b.L
  ids : ∀ p ∈ b.L, I64 p.1
  live : ∀ p ∈ b.L, Nt p.2
  ghosts : ∀ c ∈ b.G, Nt c
  kept : kB b.all b.R = true
  few : b.G.length + b.L.length ≤ n
section
variable {b : Bk} {n : Nat} {k : Int} {c : Cv} {keep : Bool}
theorem Bk.Fit.mono {m : Nat} (h : b.Fit n) (hm : n ≤ m) : b.Fit m := { h with few := Nat.le_trans h.few hm }
theorem Bk.all_len (b : Bk) : b.all.length = b.G.length + b.L.length := by unfold Bk.all cvsK; rw [List.length_append, List.length_map]
theorem Bk.Fit.all (h : b.Fit n) : ∀ c ∈ b.all, Nt c := by
  intro c hc
  unfold Bk.all cvsK at hc
  rcases List.mem_append.1 hc with hc | hc
  · exact h.ghosts c hc
  · obtain ⟨p, hp, rfl⟩ := List.mem_map.1 hc
    exact h.live p hp
theorem Bk.Fit.words (h : b.Fit n) : ∀ c ∈ b.all, c.word := fun c hc => (h.all c hc).1
theorem Bk.Fit.rateW (h : b.Fit n) : Word b.R := by have := h.rate; unfold Word; omega
theorem Bk.Fit.new {R : Int} (h : 1 ≤ R ∧ R ≤ 1048576) : (⟨R, [], []⟩ : Bk).Fit 0 where
  rate := h
  srt := .nil
  ids := fun p hp => by cases hp
  live := fun p hp => by cases hp
  ghosts := fun c hc => by cases hc
  kept := kB_iff.2 (fun t h0 h1 => by
    unfold lateAt
    simp only [Bk.all, cvsK, List.map_nil, List.append_nil, sW]
    have := Int.mul_nonneg (show (0:Int) ≤ R by omega) h0
    omega)
  few := by simp
theorem Bk.get_word (h : b.Fit n) (k : Int) : (b.get k).word := by
  unfold Bk.get
  by_cases hm : k ∈ idsK b.L
  · exact (h.live _ (mem_getK hm)).1
  · rw [getK_none hm]; exact zC_word
theorem Bk.drop_all (h : b.Fit n) : b.has k = true → b.all.Perm (if keep then (b.drop k keep).all else b.get k :: (b.drop k keep).all) := by
  intro hk
  have hp := delK_perm h.srt (hasK_iff.1 hk)
  have hp2 : (cvsK b.L).Perm (b.get k :: cvsK (delK b.L k)) := hp.map _
  unfold Bk.drop
  rw [if_pos hk]
  unfold Bk.all
  cases keep with
  | true =>
    simp only [if_true]
    refine (List.Perm.append_left _ hp2).trans ?_
    rw [List.append_assoc]
    exact .refl _
  | false =>
    simp only [Bool.false_eq_true, if_false]
    exact (List.Perm.append_left _ hp2).trans List.perm_middle
theorem Bk.drop_no (h : b.has k = false) : b.drop k keep = b := by unfold Bk.drop; rw [if_neg (by rw [h]; simp)]
theorem Bk.drop_kept (h : b.Fit n) : kB (b.drop k keep).all b.R = true := by
  cases hk : b.has k with
  | false => rw [Bk.drop_no hk]; exact h.kept
  | true =>
    have hp := Bk.drop_all (keep := keep) h hk
    cases keep with
    | true => rw [if_pos rfl] at hp; rw [← kB_perm hp]; exact h.kept
    | false =>
      rw [if_neg (by simp)] at hp
      have hw : ∀ c ∈ b.get k :: (b.drop k false).all, c.word := fun c hc => h.words c (hp.mem_iff.2 hc)
      refine kB_sub hw (List.sublist_cons_self ..) ?_
      rw [← kB_perm hp]; exact h.kept
theorem Bk.drop_R : (b.drop k keep).R = b.R := by unfold Bk.drop; split <;> rfl
theorem Bk.drop_fit (h : b.Fit n) : (b.drop k keep).Fit n := by
  have hkp := Bk.drop_kept (k := k) (keep := keep) h
  have hal := Bk.drop_all (k := k) (keep := keep) h
  have hR := Bk.drop_R (b := b) (k := k) (keep := keep)
  cases hk : b.has k with
  | false => rw [Bk.drop_no hk]; exact h
  | true =>
    have hm := hasK_iff.1 hk
    have hlen := delK_len h.srt hm
    have e : b.drop k keep = { b with L := delK b.L k, G := if keep then b.G ++ [b.get k] else b.G } := if_pos hk
    rw [e] at hkp ⊢
    exact {
      rate := h.rate
      srt := delK_srt h.srt
      ids := fun p hp => h.ids p (mem_delK.1 hp).1
      live := fun p hp => h.live p (mem_delK.1 hp).1
      ghosts := fun c hc => by
        cases keep with
        | true =>
          rcases List.mem_append.1 hc with hc | hc
          · exact h.ghosts c hc
          · obtain rfl : c = b.get k := by simpa using hc
            exact h.live _ (mem_getK hm)
        | false => exact h.ghosts c hc
      kept := hkp
      few := by
        have := h.few
        cases keep with
        | true => simp; omega
        | false => simp; omega }
theorem Bk.note_fit (h : b.Fit n) (hk : I64 k) (hw : c.word) (hm : mB c = true) (hn : b.has k = false) (hq : kB (c :: b.all) b.R = true) : (b.note k c).Fit (n + 1) := by
  unfold Bk.note
  split
  · exact h.mono (Nat.le_succ n)
  · rename_i hz
    have hn' := hasK_no hn
    exact {
      rate := h.rate
      srt := insK_srt h.srt hn'
      ids := fun p hp => by
        rcases mem_insK.1 hp with rfl | hp
        · exact hk
        · exact h.ids p hp
      live := fun p hp => by
        rcases mem_insK.1 hp with rfl | hp
        · exact ⟨hw, hm, hz⟩
        · exact h.live p hp
      ghosts := h.ghosts
      kept := by
        have hp : (⟨b.R, insK b.L k c, b.G⟩ : Bk).all.Perm (c :: b.all) := by
          unfold Bk.all
          exact (List.Perm.append_left _ ((insK_perm b.L k c).map _)).trans List.perm_middle
        rw [kB_perm hp]; exact hq
      few := by
        have := h.few
        have e := insK_len b.L k c
        simp only [e]
        omega }
theorem Bk.put_fit (h : b.Fit n) (hk : I64 k) (hw : c.word) : (b.put k c).Fit (n + 1) := by
  unfold Bk.put
  split
  · rename_i he
    unfold Bk.putE at he
    cases hm : mB c with
    | false => rw [hm] at he; simp at he
    | true =>
      cases hh : b.has k with
      | true => rw [hm, hh] at he; simp at he
      | false =>
        cases hq : kB (c :: b.all) b.R with
        | false => rw [hm, hh, hq] at he; simp at he
        | true => exact Bk.note_fit h hk hw hm hh hq
  · exact h.mono (Nat.le_succ n)
theorem Bk.drop_has : (b.drop k keep).has k = false := by
  cases hk : b.has k with
  | false => rw [Bk.drop_no hk]; exact hk
  | true =>
    unfold Bk.drop
    rw [if_pos hk]
    cases e : (hasK (delK b.L k) k) with
    | false => exact e
    | true => exact absurd rfl (ids_delK.1 (hasK_iff.1 e)).2
theorem Bk.swp_fit (h : b.Fit n) (hk : I64 k) (hw : c.word) : (b.swp k c keep).Fit (n + 1) := by
  unfold Bk.swp
  split
  · rename_i he
    unfold Bk.swpE at he
    cases hm : mB c with
    | false => rw [hm] at he; simp at he
    | true =>
      cases hq : kB (c :: (b.drop k keep).all) b.R with
      | false => rw [hm, hq] at he; simp at he
      | true => exact Bk.note_fit (Bk.drop_fit h) hk hw hm Bk.drop_has (by rw [Bk.drop_R]; exact hq)
  · exact h.mono (Nat.le_succ n)
theorem Bk.settle_fit (h : b.Fit n) : b.settle.Fit n where
  rate := h.rate
  srt := h.srt
  ids := h.ids
  live := h.live
  ghosts := fun c hc => by cases hc
  kept := kB_sub h.words (by unfold Bk.all Bk.settle; exact List.sublist_append_right ..) h.kept
  few := by
    have := h.few
    show 0 + b.L.length ≤ n
    omega
end
end Go.Proofs.Ytjbpaapglamilaa.H

namespace Go.Proofs.Ytjbpaapglamilaa.H
open Go.RowKit Go.Maps Go.ChangeMaps Go.WideShapes Go.Deep
set_option linter.unusedVariables false
set_option linter.unusedSimpArgs false
def cV (c : Cv) : Value := .agg #[eU c.f, eU c.l, eU c.r]
def zK : Value := cV zC
def hE : Value → Option (DataW Value × List MemPlace) := fun v => some (.held v, [])
/-- Block b is a map that has just the keys ks, and says F k at each k (the zero class where there is nothing). -/
def MapV (w : World) (b : Nat) (F : Int → Value) (ks : List Int) : Prop :=
  ∃ D, w.ownsMap Try.prog 3 hE b ks.length D ∧ Maps.size D = ks.length ∧ ks.Nodup ∧ (∀ k, has D (.int .i64 k) = true ↔ k ∈ ks) ∧ ∀ k, D.atKey (.int .i64 k) (.held zK) = .held (F k)
theorem key_of {k : Int} (h : I64 k) : keyOf Try.prog 3 (eI k) = some (.int .i64 k) := keyOf_int_mk Try.underlying3 (by unfold I64 at h; simp [Lit.wf, IntKind.min, IntKind.max, IntKind.bits, IntKind.signed]; omega)
theorem lit_ne {j k : Int} (h : j ≠ k) : Lit.int .i64 j ≠ Lit.int .i64 k := fun e => h (by cases e; rfl)
theorem zeroCv (w : World) : (zeroValue 25).run Try.prog w = .ok zK w := Try.zeroValue25 w
section
variable {w w' : World} {b : Nat} {F : Int → Value} {ks : List Int}
theorem ownsMap_tight {D : DataW Value} {n : Nat} (h : w.ownsMap Try.prog 3 hE b n D) : w.ownsMap Try.prog 3 hE b (Maps.size D) D := by
  obtain ⟨es, clock, hb, F, hs, rfl⟩ := h
  refine ⟨es, clock, hb, F, ?_, rfl⟩
  rw [Maps.size_eq, length_sorted]
  simp
theorem MapV.lt (h : MapV w b F ks) : b < w.heap.size := by obtain ⟨D, h1, _⟩ := h; exact h1.lt
theorem MapV.kept {row : Option Nat} (h : MapV w b F ks) (hg : w.grownBy w' row) (hne : some b ≠ row) : MapV w' b F ks := by
  obtain ⟨D, h1, h2⟩ := h; exact ⟨D, h1.kept hg hne, h2⟩
theorem MapV.below (h : MapV w b F ks) (hb : Below w.heap.size w w') : MapV w' b F ks :=
  h.kept (row := none) ⟨hb.os, hb.tape, hb.output, hb.size, fun k hk _ => hb.block k hk⟩ (by simp)
theorem MapV.off {S : Nat → Prop} (h : MapV w b F ks) (ho : Off S w w') (hn : ¬ S b) : MapV w' b F ks := by
  obtain ⟨D, ⟨es, clock, hb, h1⟩, h2⟩ := h
  exact ⟨D, ⟨es, clock, (ho.block b (Array.getElem?_eq_some_iff.1 hb).1 hn).trans hb, h1⟩, h2⟩
theorem MapV.unbox (h : MapV w b F ks) (vs : Array Value) (t : TypeId) : ¬ Box w b vs t := fun hb => by
  obtain ⟨D, ⟨es, clock, hb', _⟩, _⟩ := h
  have : w.heap[b]? = some (.cells vs t (0, 0)) := hb
  rw [hb'] at this
  cases this
theorem MapV.made (w : World) : MapV (w.alloc (.map #[] 0)) w.heap.size (fun _ => zK) [] :=
  ⟨_, World.ownsMap_made w Try.prog 3 hE, rfl, .nil, fun k => by simp [Maps.has], fun k => rfl⟩
theorem MapV.say (h : MapV w b F ks) {F' : Int → Value} (he : ∀ k, F k = F' k) : MapV w b F' ks := by
  have : F = F' := funext he
  rw [← this]; exact h
theorem MapV.keys (h : MapV w b F ks) {js : List Int} (hn : js.Nodup) (he : ∀ k, k ∈ ks ↔ k ∈ js) : MapV w b F js := by
  obtain ⟨D, h1, h2, h3, h4, h5⟩ := h
  have e : ks.length = js.length := Nat.le_antisymm (nodup_le h3 (fun x hx => (he x).1 hx)) (nodup_le hn (fun x hx => (he x).2 hx))
  exact ⟨D, by rw [← e]; exact h1, by rw [← e]; exact h2, hn, fun k => (h4 k).trans (he k), h5⟩
theorem MapV.none (h : MapV w b F ks) {k : Int} (hk : k ∉ ks) : F k = zK := by
  obtain ⟨D, h1, h2, h3, h4, h5⟩ := h
  have e := h5 k
  have hf : has D (.int .i64 k) = false := by cases hh : has D (.int .i64 k) with
    | false => rfl
    | true => exact absurd ((h4 k).1 hh) hk
  rw [atKey_of_not_has hf] at e
  injection e with e
  exact e.symm
theorem MapV.look (h : MapV w b F ks) {k : Int} (hk : I64 k) : (Instr.lookup 38 (.map (some b)) (eI k) false).run Try.prog w = .ok (F k) w := by
  obtain ⟨D, h1, _, _, _, h2⟩ := h
  obtain ⟨x, ps, hr, hx⟩ := h1.lookup (int_keyed Try.underlying3) Try.underlying38 (e := 25) (z := zK) (zeroCv w) (zd := .held zK) (zp := []) rfl (key_of hk)
  rw [h2] at hx
  cases hx
  exact hr
theorem MapV.look_ok (h : MapV w b F ks) {k : Int} (hk : I64 k) : (Instr.lookup 38 (.map (some b)) (eI k) true).run Try.prog w = .ok (.tuple #[F k, .bool (decide (k ∈ ks))]) w := by
  obtain ⟨D, h1, _, _, h4, h2⟩ := h
  obtain ⟨x, ps, hr, hx⟩ := h1.look_ok (int_keyed Try.underlying3) Try.underlying38 (e := 25) (z := zK) (zeroCv w) (zd := .held zK) (zp := []) rfl (key_of hk)
  rw [h2] at hx
  cases hx
  have e : has D (.int .i64 k) = decide (k ∈ ks) := by
    by_cases hm : k ∈ ks
    · rw [(h4 k).2 hm, decide_eq_true hm]
    · rw [decide_eq_false hm]
      cases hh : has D (.int .i64 k) with
      | false => rfl
      | true => exact absurd ((h4 k).1 hh) hm
  rw [hr, e]
theorem MapV.len (h : MapV w b F ks) (ty : TypeId) : (Builtin.len_ #[38] ty #[.map (some b)]).run Try.prog w = .ok (eI (ks.length : Int)) w := by
  obtain ⟨D, h1, h2, _⟩ := h
  rw [h1.len Try.underlying38 ty, h2]
/-- A store. -/
theorem MapV.upd (h : MapV w b F ks) (hc : ks.length ≤ 5000) {k : Int} (v : Value) (hk : I64 k) :
    ∃ w', (Instr.mapUpdate 38 (.map (some b)) (eI k) v).run Try.prog w = .ok () w' ∧ MapV w' b (fun j => if j = k then v else F j) (if k ∈ ks then ks else k :: ks) ∧ But b w w' ∧ w'.heap.size = w.heap.size := by
  obtain ⟨D, h1, h0, hd, h3, h2⟩ := h
  have hm1 := h1.isMap
  have ht := h1.tidy (int_keyed Try.underlying3)
  have hkl : WideAt.IsKeyLit (.int .i64 k) := by trivial
  obtain ⟨w', hr, ho, hg⟩ := h1.store (int_keyed Try.underlying3) Try.underlying38 (Nat.lt_of_le_of_lt hc (by decide)) (key_of hk) (val := v) (d := .held v) (ps := []) rfl
  have hsz : Maps.size (D.put (.int .i64 k) (.held v)) = (if k ∈ ks then ks else k :: ks).length := by
    rw [size_put ht, h0]
    by_cases hm : k ∈ ks
    · rw [if_pos hm, if_pos ((h3 k).2 hm)]
    · rw [if_neg hm, if_neg (fun e => hm ((h3 k).1 e))]; rfl
  have hgr := hg.grown
  obtain ⟨es, clock, es', clock', hb, rfl⟩ := hg
  refine ⟨_, hr, ⟨_, by have := ownsMap_tight ho; rw [hsz] at this; exact this, hsz, ?_, fun j => ?_, fun j => ?_⟩, ⟨hgr.os, hgr.tape, hgr.output, hgr.size, fun i hi hne => hgr.block i hi (fun e => hne (by cases e; rfl))⟩, by simp [setBlock]⟩
  · split
    · exact hd
    · exact List.nodup_cons.2 ⟨by assumption, hd⟩
  · have e : j ∈ (if k ∈ ks then ks else k :: ks) ↔ (j = k ∨ j ∈ ks) := by
      split
      · rename_i hm
        exact ⟨.inr, fun h => h.elim (fun e => e ▸ hm) id⟩
      · exact List.mem_cons
    rw [e]
    by_cases hj : j = k
    · subst hj; simp [has_put_same hm1 hkl]
    · rw [has_put_other (lit_ne hj), h3 j]; simp [hj]
  · by_cases hj : j = k
    · subst hj; simp [atKey_put_same hm1 hkl]
    · simp [atKey_put_other (lit_ne hj), hj, h2 j]
/-- A delete. -/
theorem MapV.del (h : MapV w b F ks) {k : Int} (hk : I64 k) (ty : TypeId) :
    ∃ w', (Builtin.delete_ #[38, 3] ty #[.map (some b), eI k]).run Try.prog w = .ok (.tuple #[]) w' ∧ MapV w' b (fun j => if j = k then zK else F j) (ks.filter (fun j => j != k)) ∧ But b w w' ∧ w'.heap.size = w.heap.size := by
  obtain ⟨D, h1, h0, hd, h3, h2⟩ := h
  have ht := h1.tidy (int_keyed Try.underlying3)
  obtain ⟨w', hr, ho, hg⟩ := h1.drop (int_keyed Try.underlying3) Try.underlying38 (key_of hk) ty
  have hnd : (ks.filter (fun j => j != k)).Nodup := hd.filter _
  have hsz : Maps.size (D.del (.int .i64 k)) = (ks.filter (fun j => j != k)).length := by
    have e := size_del (k := .int .i64 k) ht
    by_cases hm : k ∈ ks
    · rw [(h3 k).2 hm, h0] at e
      simp only [if_true] at e
      have e2 : (k :: ks.filter (fun j => j != k)).length = ks.length := by
        refine Nat.le_antisymm (nodup_le (List.nodup_cons.2 ⟨by simp, hnd⟩) (fun x hx => ?_)) (nodup_le hd (fun x hx => ?_))
        · rcases List.mem_cons.1 hx with rfl | hx
          · exact hm
          · exact (List.mem_filter.1 hx).1
        · by_cases hxk : x = k
          · simp [hxk]
          · simp [hx, hxk]
      simp only [List.length_cons] at e2
      omega
    · have hf : has D (.int .i64 k) = false := by cases hh : has D (.int .i64 k) with
        | false => rfl
        | true => exact absurd ((h3 k).1 hh) hm
      rw [hf, h0] at e
      have e2 : ks.filter (fun j => j != k) = ks := List.filter_eq_self.2 (fun x hx => by simp; rintro rfl; exact hm hx)
      rw [e2]
      simpa using e
  have hgr := hg.grown
  obtain ⟨es, clock, es', clock', hb, rfl⟩ := hg
  refine ⟨_, hr, ⟨_, by have := ownsMap_tight ho; rw [hsz] at this; exact this, hsz, hnd, fun j => ?_, fun j => ?_⟩, ⟨hgr.os, hgr.tape, hgr.output, hgr.size, fun i hi hne => hgr.block i hi (fun e => hne (by cases e; rfl))⟩, by simp [setBlock]⟩
  · rw [List.mem_filter]
    by_cases hj : j = k
    · subst hj; simp [has_del_same]
    · rw [has_del_other (lit_ne hj), h3 j]; simp [hj]
  · by_cases hj : j = k
    · subst hj; simp [atKey_del_same]
    · simp [atKey_del_other (lit_ne hj), hj, h2 j]
end
section
variable {ops : Array Oper} {rest : List Oper} {o : Oper} {a : Act} {w : World} {Q : Exit → Act → World → Prop} {K : Act → World → Prop} {E : Prop} {b : Nat} {F : Int → Value} {ks : List Int}
/-- A class is laid into a map. -/
theorem wl_upd {m x v : Operand} (hgd : o.guard = none) (ho : o.op = .mapUpdate 38 m x v ∨ o.op = .insert 38 m x v) (h : MapV w b F ks) (hc : ks.length ≤ 5000) (hm : a.eval m = .map (some b)) (k : Int) (hx : a.eval x = eI k) (hk : I64 k) (u : Value) (hv : a.eval v = u)
    (hK : ∀ w', MapV w' b (fun j => if j = k then u else F j) (if k ∈ ks then ks else k :: ks) → But b w w' → w'.heap.size = w.heap.size → wpList Try.prog ops Q rest (a.put o.dst undef) w') : wpList Try.prog ops Q (o :: rest) a w := by
  refine wpList_plain hgd fun K' hK' => ?_
  obtain ⟨w', hrun, r1, r2, r3⟩ := h.upd hc u hk
  unfold Oper.wp
  rcases ho with ho | ho
  · simp [execOp, ho, hm, hx, hv, hrun, Result.andThen]
    exact hK' _ _ (hK w' r1 r2 r3)
  · simp [execOp, ho, hm, hx, hv, hrun, Result.andThen]
    exact hK' _ _ (hK w' r1 r2 r3)
theorem st_upd {m x v : Operand} (hw : Region.wanted o (yielded ops a.tmps) = true) (ho : o.op = .mapUpdate 38 m x v) (h : MapV w b F ks) (hc : ks.length ≤ 5000) (hm : a.eval m = .map (some b)) (k : Int) (hx : a.eval x = eI k) (hk : I64 k) (u : Value) (hv : a.eval v = u)
    (hK : ∀ w', MapV w' b (fun j => if j = k then u else F j) (if k ∈ ks then ks else k :: ks) → But b w w' → w'.heap.size = w.heap.size → K (a.put o.dst undef) w') : if Region.wanted o (yielded ops a.tmps) = true then Oper.wp Try.prog o a w K Q else E := by
  rw [if_pos hw]
  obtain ⟨w', hrun, r1, r2, r3⟩ := h.upd hc u hk
  unfold Oper.wp
  simp [execOp, ho, hm, hx, hv, hrun, Result.andThen]
  exact hK w' r1 r2 r3
theorem wl_del {m x : Operand} (hgd : o.guard = none) (ho : o.op = .call { callee := .builtin .delete, args := #[m, x], argTypes := #[38, 3] }) (h : MapV w b F ks) (hm : a.eval m = .map (some b)) (k : Int) (hx : a.eval x = eI k) (hk : I64 k)
    (hK : ∀ w', MapV w' b (fun j => if j = k then zK else F j) (ks.filter (fun j => j != k)) → But b w w' → w'.heap.size = w.heap.size → wpList Try.prog ops Q rest (a.put o.dst (.tuple #[])) w') : wpList Try.prog ops Q (o :: rest) a w := by
  refine wpList_plain hgd fun K' hK' => ?_
  obtain ⟨w', hrun, r1, r2, r3⟩ := h.del hk o.type
  unfold Oper.wp
  simp [execOp, ho, resolve, invoke, builtin, hm, hx, hrun, Result.andThen]
  exact hK' _ _ (hK w' r1 r2 r3)
theorem wl_len {m : Operand} (hgd : o.guard = none) (ho : o.op = .call { callee := .builtin .len, args := #[m], argTypes := #[38] }) (h : MapV w b F ks) (hm : a.eval m = .map (some b))
    (hK : wpList Try.prog ops Q rest (a.put o.dst (eI (ks.length : Int))) w) : wpList Try.prog ops Q (o :: rest) a w := by
  refine wpList_plain hgd fun K' hK' => ?_
  unfold Oper.wp
  simp [execOp, ho, resolve, invoke, builtin, hm, h.len o.type, Result.andThen]
  exact hK' _ _ hK
end
end Go.Proofs.Ytjbpaapglamilaa.H

namespace Go.Proofs.Ytjbpaapglamilaa.H
open Go.RowKit Go.Shelf Go.Maps Go.Sort
set_option linter.unusedVariables false
attribute [local go_sem] Oper.semAt_some
theorem owns_cell {w : World} {base : Nat} {g n cap : Nat} {cs : List Int} (h : w.ownsRow base 3 1 (.slice (some ⟨g, 0, none⟩) n cap) cs.length (cs.map eI)) {j : Nat} (hj : j < cs.length) :
    w.cell? ⟨g, j, none⟩ = some (.int .i64 (cs.getD j 0)) := by
  have := h.cells (g := g) rfl j (eI (cs.getD j 0)) (by simp [List.getD, List.getElem?_eq_getElem hj])
  have hadd : (⟨g, 0, none⟩ : Addr).add j = ⟨g, j, none⟩ := by unfold Addr.add; split <;> simp_all
  rwa [hadd] at this
theorem owns_some {w : World} {base : Nat} {v : Value} {n : Nat} {xs : List Value} (h : w.ownsRow base 3 1 v n xs) (h0 : 0 < n) : ∃ g cap, v = .slice (some ⟨g, 0, none⟩) n cap ∧ n ≤ cap ∧ base ≤ g ∧ g < w.heap.size := by
  rcases h.2 with ⟨_, e⟩ | ⟨g, cap, cur, e, hb, hg, hc, _⟩
  · omega
  · exact ⟨g, cap, e, hc, hb, (Array.getElem?_eq_some_iff.1 hg).1⟩
theorem owns_below {w w' : World} {base : Nat} {v : Value} {n : Nat} {xs : List Value} (h : w.ownsRow base 3 1 v n xs) (hb : Below w.heap.size w w') : w'.ownsRow base 3 1 v n xs :=
  h.kept (row := none) ⟨hb.os, hb.tape, hb.output, hb.size, fun j hj _ => hb.block j hj⟩ (by cases v.ownBlock <;> simp)
theorem key_word {P : Program} {k : TypeId} (hk : P.underlying k = some (.int .i64)) {key : Value} {kl : Lit} (h : keyOf P k key = some kl) : ∃ x : Int, key = eI x ∧ kl = .int .i64 x ∧ (Lit.int .i64 x).wf = true := by
  cases key <;> simp [keyOf, hk, mapKey] at h
  rename_i q a
  obtain ⟨⟨rfl, hw⟩, rfl⟩ := h
  exact ⟨a, rfl, rfl, hw⟩
theorem eI_inj {x y : Int} (h : eI x = eI y) : x = y := by simpa [eI] using h
/-- What has come so far: no key twice; just those that the map has and that are no longer to come. -/
def Kol (D : DataW Value) (left : Lit → Bool) (ss : List Int) : Prop := ss.Nodup ∧ ∀ x, x ∈ ss ↔ (has D (.int .i64 x) = true ∧ left (.int .i64 x) = false)
theorem Kol.start (D : DataW Value) : Kol D (has D) [] := ⟨List.nodup_nil, fun x => by cases h : has D (.int .i64 x) <;> simp⟩
theorem Kol.step {D : DataW Value} {left : Lit → Bool} {ss : List Int} (h : Kol D left ss) {x : Int} {y : DataW Value} (hl : left (.int .i64 x) = true) (hat : ∀ z, D.atKey (.int .i64 x) z = y) :
    Kol D (fun z => left z && !z.sameKey (.int .i64 x)) (ss ++ [x]) := by
  have hh : has D (.int .i64 x) = true := has_true_of_atKey hat
  have hn : x ∉ ss := fun hx => by have := ((h.2 x).1 hx).2; rw [hl] at this; cases this
  refine ⟨List.nodup_append.2 ⟨h.1, by simp, fun a ha b hb => by simp at hb; subst hb; exact fun e => hn (e ▸ ha)⟩, fun y => ?_⟩
  by_cases hy : y = x
  · subst hy; simp [hh, Lit.sameKey]
  · simp [h.2 y, hy, Lit.sameKey]
theorem infoI : (Try.prog.info? 3).map (fun i => (i.zero, i.size, i.bytes)) = some (some (.int .i64 0), 1, 8) := by kernel_rfl
abbrev Rel := Value → Option (DataW Value × List MemPlace)
theorem keys_any (mb : Option Nat) (w : World) :
    Calls Try.prog 47 #[.map mb] w fun e w' => e = .returned (.func (.func 55) #[] #[.pointer (some ⟨w.heap.size, 0, none⟩)]) ∧ w' = w.alloc (.cells #[.map mb] 38) := by
  go_enter Try.func47, Try.ntmps47
  go_wp2
  go_ret
  exact ⟨rfl, rfl⟩
set_option maxRecDepth 100000 in
set_option maxHeartbeats 1000000 in
theorem keys_go (n : Nat) (hn : 1 ≤ n) (Bm b nn : Nat) (D : DataW Value) (R : Rel) (w : World) (hBm : Bm < w.heap.size) (hbw : b < w.heap.size)
    (hm : w.cell? ⟨Bm, 0, none⟩ = some (.map (some b))) (hown : w.ownsMap Try.prog 3 R b nn D) :
    SeqStopsK Fence.wide n Try.prog 55 #[.pointer (some ⟨Bm, 0, none⟩)] (fun x : Int => #[eI x]) KeepsWalks (fun ss => ss.Nodup ∧ (∀ x, x ∈ ss ↔ has D (.int .i64 x) = true)) (fun _ => True) (Maps.size D) w := by
  intro l J Jx W hW hJ hJx hY h0
  have hmW : W.cell? ⟨Bm, 0, none⟩ = some (.map (some b)) := (hW.cell (p := ⟨Bm, 0, none⟩) hBm).trans hm
  have howW : W.ownsMap Try.prog 3 R b nn D := by
    obtain ⟨es, clock, hb, Ft, hs, hD⟩ := hown
    exact ⟨es, clock, (hW.block b hbw).trans hb, Ft, hs, hD⟩
  clear hm hown
  refine callsIn_of_wp Try.func55 rfl trivial ?_ rfl
  simp only [Try.ntmps55, List.size_toArray, List.length_cons, List.length_nil, Nat.reduceAdd, Nat.reduceSub, Array.replicate_succ, Array.replicate_zero, List.push_toArray, List.append_toArray, List.nil_append, List.cons_append]
  gi_wp2_with (first
    | (gi_at_range; refine wpListIn_range_own _ rfl _ 38 rfl 3 25 (int_keyed Try.underlying3) Try.underlying38 R b nn D rfl howW ?_; intro w0 hrg0 hg0 hs0)
    | gi_in)
  gi_loopw [3] (fun _ wr => ∃ (left : Lit → Bool) (cnt : Nat) (ss : List Int), wr.ranges Try.prog 3 R b W.heap.size nn D left cnt ∧ ss.length + cnt ≤ Maps.size D ∧ Kol D left ss ∧ J ss wr)
    (fun _ wr => wr.rangeLeft b W.heap.size)
  case atStart =>
    exact ⟨_, _, [], hrg0, by simp, Kol.start D, hJ [] W w0 none h0 hg0 (fun r e => by cases e)⟩
  case round =>
    obtain ⟨left, cnt, ss, hrg, hcs, hC, hJs⟩ := hrel
    gi_wp2_with (first
      | (gi_at_next; refine wpListIn_next_ranges _ rfl _ rfl 3 (int_keyed Try.underlying3) R eI id (fun key kl hk => by obtain ⟨x, hx, _⟩ := key_word Try.underlying3 hk; exact ⟨x, hx⟩) (fun v _ _ => ⟨v, rfl⟩) b W.heap.size nn _ _ _ rfl hrg ?_ ?_)
      | gi_in)
    · intro hc0 hl0
      gi_wp2
      go_end0
      exact ⟨⟨_, rfl⟩, .inl ⟨ss, ⟨hC.1, fun x => by rw [hC.2 x, hl0]; simp⟩, hJs⟩⟩
    · intro x c kl yd yp w2 cnt2 hkey hlk hv hat hrg2 hlt hg2 hs2 hen
      obtain ⟨x', ex, rfl, _⟩ := key_word Try.underlying3 hkey
      obtain rfl : x = x' := eI_inj ex
      have hJ2 : J ss w2 := hJ ss wr w2 (some W.heap.size) hJs hg2 (fun r e => by cases e; exact ⟨Nat.le_refl _, hrg.iter_walk⟩)
      obtain ⟨fn, tmps, assign, body, hy, hR⟩ := hY ss x w2 hJ2 (by omega)
      clear hs2
      have hC2 := hC.step hlk hat
      gi_wp2
      refine hR.mono ?_
      rintro e W3 (⟨rfl, hJ3, hk3⟩ | ⟨rfl, hJx3⟩)
      · gi_wp2
        have hrg3 := hrg2.of_walks hk3
        go_roundw
        case rel => exact ⟨_, cnt2, ss ++ [x], hrg3, by simp; omega, hC2, hJ3⟩
        case measure => rw [hrg3.left_eq, hrg.left_eq]; exact hlt
      · gi_wp2
        refine bodyPost_ret (results_none rfl _ _ _) rfl ?_
        exact ⟨⟨_, rfl⟩, .inr ⟨ss ++ [x], trivial, hJx3⟩⟩
abbrev keySeq (n g : Nat) (lb : Array Value) (S Sp : List Int → Prop) (N : Nat) (w : World) : Prop := SeqStopsK Fence.wide n Try.prog g lb (fun x : Int => #[eI x]) KeepsWalks S Sp N w
theorem keySeq.later {n g : Nat} {lb : Array Value} {S Sp : List Int → Prop} {N : Nat} {w w' : World} (h : keySeq n g lb S Sp N w) (hb : Below w.heap.size w w') : keySeq n g lb S Sp N w' :=
  fun l J Jx W hW hJ hJx hY h0 => h l J Jx W (hb.trans (hW.mono hb.size)) hJ hJx hY h0
set_option maxRecDepth 100000 in
set_option maxHeartbeats 2000000 in
theorem appendSeq_go (n g : Nat) (hn : 3 ≤ n) (lb : Array Value) (eg : ∀ args w, (callFunc g args).run Try.prog w = .ok (.enter g args) w) (S Sp : List Int → Prop) (N : Nat) (hN : N ≤ 1000) (w : World) (hseq : keySeq (n - 1) g lb S Sp N w) :
    CallsIn Fence.wide n Try.prog 61 #[.slice none 0 0, .func (.func g) #[] lb] w fun e W' => ∃ v ss, e = .returned v ∧ S ss ∧ W'.ownsRow w.heap.size 3 1 v ss.length (ss.map eI) ∧ (v = .slice none 0 0 ↔ ss = []) ∧ Below w.heap.size w W' := by
  have h1 : 1 ≤ n := by omega
  obtain ⟨i0, hi, hz0, hz1, hz2⟩ := info_parts infoI
  refine callsIn_of_wp_marks Try.func61 rfl trivial ?_ rfl
  simp only [Try.ntmps61, List.size_toArray, List.length_cons, List.length_nil, Nat.reduceAdd, Nat.reduceSub, Array.replicate_succ, Array.replicate_zero, List.push_toArray, List.append_toArray, List.nil_append, List.cons_append]
  gi_wp2
  have bO := Boxed.new w 48 (.slice none 0 0)
  have hB0 : Below w.heap.size w (w.alloc (.cells #[.slice none 0 0] 48)) := (Below.refl _ w).alloc (Nat.le_refl _) _
  refine wpIn_rangeFunc_ownG rfl h1 (gf := g) (lb := lb) rfl trivial eg (hseq.later hB0) walksK_t walksK_b (Below.refl _ _) (fun _ => rfl)
    (fun pre W => (∃ v, Boxed W w.heap.size 48 v ∧ W.ownsRow w.heap.size 3 1 v pre.length (pre.map eI) ∧ (v = .slice none 0 0 ↔ pre = [])) ∧ Below w.heap.size w W)
    (fun _ _ _ => False)
    (OwnFrom.and (Go.Own.from (holdsRow_own w.heap.size w.heap.size 48 3 1 (fun pre => pre.length) (fun pre => pre.map eI) (fun pre v => v = .slice none 0 0 ↔ pre = [])) _) (ownFrom_below (Nat.le_refl _) (by simp)))
    (fun _ _ _ _ _ hs _ _ => hs)
    ⟨⟨_, bO, World.ownsRow_nil _ _ _ _, by simp⟩, hB0⟩
    (fun x => { tmps := #[.slice none 0 0, .func (.func g) #[] lb, .pointer (some ⟨w.heap.size, 0, none⟩), undef, .slice none 0 0, eI x, .func (.func g) #[] lb, eI x, undef, undef, undef, undef, undef], defers := [] }) ?assign ?body ?done ?stop
  case assign =>
    intro l x W K hK
    gi_wp2
    exact hK
  case body =>
    rintro l pre x W ⟨⟨v, hv, hrow, hnil⟩, hB⟩ hlt
    have hc := hv.cell
    have hf := hv.frozen
    have hmx : ∀ k, k ≤ 1001 → k ≤ maxLen := fun k hk => Nat.le_trans hk (by decide)
    gi_wp2_with (gi_at_builtin; refine wpListIn_append_own _ rfl _ _ 48 rfl w.heap.size 3 i0 (.int .i64 0) 1 8 Try.underlying48 hi hz0 hz1 hz2 rfl (by decide) _ _ _ rfl (hrow.alloc _) ⟨W.heap.size, 0, none⟩ 1 1 [eI x] rfl rfl (cell_one_new _ _ _) (by simp [Value.oneCell']) (hmx _ (by omega)) (by omega) (by have := hB.size; simp; omega) ?_; intro v' w1 hown' hgrow _; obtain ⟨g', cap', rfl⟩ := ownsRow_succ hown'; obtain ⟨hv1, hv2, hr2, hk2, hb2⟩ := hv.appended (by decide) hrow hB.size (Nat.le_refl _) hown' hgrow; have hc1 := hv1.cell; have hf1 := hv1.frozen)
    exact ⟨hk2.from _, hk2.walks, ⟨_, hv2, by simpa using hr2, by simp⟩, hB.trans hb2⟩
  case done =>
    rintro D ys W hD hS' ⟨⟨v, hv, hrow, hnil⟩, hB⟩ hK
    have hc := hv.cell
    gi_wp2
    refine ⟨by simp, .inl ⟨_, _, rfl, run_takeDeferred hK, ?_⟩⟩
    exact ⟨_, results_tmp rfl _ _ _, v, ys, rfl, hS', ownsRow_putObj hrow _ hK rfl, hnil, hB.trans (belowK_b (w := w) (Nat.le_refl _) W D _ _ (by simp at hD; omega) hK rfl rfl)⟩
  case stop =>
    rintro D c pre W _ _ h _
    exact h.elim
set_option maxHeartbeats 1000000 in
theorem collect_go (n g : Nat) (hn : 4 ≤ n) (lb : Array Value) (eg : ∀ args w, (callFunc g args).run Try.prog w = .ok (.enter g args) w) (S Sp : List Int → Prop) (N : Nat) (hN : N ≤ 1000) (w : World) (hseq : keySeq (n - 1 - 1) g lb S Sp N w) :
    CallsIn Fence.wide n Try.prog 53 #[.func (.func g) #[] lb] w fun e W' => ∃ v ss, e = .returned v ∧ S ss ∧ W'.ownsRow w.heap.size 3 1 v ss.length (ss.map eI) ∧ (v = .slice none 0 0 ↔ ss = []) ∧ Below w.heap.size w W' := by
  refine callsIn_of_wp Try.func53 rfl trivial ?_ rfl
  simp only [Try.ntmps53, List.size_toArray, List.length_cons, List.length_nil, Nat.reduceAdd, Nat.reduceSub, Array.replicate_succ, Array.replicate_zero, List.push_toArray, List.append_toArray, List.nil_append, List.cons_append]
  have h1 : 1 ≤ n := by omega
  have cA := appendSeq_go (n - 1) g (by omega) lb eg S Sp N hN w hseq
  gi_wp2_with (refine ⟨trivial, ?_⟩; gi_at_call 61; refine cA.mono ?_; rintro e w' ⟨v, ss, rfl, hS, hrow, hnil, hb⟩)
  go_ret
  exact ⟨v, ss, rfl, hS, hrow, hnil, hb⟩
/-- What the sort is said to do, up to so many. -/
def SortI (m : Nat) : Prop :=
  (∀ (blk cap : Nat) (ss : List Int) (W : World), Holds eI W blk 0 ss.toArray → blk < W.heap.size → (∀ x ∈ ss, I64 x) → ss.length ≤ m →
    Calls Try.prog 54 #[.slice (some ⟨blk, 0, none⟩) ss.length cap] W fun e w' => e = .returned (.tuple #[]) ∧ ∃ (ts : List Int) (k : Nat) (os : Array Obj), ts.Perm ss ∧ ts.Pairwise (· ≤ ·) ∧ w' = grow (putRow eI (Sort.ahead W k) blk 0 ts.toArray) os) ∧
  (∀ (W : World), Calls Try.prog 54 #[.slice none 0 0] W fun e w' => e = .returned (.tuple #[]) ∧ Below W.heap.size W w')
theorem holds_owned {w : World} {base g cap : Nat} {ss : List Int} (h : w.ownsRow base 3 1 (.slice (some ⟨g, 0, none⟩) ss.length cap) ss.length (ss.map eI)) (hne : ss ≠ []) : Holds eI w g 0 ss.toArray := by
  intro j hj
  have hj' : j < ss.length := by simpa using hj
  have a1 := owns_cell h hj'
  rw [Nat.zero_add]
  rcases h.2 with ⟨h', _⟩ | ⟨g', cap', cur, e, hbase, hg, h1, h2, h3, h4⟩
  · cases h'
  · cases e
    exact ⟨by simpa [hj'] using a1, by simp [World.frozen?, hg]⟩
theorem sorted_heap {w : World} {g n : Nat} {os : Array Obj} {cur : Array Value} {e : TypeId} {fr : Nat × Nat} (d : Array Int) (hb : w.heap[g]? = some (.cells cur e fr)) :
    (grow (putRow eI (Sort.ahead w n) g 0 d) os).heap[g]? = some (.cells (putCells eI 0 d cur) e fr) := by
  have hg : g < w.heap.size := (Array.getElem?_eq_some_iff.1 hb).1
  rw [heap_grow_old _ _ (by simpa using hg)]
  simp [putRow, mapBlock, Sort.ahead, Array.getElem?_modify, hb, onCells]
theorem sorted_grown {w : World} {g n : Nat} {os : Array Obj} (d : Array Int) : w.grownBy (grow (putRow eI (Sort.ahead w n) g 0 d) os) (some g) := by
  refine ⟨rfl, rfl, rfl, by simp, fun k hk hne => ?_⟩
  rw [heap_grow_old _ _ (by simpa using hk)]
  have : g ≠ k := fun e => hne (by rw [e])
  simp [putRow, mapBlock, Sort.ahead, Array.getElem?_modify, this]
theorem taken_cells (cur : Array Value) (ts : List Int) (h : ts.length ≤ cur.size) : (putCells eI 0 ts.toArray cur).toList.take ts.length = ts.map eI := by
  apply List.ext_getElem?
  intro j
  by_cases hj : j < ts.length
  · rw [List.getElem?_take_of_lt hj, Array.getElem?_toList]
    simp [putCells, hj, show j < cur.size by omega]
  · rw [List.getElem?_take_eq_none (by omega), List.getElem?_eq_none (by simp; omega)]
theorem sorted_owns {w : World} {base g cap n : Nat} {os : Array Obj} {ss ts : List Int} (h : w.ownsRow base 3 1 (.slice (some ⟨g, 0, none⟩) ss.length cap) ss.length (ss.map eI)) (hl : ts.length = ss.length) :
    (grow (putRow eI (Sort.ahead w n) g 0 ts.toArray) os).ownsRow base 3 1 (.slice (some ⟨g, 0, none⟩) ss.length cap) ts.length (ts.map eI) := by
  rcases h.2 with ⟨h', _⟩ | ⟨g', cap', cur, e, hbase, hg, h1, h2, h3, h4⟩
  · cases h'
  · cases e
    exact ⟨by simp, .inr ⟨g, cap, _, by rw [hl], hbase, sorted_heap _ hg, by omega, h2, by simp [putCells, h3], by rw [Nat.mul_one]; exact taken_cells cur ts (by omega)⟩⟩
set_option maxHeartbeats 2000000 in
theorem sorted_go (m : Nat) (hsort : SortI m) (n g : Nat) (hn : 5 ≤ n) (lb : Array Value) (eg : ∀ args w, (callFunc g args).run Try.prog w = .ok (.enter g args) w) (S Sp : List Int → Prop) (N : Nat) (hN : N ≤ 1000) (w : World) (hseq : keySeq (n - 1 - 1 - 1) g lb S Sp N w)
    (hm : ∀ ss, S ss → ss.length ≤ m ∧ ∀ x ∈ ss, I64 x) :
    CallsIn Fence.wide n Try.prog 46 #[.func (.func g) #[] lb] w fun e W' => ∃ v ss ts, e = .returned v ∧ S ss ∧ List.Perm ts ss ∧ ts.Pairwise (· ≤ ·) ∧ W'.ownsRow w.heap.size 3 1 v ts.length (ts.map eI) ∧ Below w.heap.size w W' := by
  refine callsIn_of_wp Try.func46 rfl trivial ?_ rfl
  simp only [Try.ntmps46, List.size_toArray, List.length_cons, List.length_nil, Nat.reduceAdd, Nat.reduceSub, Array.replicate_succ, Array.replicate_zero, List.push_toArray, List.append_toArray, List.nil_append, List.cons_append]
  have h1 : 1 ≤ n := by omega
  have cC := collect_go (n - 1) g (by omega) lb eg S Sp N hN w hseq
  gi_wp2_with (refine ⟨trivial, ?_⟩; gi_at_call 53; refine cC.mono ?_; rintro e W ⟨v, ss, rfl, hS, hrow, hnil, hb⟩)
  obtain ⟨hlm, hwd⟩ := hm ss hS
  by_cases hss : ss = []
  · subst hss
    obtain rfl := hnil.2 rfl
    have cS := hsort.2 W
    gi_wp2_with (refine ⟨trivial, ?_⟩; gi_at_call 54; refine (callsIn_wide.2 cS).mono ?_; rintro e w' ⟨rfl, hb2⟩)
    go_ret
    exact ⟨_, [], [], rfl, hS, List.Perm.refl _, List.Pairwise.nil, owns_below hrow hb2, hb.trans (hb2.mono hb.size)⟩
  · have h0 : 0 < ss.length := List.length_pos_iff.2 hss
    obtain ⟨gb, cap, rfl, hcap, hbase, hglt⟩ := owns_some hrow h0
    have cS := hsort.1 gb cap ss W (holds_owned hrow hss) hglt hwd hlm
    gi_wp2_with (refine ⟨trivial, ?_⟩; gi_at_call 54; refine (callsIn_wide.2 cS).mono ?_; rintro e w' ⟨rfl, ts, k, os, hp, hpw, rfl⟩)
    go_ret
    exact ⟨_, ss, ts, rfl, hS, hp, hpw, sorted_owns hrow hp.length_eq, hb.grown (sorted_grown _) hb.size (fun j hj => by cases hj; exact hbase)⟩
end Go.Proofs.Ytjbpaapglamilaa.H

namespace Go.Proofs.Ytjbpaapglamilaa.H
open Go.ChangeShapes Go.WideShapes Go.Deep Go.RowKit W
set_option linter.unusedVariables false
set_option linter.unusedSimpArgs false
def cA (c : Cv) : Array Value := #[eU c.f, eU c.l, eU c.r]
def fC (c : Cv) : List Value := [eU c.f, eU c.l, eU c.r]
theorem cellsC : Cells fC 3 := ⟨fun _ => rfl, fun x u hu => by
  simp [fC] at hu
  rcases hu with rfl | rfl | rfl <;> rfl⟩
theorem rowCv : RowTy Try.prog 23 25 3 := ⟨Try.underlying23, by decide, by
  obtain ⟨i, h1, h2, h3, h4⟩ := info_parts (show (Try.prog.info? 25).map (fun i => (i.zero, i.size, i.bytes)) = some (some (.agg #[eU 0, eU 0, eU 0]), 3, 24) by kernel_rfl)
  exact ⟨i, _, 24, h1, h2, h3, h4, rfl, by decide⟩⟩
theorem size25 : (Try.prog.info? 25).map (·.size) = some 3 := by kernel_rfl
theorem size22 : (Try.prog.info? 22).map (·.size) = some 1 := by kernel_rfl
theorem size45 : (Try.prog.info? 23).map (·.size) = some 1 := by kernel_rfl
theorem zero25 : (Try.prog.info? 25).map (fun i => i.zero) = some (some (.agg (cA zC))) := by kernel_rfl
theorem zero45 : (Try.prog.info? 23).map (fun i => i.zero) = some (some (.slice none 0 0)) := by kernel_rfl
theorem cA_all (c : Cv) : (cA c).extract 0 (0 + 3) = cA c := by kernel_rfl
theorem cA_one (c : Cv) : (cA c).all (·.oneCell') = true := by kernel_rfl
theorem cA_list (c : Cv) : (cA c).toList = fC c := rfl
theorem spl_cc (c d : Cv) : spl (cA c) 0 (cA d).toList = cA d := by kernel_rfl
theorem bslC (c : Cv) : Try.prog.builtSlice 25 1 [(0, .agg (cA c))] = some (cA c) := by kernel_rfl
theorem built25 : Try.prog.built 25 [] = some (cA zC) := by kernel_rfl
/-- A row of curves that a call owns, as the sums take it. -/
theorem rows_cvs {w : World} {g n cap base : Nat} {L : List Cv} (h : w.ownsRow base 25 3 (.slice (some ⟨g, 0, none⟩) n cap) n (rowC fC L)) : CvRow w g 0 L := by
  refine ⟨(h.lt g rfl).2, fun i hi => ?_⟩
  have hx : L[i]? = some L[i] := List.getElem?_eq_getElem hi
  have c0 := own_elem cellsC h i L[i] hx 0 (by omega) (eU L[i].f) rfl
  have c1 := own_elem cellsC h i L[i] hx 1 (by omega) (eU L[i].l) rfl
  have c2 := own_elem cellsC h i L[i] hx 2 (by omega) (eU L[i].r) rfl
  rw [Nat.zero_add]
  exact ⟨c0, c1, c2⟩
theorem own_lenC {w : World} {n base : Nat} {v : Value} {L : List Cv} (h : w.ownsRow base 25 3 v n (rowC fC L)) : L.length = n := by
  have := h.1
  rw [rowC_len cellsC] at this
  omega
theorem own_cvs {w : World} {a : Option Addr} {n c base : Nat} {L : List Cv} (h : w.ownsRow base 25 3 (.slice a n c) n (rowC fC L)) : IsCvs w a n c L := by
  have hl := own_lenC h
  rcases own_form h with ⟨e, e0⟩ | ⟨g, cap, e, hc, _⟩
  · cases e
    exact ⟨by omega, by omega, .inl e0⟩
  · cases e
    exact ⟨hl, hc, .inr ⟨g, 0, rfl, rows_cvs h⟩⟩
theorem eq25 (p q : Cv) (W : World) : (Op.equalIn 10000 25 (.agg (cA p)) (.agg (cA q))).run Try.prog W = .ok (decide (p = q)) W := by
  obtain ⟨a0, a1, a2⟩ := p
  obtain ⟨b0, b1, b2⟩ := q
  unfold cA
  simp only [Cv.mk.injEq]
  simp [go_sem]
  refine ifs Iff.rfl (ifs Iff.rfl ?_)
  by_cases q : a2 = b2
  · rw [if_pos q, decide_eq_true q]
  · rw [if_neg q, decide_eq_false q]
theorem eqq25 (p q : Cv) (W : World) : (binOp .eql 25 (.agg (cA p)) (.agg (cA q))).run Try.prog W = .ok (.bool (decide (p = q))) W := by rw [run_eql_struct, eq25]; rfl
theorem ne25 (p q : Cv) (W : World) : (binOp .neq 25 (.agg (cA p)) (.agg (cA q))).run Try.prog W = .ok (.bool (!decide (p = q))) W := by rw [run_neq_struct, eq25]; rfl
theorem xl_eq25 {o : Oper} {a : Act} {w : World} {x y : Operand} {p q : Cv} {t : TypeId} (ho : o.op = .binOp .eql 25 x y t) (hx : a.eval x = .agg (cA p)) (hy : a.eval y = .agg (cA q)) : (execOp a.eval o).run Try.prog w = .ok (.value (.bool (decide (p = q)))) w := by
  unfold execOp
  simp only [ho, hx, hy, Sem.run_bind, run_eqGuard_agg w .eql 25 x y _ _ Try.eqGuardType25, Result.andThen_ok, eqq25, Sem.run_pure]
theorem xl_ne25 {o : Oper} {a : Act} {w : World} {x y : Operand} {p q : Cv} {t : TypeId} (ho : o.op = .binOp .neq 25 x y t) (hx : a.eval x = .agg (cA p)) (hy : a.eval y = .agg (cA q)) : (execOp a.eval o).run Try.prog w = .ok (.value (.bool (!decide (p = q)))) w := by
  unfold execOp
  simp only [ho, hx, hy, Sem.run_bind, run_eqGuard_agg w .neq 25 x y _ _ Try.eqGuardType25, Result.andThen_ok, ne25, Sem.run_pure]
/-! ### The book -/
def bA (R : Int) (bm : Nat) (v : Value) : Array Value := #[eU R, .map (some bm), v]
structure B0 (w : World) (χ : Nat → Nat) (c B bm : Nat) (v : Value) (b : Bk) : Prop where
  box : Box w B (bA b.R bm v) 40
  colB : χ B = c
  colM : χ bm = c
  map : MapV w bm (fun k => .agg (cA (getK b.L k))) (idsK b.L)
  row : w.ownsRow 0 25 3 v b.G.length (rowC fC b.G)
  colR : ∀ g, v.ownBlock = some g → χ g = c
section
variable {w w' : World} {χ χ' : Nat → Nat} {c d B bm n : Nat} {v : Value} {b : Bk}
theorem B0.off {Z : Nat → Prop} (h : B0 w χ c B bm v b) (ho : Off Z w w') (hn : ∀ k, χ k = c → ¬ Z k) (hc : ∀ k, k < w.heap.size → χ' k = χ k) : B0 w' χ' c B bm v b where
  box := ho.box h.box (hn B h.colB)
  colB := (hc B h.box.lt).trans h.colB
  colM := (hc bm h.map.lt).trans h.colM
  map := h.map.off ho (hn bm h.colM)
  row := ho.owns h.row (fun g e => hn g (h.colR g e))
  colR := fun g e => (hc g (h.row.lt g e).2).trans (h.colR g e)
theorem B0.below (h : B0 w χ c B bm v b) (hb : Below w.heap.size w w') : B0 w' χ c B bm v b :=
  h.off (Z := fun _ => False) (Off.of hb) (fun _ _ h => h) (fun _ _ => rfl)
theorem B0.other (h : B0 w χ c B bm v b) (k : Col χ χ' d w w') (hd : c ≠ d) : B0 w' χ' c B bm v b :=
  h.off (Z := fun b => χ b = d) ⟨k.os, k.tape, k.output, k.size, fun i hi hn => k.block i hi hn⟩ (fun b e g => hd (e.symm.trans g)) k.col
theorem B0.neM (h : B0 w χ c B bm v b) : B ≠ bm := fun e => h.map.unbox _ _ (e ▸ h.box)
theorem B0.rowB (h : B0 w χ c B bm v b) {g : Nat} (e : v.ownBlock = some g) : g ≠ B ∧ g ≠ bm := by
  rcases h.row.2 with ⟨rfl, _⟩ | ⟨g', cap, cur, rfl, _, hb, _⟩
  · cases e
  · have e' : g' = g := by simpa [Value.ownBlock] using e
    subst e'
    exact ⟨fun e2 => box_ne h.box (show Box w g' cur 25 from hb) (by decide) e2.symm, fun e2 => h.map.unbox cur 25 (by rw [← e2]; exact hb)⟩
theorem B0.one (h : B0 w χ c B bm v b) : v.oneCell' = true := by
  rcases own_form h.row with ⟨rfl, _⟩ | ⟨g, cap, rfl, _⟩ <;> rfl
/-- A book, of so many curves at most. -/
def Bo (w : World) (χ : Nat → Nat) (c B n : Nat) (b : Bk) : Prop := (∃ bm v, B0 w χ c B bm v b) ∧ b.Fit n
theorem Bo.below (h : Bo w χ c B n b) (hb : Below w.heap.size w w') : Bo w' χ c B n b := by
  obtain ⟨⟨bm, v, h0⟩, h1⟩ := h
  exact ⟨⟨bm, v, h0.below hb⟩, h1⟩
theorem Bo.other (h : Bo w χ c B n b) (k : Col χ χ' d w w') (hd : c ≠ d) : Bo w' χ' c B n b := by
  obtain ⟨⟨bm, v, h0⟩, h1⟩ := h
  exact ⟨⟨bm, v, h0.other k hd⟩, h1⟩
theorem Bo.mono {m : Nat} (h : Bo w χ c B n b) (hm : n ≤ m) : Bo w χ c B m b := ⟨h.1, h.2.mono hm⟩
theorem ptr_ne (q : Nat) (W : World) : (binOp .neq 26 (ptr q) (.pointer none)).run Try.prog W = .ok (.bool true) W := by kernel_rfl
theorem ptr_eq (q : Nat) (W : World) : (binOp .eql 26 (ptr q) (.pointer none)).run Try.prog W = .ok (.bool false) W := by kernel_rfl
theorem nil_eq (W : World) : (binOp .eql 26 (.pointer none) (.pointer none)).run Try.prog W = .ok (.bool true) W := by kernel_rfl
theorem nil_ne (W : World) : (binOp .neq 26 (.pointer none) (.pointer none)).run Try.prog W = .ok (.bool false) W := by kernel_rfl
theorem map_eq (q : Nat) (W : World) : (binOp .eql 38 (.map (some q)) (.map none)).run Try.prog W = .ok (.bool false) W := by kernel_rfl
theorem undef_ne (b : Bool) : ¬ undef = Value.bool b := fun h => by cases h
/-! ### What reads -/
theorem rate_box {R : Int} {x y : Value} (h : Box w B #[eU R, x, y] 40) : Calls Try.prog 16 #[ptr B] w fun e w' => e = .returned (eU R) ∧ w = w' := by
  have c0 := h.cell 0
  have hp := ptr_eq B
  go_enter Try.func16, Try.ntmps16
  go_wp2
  go_ret
  exact ⟨rfl, rfl⟩
theorem rate_nil (w : World) : Calls Try.prog 16 #[.pointer none] w fun e w' => e = .returned (eU 0) ∧ w = w' := by
  have hp := nil_eq
  go_enter Try.func16, Try.ntmps16
  go_wp2
  go_ret
  exact ⟨rfl, rfl⟩
theorem made_of {p : Value} {R : Int} (h : Calls Try.prog 16 #[p] w fun e w' => e = .returned (eU R) ∧ w = w') : Calls Try.prog 32 #[p] w fun e w' => e = .returned (.bool (!decide (R = 0))) ∧ w = w' := by
  have hu := undef_ne
  go_enter Try.func32, Try.ntmps32
  go_wp2_with (first | (go_at_call 16; (with_reducible refine h.mono ?_); rintro e w1 ⟨rfl, rfl⟩))
  go_ret
  refine ⟨?_, rfl⟩
  by_cases e : R = 0 <;> simp [e]
theorem made_yes (h : B0 w χ c B bm v b) (hF : b.Fit n) : Calls Try.prog 32 #[ptr B] w fun e w' => e = .returned (.bool true) ∧ w = w' := by
  have e : (!decide (b.R = 0)) = true := by have := hF.rate; simp; omega
  rw [← e]
  exact made_of (rate_box h.box)
theorem made_nil (w : World) : Calls Try.prog 32 #[.pointer none] w fun e w' => e = .returned (.bool false) ∧ w = w' := made_of (rate_nil w)
theorem made_zero {x y : Value} (h : Box w B #[eU 0, x, y] 40) : Calls Try.prog 32 #[ptr B] w fun e w' => e = .returned (.bool false) ∧ w = w' := made_of (rate_box h)
theorem wrong_of {p : Value} {m : Bool} {k : Cv} (hk : k.word) (h : ∀ W, Below w.heap.size w W → Calls Try.prog 32 #[p] W fun e w' => e = .returned (.bool m) ∧ W = w') :
    Calls Try.prog 29 #[p, .agg (cA k)] w fun e w' => e = .returned (eI (if m then (if mB k then 0 else 30) else 1)) ∧ Below w.heap.size w w' := by
  have hM := fun W => may_any k.f k.l k.r W hk.1 hk.2.1 hk.2.2
  have hMy : ∀ W, Calls Try.prog 24 #[.agg (cA k)] W fun e w' => e = .returned (.bool (mB k)) ∧ Below W.heap.size W w' := hM
  clear hM
  cases m with
  | false =>
    go_enter Try.func29, Try.ntmps29
    go_wp2_with (first
      | (refine wl_box 25 rfl rfl rfl ?_; intro w1 X1 T1; have h1 := h w1 T1)
      | (go_at_call 32; (with_reducible refine h1.mono ?_); rintro e w2 ⟨rfl, rfl⟩))
    go_ret
    exact ⟨rfl, T1⟩
  | true =>
    cases hb : mB k with
    | true =>
      rw [hb] at hMy
      go_enter Try.func29, Try.ntmps29
      go_wp2_with (first
        | (refine wl_box 25 rfl rfl rfl ?_; intro w1 X1 T1; have h1 := h w1 T1)
        | (go_at_call 32; (with_reducible refine h1.mono ?_); rintro e w2 ⟨rfl, rfl⟩)
        | (refine wl_run (xl_load 25 X1 rfl rfl Try.underlying25 rfl size25 (by omega : 0 + 3 ≤ 3) (cA_all _)) rfl ?_)
        | (go_at_call 24; (with_reducible refine (hMy _).mono ?_); rintro e w3 ⟨rfl, T3⟩))
      go_ret
      exact ⟨rfl, ups T1 T3 T1.size⟩
    | false =>
      rw [hb] at hMy
      go_enter Try.func29, Try.ntmps29
      go_wp2_with (first
        | (refine wl_box 25 rfl rfl rfl ?_; intro w1 X1 T1; have h1 := h w1 T1)
        | (go_at_call 32; (with_reducible refine h1.mono ?_); rintro e w2 ⟨rfl, rfl⟩)
        | (refine wl_run (xl_load 25 X1 rfl rfl Try.underlying25 rfl size25 (by omega : 0 + 3 ≤ 3) (cA_all _)) rfl ?_)
        | (go_at_call 24; (with_reducible refine (hMy _).mono ?_); rintro e w3 ⟨rfl, T3⟩))
      go_ret
      exact ⟨rfl, ups T1 T3 T1.size⟩
theorem wrong_any (h : B0 w χ c B bm v b) (hF : b.Fit n) {k : Cv} (hk : k.word) : Calls Try.prog 29 #[ptr B, .agg (cA k)] w fun e w' => e = .returned (eI (if mB k then 0 else 30)) ∧ Below w.heap.size w w' :=
  wrong_of (m := true) hk (fun W hW => made_yes (h.below hW) hF)
end
end Go.Proofs.Ytjbpaapglamilaa.H

namespace Go.Proofs.Ytjbpaapglamilaa.H
open Go.ChangeShapes Go.WideShapes Go.Deep Go.RowKit W
set_option linter.unusedVariables false
set_option linter.unusedSimpArgs false
open Go.Sort Go.Shelf in
theorem sortI {m : Nat} (hm : m < 4611686018427387904) : SortI m := by
  refine ⟨fun blk cap ss W hH hb hw hl => (Try.slices_Sort_int blk 0 cap ss W hH hb (by omega)).mono ?_, fun W => (Try.slices_Sort_int_none none 0 W).mono ?_⟩
  · rintro e w' ⟨rfl, n, os, rfl⟩
    refine ⟨rfl, _, n, os, List.mergeSort_perm _ _, ?_, rfl⟩
    have h := List.pairwise_mergeSort (le := fun x y : Int => decide (x ≤ y)) (fun a b c h1 h2 => by simp at *; omega) (fun a b => by simp; omega) ss
    exact h.imp (fun h => by simpa using h)
  · rintro e w' ⟨rfl, rfl⟩
    exact ⟨rfl, Below.refl _ _⟩
theorem lt_ext : ∀ {a b : List Int}, a.Pairwise (· < ·) → b.Pairwise (· < ·) → (∀ x, x ∈ a ↔ x ∈ b) → a = b
  | [], [], _, _, _ => rfl
  | [], y :: b, _, _, h => by have := (h y).2 (by simp); cases this
  | x :: a, [], _, _, h => by have := (h x).1 (by simp); cases this
  | x :: a, y :: b, ha, hb, h => by
    obtain ⟨a1, a2⟩ := List.pairwise_cons.1 ha
    obtain ⟨b1, b2⟩ := List.pairwise_cons.1 hb
    have exy : x = y := by
      rcases List.mem_cons.1 ((h x).1 (by simp)) with e | e
      · exact e
      · rcases List.mem_cons.1 ((h y).2 (by simp)) with e2 | e2
        · exact e2.symm
        · have := b1 x e; have := a1 y e2; omega
    subst exy
    congr 1
    refine lt_ext a2 b2 (fun z => ⟨fun hz => ?_, fun hz => ?_⟩)
    · rcases List.mem_cons.1 ((h z).1 (by simp [hz])) with e | e
      · have := a1 z hz; omega
      · exact e
    · rcases List.mem_cons.1 ((h z).2 (by simp [hz])) with e | e
      · have := b1 z hz; omega
      · exact e
theorem srt_strict {ts ss : List Int} (hp : List.Perm ts ss) (hs : ss.Nodup) (h : ts.Pairwise (· ≤ ·)) : ts.Pairwise (· < ·) := by
  have hn : ts.Nodup := hp.nodup_iff.2 hs
  exact List.Pairwise.imp₂ (fun a b h1 h2 => by omega) h hn
section
variable {w w' : World} {χ χ' : Nat → Nat} {c d B bm n : Nat} {v : Value} {b : Bk}
open Go.Maps in
set_option maxHeartbeats 2000000 in
theorem rising_any (h : MapV w bm (fun k => .agg (cA (getK b.L k))) (idsK b.L)) (hF : b.Fit n) (hn : n ≤ 900) :
    Calls Try.prog 35 #[.map (some bm)] w fun e w' => ∃ v, e = .returned v ∧ w'.ownsRow w.heap.size 3 1 v b.L.length ((idsK b.L).map eI) ∧ Below w.heap.size w w' := by
  have hlt := h.lt
  obtain ⟨D, hD, hsz, hnd, hhas, _⟩ := h
  have hfew := hF.few
  have hll := lv_len b.L
  have cK := keys_any (some bm) w
  have bX := Box.new w 38 #[.map (some bm)]
  have hD2 := hD.kept (w' := w.alloc (.cells #[.map (some bm)] 38)) (row := none) ⟨rfl, rfl, rfl, by simp, fun k hk _ => Below.heap_alloc _ _ k hk⟩ (by simp)
  have hseq := keys_go (7 - 1 - 1 - 1) (by omega) w.heap.size bm _ D hE _ bX.lt (by have := hD2.lt; omega) (bX.cell 0) hD2
  have cS := sorted_go 1000 (sortI (by omega)) 7 55 (by omega) _ (enters_of Try.func55 (by kernel_rfl) rfl) _ _ _ (show Maps.size D ≤ 1000 by omega) _ hseq (fun ss hss => ⟨by
    have := nodup_le (m := idsK b.L) hss.1 (fun x hx => (hhas x).1 ((hss.2 x).1 hx))
    omega, fun x hx => by
    have := (hhas x).1 ((hss.2 x).1 hx)
    exact hF.ids _ (mem_getK this)⟩)
  refine (callsIn_wide (n := 8)).1 ?_
  refine callsIn_of_wp Try.func35 rfl trivial ?_ rfl
  simp only [Try.ntmps35, List.size_toArray, List.length_cons, List.length_nil, Nat.reduceAdd, Nat.reduceSub, Array.replicate_succ, Array.replicate_zero, List.push_toArray, List.append_toArray, List.nil_append, List.cons_append]
  gi_wp2_with (first
    | (refine ⟨trivial, ?_⟩; gi_at_call 47; refine (callsIn_wide.2 cK).mono ?_; rintro e w2 ⟨rfl, rfl⟩)
    | (refine ⟨trivial, ?_⟩; gi_at_call 46; refine cS.mono ?_; rintro e w2 ⟨v, ss, ts, rfl, hss, hp, hpw, hrow, hb2⟩))
  go_ret
  have e : ts = idsK b.L := lt_ext (srt_strict hp hss.1 hpw) hF.srt (fun x => (hp.mem_iff).trans ((hss.2 x).trans (hhas x)))
  subst e
  rw [hll] at hrow
  have hz := (up1 w (.cells #[.map (some bm)] 38)).size
  exact ⟨v, rfl, own_mono hrow hz, ups (up1 w _) hb2 hz⟩
theorem ids_any (h : Bo w χ c B n b) (hn : n ≤ 900) : Calls Try.prog 17 #[ptr B] w fun e w' => ∃ v, e = .returned v ∧ w'.ownsRow w.heap.size 3 1 v b.L.length ((idsK b.L).map eI) ∧ Below w.heap.size w w' := by
  obtain ⟨⟨bm, v, h0⟩, hF⟩ := h
  have hM := made_yes h0 hF
  have hR := rising_any h0.map hF hn
  have c1 : w.cell? ⟨B, 1, none⟩ = some (.map (some bm)) := (h0.box.cell 1).trans rfl
  clear h0
  go_enter Try.func17, Try.ntmps17
  go_wp2_with (first
    | (go_at_call 32; (with_reducible refine hM.mono ?_); rintro e w1 ⟨rfl, rfl⟩)
    | (go_at_call 35; (with_reducible refine hR.mono ?_); rintro e w2 ⟨u, rfl, O, T⟩))
  go_ret
  exact ⟨_, rfl, O, T⟩
set_option maxHeartbeats 4000000 in
set_option maxRecDepth 100000 in
theorem clone_any {base k : Nat} {L : List Cv} (h : w.ownsRow base 25 3 v k (rowC fC L)) (hk : k ≤ 1000) :
    Calls Try.prog 36 #[v] w fun e w' => ∃ v', e = .returned v' ∧ w'.ownsRow w.heap.size 25 3 v' k (rowC fC L) ∧ Below w.heap.size w w' := by
  have hl := own_lenC h
  rcases own_form h with ⟨rfl, rfl⟩ | ⟨g, cap, rfl, hc, hb, hlt⟩
  · have hE := fun W => Lib.run_eql_slice_nil (P := Try.prog) W 23 25 none 0 0 0 0 Try.underlying23
    simp only [Option.isNone_none] at hE
    go_enter Try.func36, Try.ntmps36
    go_wp2
    go_ret
    obtain rfl : L = [] := List.eq_nil_of_length_eq_zero hl
    exact ⟨_, rfl, World.ownsRow_nil _ _ _ _, Below.refl _ _⟩
  · have hE := fun W => Lib.run_eql_slice_nil (P := Try.prog) W 23 25 (some ⟨g, 0, none⟩) k cap 0 0 Try.underlying23
    simp only [Option.isNone_some] at hE
    go_enter Try.func36, Try.ntmps36
    go_wp2_with (first
      | (refine wl_sl0 23 25 rfl rfl Try.underlying23 size25 ?_; intro w1 X1 T1; have O1 := own_below h T1; have E1 := own_empty (f := fC) (s := 3) X1 (Nat.le_refl w.heap.size))
      | (refine wpList_more rowCv cellsC rfl _ _ rfl w.heap.size (.slice (some ⟨w.heap.size, 0, none⟩) 0 0) [] L 0 k rfl hl rfl E1 ⟨g, 0, none⟩ cap rfl (O1.cells rfl) (by omega) T1.size ?_; intro v2 w2 O2 G2 N2 _; rw [List.nil_append, Nat.zero_add] at O2))
    go_ret
    exact ⟨_, rfl, O2, T1.grown G2 T1.size (fun q e => by cases e; exact Nat.le_refl _)⟩
theorem ghosts_any (h : Bo w χ c B n b) (hn : n ≤ 900) : Calls Try.prog 18 #[ptr B] w fun e w' => ∃ v, e = .returned v ∧ w'.ownsRow w.heap.size 25 3 v b.G.length (rowC fC b.G) ∧ Below w.heap.size w w' := by
  obtain ⟨⟨bm, v, h0⟩, hF⟩ := h
  have hM := made_yes h0 hF
  have hC := clone_any h0.row (by have := hF.few; omega)
  have c2 : w.cell? ⟨B, 2, none⟩ = some v := (h0.box.cell 2).trans rfl
  clear h0
  go_enter Try.func18, Try.ntmps18
  go_wp2_with (first
    | (go_at_call 32; (with_reducible refine hM.mono ?_); rintro e w1 ⟨rfl, rfl⟩)
    | (go_at_call 36; (with_reducible refine hC.mono ?_); rintro e w2 ⟨u, rfl, O, T⟩))
  go_ret
  exact ⟨_, rfl, O, T⟩
theorem live_any (h : Bo w χ c B n b) {k : Int} (hk : I64 k) : Calls Try.prog 12 #[ptr B, eI k] w fun e w' => e = .returned (.tuple #[.agg (cA (b.get k)), .bool (b.has k)]) ∧ Below w.heap.size w w' := by
  obtain ⟨⟨bm, v, h0⟩, hF⟩ := h
  have e0 : decide (k ∈ idsK b.L) = b.has k := by
    unfold Bk.has
    rw [Bool.eq_iff_iff, decide_eq_true_iff, hasK_iff]
  go_enter Try.func12, Try.ntmps12
  go_wp2_with (first
    | (refine wl_alloc 25 rfl rfl zero25 ?_; intro w1 X1 T1; have h1 := h0.below T1; have hM := made_yes h1 hF; have c1 : w1.cell? ⟨B, 1, none⟩ = some (.map (some bm)) := (h1.box.cell 1).trans rfl; have hl := h1.map.look_ok hk; rw [e0] at hl)
    | (go_at_call 32; (with_reducible refine hM.mono ?_); rintro e w2 ⟨rfl, rfl⟩)
    | (refine wl_alloc 25 rfl rfl zero25 ?_; intro w3 X3 T3; have Z3 := X1.below T3; have S3 := ups T1 T3 T1.size)
    | (refine wl_store 25 X3 rfl rfl rfl rfl size25 rfl (by omega : 0 + 3 ≤ 3) (cA_one _) (spl_cc _ _) ?_; intro w4 X4 K4; have S4 := K4.up S3 T1.size; have Z4 := K4.box Z3 (Nat.ne_of_lt X1.lt))
    | (refine wl_run (xl_load 25 X4 rfl rfl Try.underlying25 rfl size25 (by omega : 0 + 3 ≤ 3) (cA_all _)) rfl ?_)
    | (refine wl_store 25 Z4 rfl rfl rfl rfl size25 rfl (by omega : 0 + 3 ≤ 3) (cA_one _) (spl_cc _ _) ?_; intro w5 X5 K5; have S5 := K5.up S4 (Nat.le_refl _)))
  refine bodyPost_ret (v := .tuple #[.agg (cA (b.get k)), .bool (b.has k)]) ?_ rfl ⟨rfl, S5⟩
  exact results_cell_two rfl _ _ _ _ _ _ _ rfl rfl X5 Try.underlying25 rfl size25
theorem settle_any (h : Bo w χ c B n b) : Calls Try.prog 15 #[ptr B] w fun e w' => e = .returned (eI (b.G.length : Int)) ∧ ∃ χ', Bo w' χ' c B n b.settle ∧ Col χ χ' c w w' := by
  obtain ⟨⟨bm, v, h0⟩, hF⟩ := h
  have hM := made_yes h0 hF
  obtain ⟨a, cap, rfl, hc, _⟩ := own_len h0.row
  have c2 : w.cell? ⟨B, 2, none⟩ = some (.slice a b.G.length cap) := (h0.box.cell 2).trans rfl
  go_enter Try.func15, Try.ntmps15
  go_wp2_with (first
    | (go_at_call 32; (with_reducible refine hM.mono ?_); rintro e w1 ⟨rfl, rfl⟩)
    | (refine wl_put 23 h0.box rfl rfl rfl rfl rfl rfl size45 (by decide : 2 < 3) (rfl : _ = bA b.R bm (.slice none 0 0)) ?_; intro w2 X2 K2))
  go_ret
  have hne := h0.neM
  refine ⟨rfl, recol χ w.heap.size c, ⟨⟨bm, .slice none 0 0, ⟨X2, (recol_lt h0.box.lt).trans h0.colB, (recol_lt h0.map.lt).trans h0.colM, ?_, World.ownsRow_nil _ _ _ _, fun g e => by cases e⟩⟩, Bk.settle_fit hF⟩, Col.off (S := fun k => k = B) (Off.but (Off.refl _) K2 (.inr rfl)) (fun k hk => by rw [hk]; exact h0.colB)⟩
  exact h0.map.off (S := fun k => k = B) (Off.but (Off.refl _) K2 (.inr rfl)) (Ne.symm hne)
theorem new_any {R : Int} (hR : Word R) (χ : Nat → Nat) (c : Nat) : Calls Try.prog 6 #[eU R] w fun e w' => if 1 ≤ R ∧ R ≤ 1048576 then (∃ C, e = .returned (.tuple #[ptr C, eI 0]) ∧ Bo w' (recol χ w.heap.size c) c C 0 ⟨R, [], []⟩ ∧ Below w.heap.size w w') else (e = .returned (.tuple #[.pointer none, eI 240]) ∧ w = w') := by
  by_cases h : 1 ≤ R ∧ R ≤ 1048576
  · simp only [if_pos h]
    have h1 : ¬ R < 1 := by omega
    have h2 : ¬ 1048576 < R := by omega
    have hb : ∀ m : Nat, Try.prog.built 40 [(0, eU R), (1, .map (some m))] = some (bA R m (.slice none 0 0)) := fun m => by kernel_rfl
    go_enter Try.func6, Try.ntmps6
    have hmm := @run_makeMap Try.prog
    have hM := MapV.made w
    have T0 := up1 w (.map #[] 0)
    go_wp2_with (first
      | (refine wl_box 40 rfl rfl rfl ?_; intro w3 X3 T3; have M3 := hM.below T3))
    go_ret2
    have hS : (w.alloc (.map #[] 0)).heap.size = w.heap.size + 1 := by simp
    rw [hS] at X3
    exact ⟨_, rfl, ⟨⟨w.heap.size, .slice none 0 0, ⟨X3, recol_ge (by omega), recol_ge (Nat.le_refl _), M3, World.ownsRow_nil _ _ _ _, fun g e => by cases e⟩⟩, Bk.Fit.new h⟩, ups T0 T3 T0.size⟩
  · simp only [if_neg h]
    by_cases h1 : R < 1
    · go_enter Try.func6, Try.ntmps6
      go_wp2
      go_ret2
      exact ⟨rfl, rfl⟩
    · have h2 : 1048576 < R := by omega
      go_enter Try.func6, Try.ntmps6
      go_wp2
      go_ret2
      exact ⟨rfl, rfl⟩
end
end Go.Proofs.Ytjbpaapglamilaa.H

namespace Go.Proofs.Ytjbpaapglamilaa.H
open Go.ChangeShapes Go.WideShapes Go.Deep Go.RowKit W Go.Maps
set_option linter.unusedVariables false
set_option linter.unusedSimpArgs false
def wantL (L : Lv) (wn : Int → Bool) : List Cv := (L.filter (fun p => wn p.1)).map (·.2)
theorem want_ids {L : Lv} (hs : Srt L) (wn : Int → Bool) : ((idsK L).filter wn).map (getK L) = wantL L wn := by
  unfold wantL idsK
  rw [List.filter_map, List.map_map]
  refine List.map_congr_left (fun p hp => ?_)
  exact getK_mem hs (List.mem_filter.1 hp).1
theorem iter_not {w : World} {r n b cnt : Nat} {D : DataW Value} {left : Lit → Bool} (hr : w.ranges Try.prog 3 hE b r n D left cnt) : (∀ (vs : Array Value) (t : TypeId), ¬ Box w r vs t) ∧ ∀ es ck, w.heap[r]? ≠ some (.map es ck) := by
  obtain ⟨es, clock, since, seen, c0, hb, _, _, _, hi, _⟩ := hr
  refine ⟨fun vs t hB => ?_, fun es ck e => ?_⟩
  · rw [show w.heap[r]? = some (.cells vs t (0, 0)) from hB] at hi; cases hi
  · rw [e] at hi; cases hi
section
variable {w w' : World} {χ χ' : Nat → Nat} {c d B bm n : Nat} {v : Value} {b : Bk}
def gotL (L : Lv) (wn : Int → Bool) (ss : List Int) : List Cv := (ss.filter wn).map (getK L)
theorem got_snoc (L : Lv) (wn : Int → Bool) (ss : List Int) (x : Int) : gotL L wn (ss ++ [x]) = gotL L wn ss ++ (if wn x = true then [getK L x] else []) := by
  unfold gotL
  rw [List.filter_append, List.map_append]
  congr 1
  cases h : wn x <;> simp [h]
theorem got_len (L : Lv) (wn : Int → Bool) (ss : List Int) : (gotL L wn ss).length ≤ ss.length := by
  unfold gotL
  rw [List.length_map]
  exact List.length_filter_le _ _
theorem got_all {L : Lv} (hs : Srt L) (wn : Int → Bool) {ss : List Int} (hn : ss.Nodup) (hm : ∀ x, x ∈ ss ↔ x ∈ idsK L) : (gotL L wn ss).Perm (wantL L wn) := by
  rw [← want_ids hs wn]
  unfold gotL
  exact (((List.perm_ext_iff_of_nodup hn (srt_nodup hs)).2 hm).filter wn).map _
set_option maxHeartbeats 4000000 in
set_option maxRecDepth 100000 in
theorem of52 (wn : Int → Bool) (hW : ∀ k W, Below w.heap.size w W → Calls Try.prog 30 #[eI k] W fun e w' => e = .returned (.bool (wn k)) ∧ Below W.heap.size W w') (h : MapV w bm (fun k => .agg (cA (getK b.L k))) (idsK b.L)) (hF : b.Fit n) (hn : n ≤ 900) :
    Calls Try.prog 43 #[.map (some bm), .func (.func 30) #[] #[]] w fun e w' => ∃ v ys, e = .returned v ∧ ys.Perm (wantL b.L wn) ∧ w'.ownsRow w.heap.size 25 3 v ys.length (rowC fC ys) ∧ Below w.heap.size w w' := by
  have hlt := h.lt
  obtain ⟨D, hD, hsz, hnd, hhas, hat⟩ := h
  have hfew := hF.few
  have hll := Lib.hid (lv_len b.L)
  have hN : ∀ W : World, W.ownsRow w.heap.size 25 3 (.slice none 0 0) 0 (rowC fC ([] : List Cv)) := fun W => World.ownsRow_nil _ _ _ _
  go_enter Try.func43, Try.ntmps43
  go_wp2_with (first
    | (at_range; refine wpList_range_own _ rfl _ 38 rfl 3 25 (int_keyed Try.underlying3) Try.underlying38 hE bm _ D rfl hD ?_; intro w1 hrg G1 Z1))
  have T1 : Below w.heap.size w w1 := ⟨G1.os, G1.tape, G1.output, G1.size, fun k hk => G1.block k hk (by simp)⟩
  have hs2 := Lib.hid hhas
  have hs3 := Lib.hid hat
  have hwn := Lib.hid hW
  have hsrt := Lib.hid hF.srt
  clear hhas hat hW hF G1 Z1 hD hnd
  go_loopg [5, 6] (Maps.size D) (fun gk s5 s6 wr => ∃ left ss, wr.ranges Try.prog 3 hE bm w.heap.size (idsK b.L).length D left gk ∧ Kol D left ss ∧ wr.ownsRow w.heap.size 25 3 s5 (gotL b.L wn ss).length (rowC fC (gotL b.L wn ss)) ∧ Below w.heap.size w wr)
  case atStart => exact ⟨_, [], hrg, Kol.start D, hN _, T1⟩
  case round =>
    clear hrg T1
    obtain ⟨left, ss, hrg, hK, hO, hT⟩ := hrel
    go_wp2_with (first
      | (at_next; refine wpList_next_ranges _ rfl _ rfl 3 (int_keyed Try.underlying3) hE eI id (fun key kl hk => by obtain ⟨x, hx, _⟩ := Maps.keyOf_int_inv Try.underlying3 hk; exact ⟨x, hx⟩) (fun v _ _ => ⟨v, rfl⟩) bm w.heap.size _ _ _ _ rfl hrg ?_ ?_))
    · intro hc0 hl0
      go_wp2
      go_ret
      exact ⟨_, _, rfl, got_all hsrt.out wn hK.1 (fun x => by rw [hK.2 x, hl0]; simp; exact hs2.out x), hO, hT⟩
    · intro x u kl ya yb w4 cnt4 hkey hlk hv hat4 hrg4 hlt4 hg4 hsz4 hen
      obtain ⟨x', ex, rfl, hwx⟩ := Maps.keyOf_int_inv Try.underlying3 hkey
      obtain rfl : x = x' := by simpa using ex
      have hK4 := hK.step hlk hat4
      have hxk : x ∈ idsK b.L := (hs2.out x).1 (Maps.has_true_of_atKey hat4)
      obtain rfl : u = .agg (cA (getK b.L x)) := by
        have e := hs3.out x
        rw [hat4] at e
        have e2 : (DataW.held u, ([] : List MemPlace)) = (ya, yb) := by unfold hE at hv; exact Option.some.inj hv
        injection e2 with e2 _
        rw [← e2] at e
        injection e
      have hss : (ss ++ [x]).length ≤ 900 := by
        have := nodup_le (m := idsK b.L) hK4.1 (fun y hy => (hs2.out y).1 ((hK4.2 y).1 hy).1)
        have := hll.out
        omega
      have hgl := got_len b.L wn ss
      have hne : ∀ g, u5.ownBlock = some g → g ≠ w.heap.size ∧ g ≠ bm := fun g e => by
        have h1 := (hO.lt g e).1
        refine ⟨?_, by omega⟩
        rintro rfl
        rcases hO.2 with ⟨e3, _⟩ | ⟨g', cap, cur, e3, _, hb, _⟩
        · rw [e3] at e; cases e
        · rw [e3] at e
          cases e
          exact (iter_not hrg).1 cur 25 hb
      have O4 : w4.ownsRow w.heap.size 25 3 u5 (gotL b.L wn ss).length (rowC fC (gotL b.L wn ss)) := hO.grown' hg4 (fun q e e2 => by cases e2; exact (hne _ e).1 rfl)
      have S4 : Below w.heap.size w w4 := hT.grown hg4 hT.size (fun g e => by cases e; exact Nat.le_refl _)
      have hsn := Lib.hid (got_snoc b.L wn ss x)
      have hnh := Lib.hid hne
      have hKh := Lib.hid hK4
      have hWx := fun W hW => hwn.out x W hW
      clear hsz4 hne hK4 hK hrg hO hg4 hat4 hlk hwx hxk hs3 hs2
      simp only [List.length_append, List.length_cons, List.length_nil] at hss
      cases hb : wn x with
      | false =>
        rw [hb] at hWx
        go_wp2_with (first
          | (refine wl_alloc 25 rfl rfl zero25 ?_; intro w5 X5 T5; have O5 := own_below O4 T5; have S5 := ups S4 T5 S4.size)
          | (refine wl_store 25 X5 rfl rfl rfl rfl size25 rfl (by omega : 0 + 3 ≤ 3) (cA_one _) (spl_cc _ _) ?_; intro w6 X6 K6; have S6 := K6.up S5 S4.size; have O6 := own_but O5 K6 (own_lt_ne O4 (Nat.le_refl _)); have E6 := Off.but (S := fun j => u5.ownBlock = some j) (Off.of T5) K6 (.inl (Nat.le_refl _)); have hc := hWx w6 S6)
          | (go_at_call 30; (with_reducible refine hc.mono ?_); rintro e w7 ⟨rfl, T7⟩))
        have E7 := E6.up T7
        have hrg7 := hrg4.kept (row := u5.ownBlock) ⟨E7.os, E7.tape, E7.output, E7.size, fun k hk hn => E7.block k hk (fun e => hn e.symm)⟩ (fun e => (hnh.out _ e.symm).2 rfl) (fun e => (hnh.out _ e.symm).1 rfl)
        go_roundg cnt4
        case measure => exact hlt4
        case rel =>
          have e0 : gotL b.L wn (ss ++ [x]) = gotL b.L wn ss := by rw [hsn.out, hb]; simp
          exact ⟨_, ss ++ [x], hrg7, hKh.out, by rw [e0]; exact own_below O6 T7, ups S6 T7 S6.size⟩
      | true =>
        rw [hb] at hWx
        go_wp2_with (first
          | (refine wl_alloc 25 rfl rfl zero25 ?_; intro w5 X5 T5; have O5 := own_below O4 T5; have S5 := ups S4 T5 S4.size)
          | (refine wl_store 25 X5 rfl rfl rfl rfl size25 rfl (by omega : 0 + 3 ≤ 3) (cA_one _) (spl_cc _ _) ?_; intro w6 X6 K6; have S6 := K6.up S5 S4.size; have O6 := own_but O5 K6 (own_lt_ne O4 (Nat.le_refl _)); have E6 := Off.but (S := fun j => u5.ownBlock = some j) (Off.of T5) K6 (.inl (Nat.le_refl _)); have hc := hWx w6 S6)
          | (go_at_call 30; (with_reducible refine hc.mono ?_); rintro e w7 ⟨rfl, T7⟩; have E7 := E6.up T7; have O7 := own_below O6 T7; have X7 := X6.below T7; have S7 := ups S6 T7 S6.size)
          | (refine wl_run (xl_load 25 X7 rfl rfl Try.underlying25 rfl size25 (by omega : 0 + 3 ≤ 3) (cA_all _)) rfl ?_)
          | (refine wl_sl 23 25 rfl rfl rfl Try.underlying23 (bslC _) ?_; intro w8 X8 T8; have O8 := own_below O7 T8; have S8 := ups S7 T8 S7.size; have E8 := E7.up T8; have F8 := flat_new (f := fC) (x := getK b.L x) X8 rfl)
          | (refine wpList_more rowCv cellsC rfl _ _ rfl w.heap.size u5 (gotL b.L wn ss) [getK b.L x] (gotL b.L wn ss).length 1 rfl rfl rfl O8 _ 1 rfl F8 (by omega) S8.size ?_; intro v9 w9 O9 G9 N9 _; have S9 := S8.grown G9 S8.size (fun g e => (O8.lt g e).1); have E9 := E8.grow G9 (fun g e => .inr e)))
        have hrg7 := hrg4.kept (row := u5.ownBlock) ⟨E9.os, E9.tape, E9.output, E9.size, fun k hk hn => E9.block k hk (fun e => hn e.symm)⟩ (fun e => (hnh.out _ e.symm).2 rfl) (fun e => (hnh.out _ e.symm).1 rfl)
        go_roundg cnt4
        case measure => exact hlt4
        case rel =>
          have e0 : gotL b.L wn (ss ++ [x]) = gotL b.L wn ss ++ [getK b.L x] := by rw [hsn.out, hb]; simp
          exact ⟨_, ss ++ [x], hrg7, hKh.out, by rw [e0, List.length_append]; exact O9, S9⟩
set_option maxHeartbeats 4000000 in
set_option maxRecDepth 100000 in
theorem of32 (wn : Int → Bool) {q1 q2 : Nat} (hW : ∀ k W, Below w.heap.size w W → Calls Try.prog 33 #[eI k, ptr q1, ptr q2] W fun e w' => e = .returned (.bool (wn k)) ∧ Below W.heap.size W w') (h : MapV w bm (fun k => .agg (cA (getK b.L k))) (idsK b.L)) (hF : b.Fit n) (hn : n ≤ 900) :
    Calls Try.prog 43 #[.map (some bm), .func (.func 33) #[] #[ptr q1, ptr q2]] w fun e w' => ∃ v ys, e = .returned v ∧ ys.Perm (wantL b.L wn) ∧ w'.ownsRow w.heap.size 25 3 v ys.length (rowC fC ys) ∧ Below w.heap.size w w' := by
  have hlt := h.lt
  obtain ⟨D, hD, hsz, hnd, hhas, hat⟩ := h
  have hfew := hF.few
  have hll := Lib.hid (lv_len b.L)
  have hN : ∀ W : World, W.ownsRow w.heap.size 25 3 (.slice none 0 0) 0 (rowC fC ([] : List Cv)) := fun W => World.ownsRow_nil _ _ _ _
  go_enter Try.func43, Try.ntmps43
  go_wp2_with (first
    | (at_range; refine wpList_range_own _ rfl _ 38 rfl 3 25 (int_keyed Try.underlying3) Try.underlying38 hE bm _ D rfl hD ?_; intro w1 hrg G1 Z1))
  have T1 : Below w.heap.size w w1 := ⟨G1.os, G1.tape, G1.output, G1.size, fun k hk => G1.block k hk (by simp)⟩
  have hs2 := Lib.hid hhas
  have hs3 := Lib.hid hat
  have hwn := Lib.hid hW
  have hsrt := Lib.hid hF.srt
  clear hhas hat hW hF G1 Z1 hD hnd
  go_loopg [5, 6] (Maps.size D) (fun gk s5 s6 wr => ∃ left ss, wr.ranges Try.prog 3 hE bm w.heap.size (idsK b.L).length D left gk ∧ Kol D left ss ∧ wr.ownsRow w.heap.size 25 3 s5 (gotL b.L wn ss).length (rowC fC (gotL b.L wn ss)) ∧ Below w.heap.size w wr)
  case atStart => exact ⟨_, [], hrg, Kol.start D, hN _, T1⟩
  case round =>
    clear hrg T1
    obtain ⟨left, ss, hrg, hK, hO, hT⟩ := hrel
    go_wp2_with (first
      | (at_next; refine wpList_next_ranges _ rfl _ rfl 3 (int_keyed Try.underlying3) hE eI id (fun key kl hk => by obtain ⟨x, hx, _⟩ := Maps.keyOf_int_inv Try.underlying3 hk; exact ⟨x, hx⟩) (fun v _ _ => ⟨v, rfl⟩) bm w.heap.size _ _ _ _ rfl hrg ?_ ?_))
    · intro hc0 hl0
      go_wp2
      go_ret
      exact ⟨_, _, rfl, got_all hsrt.out wn hK.1 (fun x => by rw [hK.2 x, hl0]; simp; exact hs2.out x), hO, hT⟩
    · intro x u kl ya yb w4 cnt4 hkey hlk hv hat4 hrg4 hlt4 hg4 hsz4 hen
      obtain ⟨x', ex, rfl, hwx⟩ := Maps.keyOf_int_inv Try.underlying3 hkey
      obtain rfl : x = x' := by simpa using ex
      have hK4 := hK.step hlk hat4
      have hxk : x ∈ idsK b.L := (hs2.out x).1 (Maps.has_true_of_atKey hat4)
      obtain rfl : u = .agg (cA (getK b.L x)) := by
        have e := hs3.out x
        rw [hat4] at e
        have e2 : (DataW.held u, ([] : List MemPlace)) = (ya, yb) := by unfold hE at hv; exact Option.some.inj hv
        injection e2 with e2 _
        rw [← e2] at e
        injection e
      have hss : (ss ++ [x]).length ≤ 900 := by
        have := nodup_le (m := idsK b.L) hK4.1 (fun y hy => (hs2.out y).1 ((hK4.2 y).1 hy).1)
        have := hll.out
        omega
      have hgl := got_len b.L wn ss
      have hne : ∀ g, u5.ownBlock = some g → g ≠ w.heap.size ∧ g ≠ bm := fun g e => by
        have h1 := (hO.lt g e).1
        refine ⟨?_, by omega⟩
        rintro rfl
        rcases hO.2 with ⟨e3, _⟩ | ⟨g', cap, cur, e3, _, hb, _⟩
        · rw [e3] at e; cases e
        · rw [e3] at e
          cases e
          exact (iter_not hrg).1 cur 25 hb
      have O4 : w4.ownsRow w.heap.size 25 3 u5 (gotL b.L wn ss).length (rowC fC (gotL b.L wn ss)) := hO.grown' hg4 (fun q e e2 => by cases e2; exact (hne _ e).1 rfl)
      have S4 : Below w.heap.size w w4 := hT.grown hg4 hT.size (fun g e => by cases e; exact Nat.le_refl _)
      have hsn := Lib.hid (got_snoc b.L wn ss x)
      have hnh := Lib.hid hne
      have hKh := Lib.hid hK4
      have hWx := fun W hW => hwn.out x W hW
      clear hsz4 hne hK4 hK hrg hO hg4 hat4 hlk hwx hxk hs3 hs2
      simp only [List.length_append, List.length_cons, List.length_nil] at hss
      cases hb : wn x with
      | false =>
        rw [hb] at hWx
        go_wp2_with (first
          | (refine wl_alloc 25 rfl rfl zero25 ?_; intro w5 X5 T5; have O5 := own_below O4 T5; have S5 := ups S4 T5 S4.size)
          | (refine wl_store 25 X5 rfl rfl rfl rfl size25 rfl (by omega : 0 + 3 ≤ 3) (cA_one _) (spl_cc _ _) ?_; intro w6 X6 K6; have S6 := K6.up S5 S4.size; have O6 := own_but O5 K6 (own_lt_ne O4 (Nat.le_refl _)); have E6 := Off.but (S := fun j => u5.ownBlock = some j) (Off.of T5) K6 (.inl (Nat.le_refl _)); have hc := hWx w6 S6)
          | (go_at_call 33; (with_reducible refine hc.mono ?_); rintro e w7 ⟨rfl, T7⟩))
        have E7 := E6.up T7
        have hrg7 := hrg4.kept (row := u5.ownBlock) ⟨E7.os, E7.tape, E7.output, E7.size, fun k hk hn => E7.block k hk (fun e => hn e.symm)⟩ (fun e => (hnh.out _ e.symm).2 rfl) (fun e => (hnh.out _ e.symm).1 rfl)
        go_roundg cnt4
        case measure => exact hlt4
        case rel =>
          have e0 : gotL b.L wn (ss ++ [x]) = gotL b.L wn ss := by rw [hsn.out, hb]; simp
          exact ⟨_, ss ++ [x], hrg7, hKh.out, by rw [e0]; exact own_below O6 T7, ups S6 T7 S6.size⟩
      | true =>
        rw [hb] at hWx
        go_wp2_with (first
          | (refine wl_alloc 25 rfl rfl zero25 ?_; intro w5 X5 T5; have O5 := own_below O4 T5; have S5 := ups S4 T5 S4.size)
          | (refine wl_store 25 X5 rfl rfl rfl rfl size25 rfl (by omega : 0 + 3 ≤ 3) (cA_one _) (spl_cc _ _) ?_; intro w6 X6 K6; have S6 := K6.up S5 S4.size; have O6 := own_but O5 K6 (own_lt_ne O4 (Nat.le_refl _)); have E6 := Off.but (S := fun j => u5.ownBlock = some j) (Off.of T5) K6 (.inl (Nat.le_refl _)); have hc := hWx w6 S6)
          | (go_at_call 33; (with_reducible refine hc.mono ?_); rintro e w7 ⟨rfl, T7⟩; have E7 := E6.up T7; have O7 := own_below O6 T7; have X7 := X6.below T7; have S7 := ups S6 T7 S6.size)
          | (refine wl_run (xl_load 25 X7 rfl rfl Try.underlying25 rfl size25 (by omega : 0 + 3 ≤ 3) (cA_all _)) rfl ?_)
          | (refine wl_sl 23 25 rfl rfl rfl Try.underlying23 (bslC _) ?_; intro w8 X8 T8; have O8 := own_below O7 T8; have S8 := ups S7 T8 S7.size; have E8 := E7.up T8; have F8 := flat_new (f := fC) (x := getK b.L x) X8 rfl)
          | (refine wpList_more rowCv cellsC rfl _ _ rfl w.heap.size u5 (gotL b.L wn ss) [getK b.L x] (gotL b.L wn ss).length 1 rfl rfl rfl O8 _ 1 rfl F8 (by omega) S8.size ?_; intro v9 w9 O9 G9 N9 _; have S9 := S8.grown G9 S8.size (fun g e => (O8.lt g e).1); have E9 := E8.grow G9 (fun g e => .inr e)))
        have hrg7 := hrg4.kept (row := u5.ownBlock) ⟨E9.os, E9.tape, E9.output, E9.size, fun k hk hn => E9.block k hk (fun e => hn e.symm)⟩ (fun e => (hnh.out _ e.symm).2 rfl) (fun e => (hnh.out _ e.symm).1 rfl)
        go_roundg cnt4
        case measure => exact hlt4
        case rel =>
          have e0 : gotL b.L wn (ss ++ [x]) = gotL b.L wn ss ++ [getK b.L x] := by rw [hsn.out, hb]; simp
          exact ⟨_, ss ++ [x], hrg7, hKh.out, by rw [e0, List.length_append]; exact O9, S9⟩
end
end Go.Proofs.Ytjbpaapglamilaa.H
