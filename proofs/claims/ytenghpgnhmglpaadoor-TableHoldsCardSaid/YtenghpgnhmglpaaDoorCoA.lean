/- Blocks of memory and what a call leaves of them; objects told apart by colours of their blocks; rows of elements of whatever struct, and appends onto them. Nothing here hangs on a program. No condition. -/
import Derived.Test.YtenghpgnhmglpaaDoorChecked
import Derived.WalkKit
import Derived.ProofKit
import Derived.Below
import Derived.Outline
import Derived.Lib.Hide
import Derived.Laws.Externs
import Derived.RowKit3
import Derived.BigQuiet
import Derived.Deep.QuietTactic
import Derived.WalkSmall
import Derived.OwnWalk
import Derived.RegionTactic
import Derived.Deep.Slices
import Derived.Deep.Fields
import Derived.ChangeSame
import Derived.OpenShut
import Derived.Deep.AppendLies
import Derived.Laws.CopyOwn
import Derived.IntWalk
import Derived.OneCell
import Derived.Deep.DeepCutAuto
import Derived.Deep.CutBlock
import Derived.Deep.CutRange
import Derived.Deep.RegionHeld3
import Derived.Deep.RegionLaw
import Derived.StillTailTactics
namespace Go.Proofs.YtenghpgnhmglpaaDoor
open Go.ChangeShapes Go.WideShapes Go.Deep Go.RowKit
set_option linter.unusedVariables false
abbrev eU (n : Int) : Value := .int .u64 n
abbrev eI (n : Int) : Value := .int .i64 n
theorem add_plain (b o j : Nat) : (⟨b, o, none⟩ : Addr).add j = ⟨b, o + j, none⟩ := by unfold Addr.add; split <;> simp_all
theorem pk_u64 {x : Int} (h : (Lit.int .u64 x).wf = true) : 0 ≤ x ∧ x < 18446744073709551616 := by
  simp [Lit.wf, IntKind.min, IntKind.max, IntKind.bits, IntKind.signed] at h
  omega
theorem pk_i64 {x : Int} (h : (Lit.int .i64 x).wf = true) : -9223372036854775808 ≤ x ∧ x < 9223372036854775808 := by
  simp [Lit.wf, IntKind.min, IntKind.max, IntKind.bits, IntKind.signed] at h
  omega
theorem pk_u8 {x : Int} (h : (Lit.int .u8 x).wf = true) : 0 ≤ x ∧ x < 256 := by
  simp [Lit.wf, IntKind.min, IntKind.max, IntKind.bits, IntKind.signed] at h
  omega
/-! ### Blocks -/
/-- Block B is a block of those values. -/
def Box (W : World) (B : Nat) (vs : Array Value) (t : TypeId) : Prop := W.heap[B]? = some (.cells vs t (0, 0))
theorem Box.lt {W : World} {B : Nat} {t : TypeId} {v : Array Value} (h : Box W B v t) : B < W.heap.size := (Array.getElem?_eq_some_iff.1 h).1
theorem Box.new (W : World) (t : TypeId) (v : Array Value) : Box (W.alloc (.cells v t)) W.heap.size v t := heap_alloc_new W _
theorem Box.alloc {W : World} {B : Nat} {t : TypeId} {v : Array Value} (h : Box W B v t) (o : Obj) : Box (W.alloc o) B v t := (Below.heap_alloc W o B h.lt).trans h
theorem Box.below {W w : World} {B : Nat} {t : TypeId} {v : Array Value} (h : Box W B v t) (hb : Below W.heap.size W w) : Box w B v t := (hb.block B h.lt).trans h
theorem Box.setNe {W : World} {B : Nat} {t : TypeId} {vs : Array Value} (h : Box W B vs t) {a : Addr} (hne : B ≠ a.block) (v : Value) : Box (W.setCell a v) B vs t := (Below.heap_setCell W a v B hne).trans h
theorem Box.drew {W : World} {B : Nat} {t : TypeId} {v : Array Value} (h : Box W B v t) : Box W.drew B v t := h
theorem up1 (w : World) (o1 : Obj) : Below w.heap.size w (w.alloc o1) := (Below.refl _ _).alloc (Nat.le_refl _) _
theorem up2 (w : World) (o1 o2 : Obj) : Below w.heap.size w ((w.alloc o1).alloc o2) := (up1 w o1).alloc (by simp) _
theorem ups {B : Nat} {W w w' : World} (h : Below B W w) (k : Below w.heap.size w w') (hB : B ≤ w.heap.size) : Below B W w' := h.trans (k.mono hB)
theorem undrew {w w' : World} (h : Below w.drew.heap.size w.drew w') : Below w.heap.size w w' := ((Below.refl _ w).drew).trans h
theorem undrewN {w w' : World} {n : Nat} (h : Below (w.drewN n).heap.size (w.drewN n) w') : Below w.heap.size w w' := (below_drewN (Below.refl _ w) n).trans h
/-- All blocks that lie, but B, lie as they lay. -/
structure But (B : Nat) (w w' : World) : Prop where
  os : w'.os = w.os
  tape : w'.tape = w.tape
  output : w'.output = w.output
  size : w.heap.size ≤ w'.heap.size
  block : ∀ k, k < w.heap.size → k ≠ B → w'.heap[k]? = w.heap[k]?
theorem But.of {B : Nat} {w w' : World} (h : Below w.heap.size w w') : But B w w' := ⟨h.os, h.tape, h.output, h.size, fun k hk _ => h.block k hk⟩
theorem But.refl (B : Nat) (w : World) : But B w w := But.of (Below.refl _ _)
theorem But.trans {B : Nat} {a b c : World} (h : But B a b) (k : But B b c) : But B a c :=
  ⟨k.os.trans h.os, k.tape.trans h.tape, k.output.trans h.output, Nat.le_trans h.size k.size, fun i hi hn => (k.block i (Nat.lt_of_lt_of_le hi h.size) hn).trans (h.block i hi hn)⟩
theorem But.set {B : Nat} {w w' : World} (h : But B w w') (i : Nat) (v : Value) : But B w (w'.setCell ⟨B, i, none⟩ v) :=
  ⟨h.os, h.tape, h.output, by simpa [World.setCell] using h.size, fun k hk hn => (Below.heap_setCell _ _ _ k hn).trans (h.block k hk hn)⟩
theorem But.below {B n : Nat} {w w' : World} (h : But B w w') (hB : n ≤ B) (hn : n ≤ w.heap.size) : Below n w w' :=
  ⟨h.os, h.tape, h.output, h.size, fun k hk => h.block k (Nat.lt_of_lt_of_le hk hn) (Nat.ne_of_lt (Nat.lt_of_lt_of_le hk hB))⟩
theorem But.box {B B' : Nat} {w w' : World} {vs : Array Value} {t : TypeId} (h : But B w w') (b : Box w B' vs t) (hne : B' ≠ B) : Box w' B' vs t :=
  (h.block B' b.lt hne).trans b
/-- Below the base of W everything stays, if B lies at it or behind it. -/
theorem But.up {B : Nat} {W w w' : World} (h : But B w w') (T : Below W.heap.size W w) (hB : W.heap.size ≤ B) : Below W.heap.size W w' :=
  T.trans (h.below hB T.size)
theorem But.cell {B : Nat} {w w' : World} {p : Addr} (h : But B w w') (hp : p.block < w.heap.size) (hne : p.block ≠ B) : w'.cell? p = w.cell? p := World.cell?_of_block (h.block _ hp hne)
theorem Box.set {W : World} {B : Nat} {vs : Array Value} {t : TypeId} (h : Box W B vs t) (i : Nat) (v : Value) : Box (W.setCell ⟨B, i, none⟩ v) B (vs.setIfInBounds i v) t := by
  have e : W.heap[B]? = some (.cells vs t (0, 0)) := h
  show (W.setCell ⟨B, i, none⟩ v).heap[B]? = _
  simp [World.setCell, Array.getElem?_modify, e]
theorem Box.cell {W : World} {B : Nat} {vs : Array Value} {t : TypeId} (h : Box W B vs t) (i : Nat) : W.cell? ⟨B, i, none⟩ = vs[i]? := by
  have e : W.heap[B]? = some (.cells vs t (0, 0)) := h
  simp [World.cell?, e]
theorem Box.thaw {W : World} {B : Nat} {vs : Array Value} {t : TypeId} (h : Box W B vs t) (i : Nat) : W.frozen? ⟨B, i, none⟩ = false := by
  have e : W.heap[B]? = some (.cells vs t (0, 0)) := h
  simp [World.frozen?, e]
theorem i64_id {x : Int} (h : -9223372036854775808 ≤ x ∧ x < 9223372036854775808) : IntKind.i64.wrap x = x := by
  simp [IntKind.wrap, IntKind.bits, IntKind.signed]; omega
theorem box_ne {W : World} {B B' : Nat} {vs vs' : Array Value} {t t' : TypeId} (h : Box W B vs t) (h' : Box W B' vs' t') (ht : t ≠ t') : B ≠ B' := fun e => by
  subst e
  have h1 : W.heap[B]? = some (.cells vs t (0, 0)) := h
  rw [show W.heap[B]? = some (.cells vs' t' (0, 0)) from h'] at h1
  injection h1 with h3
  injection h3 with _ h4 _
  exact ht h4.symm
/-- All blocks that lie, but those of a set, lie as they lay. -/
structure Off (S : Nat → Prop) (w w' : World) : Prop where
  os : w'.os = w.os
  tape : w'.tape = w.tape
  output : w'.output = w.output
  size : w.heap.size ≤ w'.heap.size
  block : ∀ k, k < w.heap.size → ¬ S k → w'.heap[k]? = w.heap[k]?
theorem Off.of {S : Nat → Prop} {w w' : World} (h : Below w.heap.size w w') : Off S w w' := ⟨h.os, h.tape, h.output, h.size, fun k hk _ => h.block k hk⟩
theorem Off.mono {S T : Nat → Prop} {w w' : World} (h : Off S w w') (hS : ∀ k, k < w.heap.size → S k → T k) : Off T w w' :=
  ⟨h.os, h.tape, h.output, h.size, fun k hk hT => h.block k hk (fun hs => hT (hS k hk hs))⟩
theorem Off.trans {S T : Nat → Prop} {a b c : World} (h : Off S a b) (k : Off T b c) (hT : ∀ i, i < a.heap.size → T i → S i) : Off S a c :=
  ⟨k.os.trans h.os, k.tape.trans h.tape, k.output.trans h.output, Nat.le_trans h.size k.size, fun i hi hS => (k.block i (Nat.lt_of_lt_of_le hi h.size) (fun ht => hS (hT i hi ht))).trans (h.block i hi hS)⟩
theorem Off.below {S : Nat → Prop} {n : Nat} {w w' : World} (h : Off S w w') (hS : ∀ k, k < w.heap.size → S k → n ≤ k) (hn : n ≤ w.heap.size) : Below n w w' :=
  ⟨h.os, h.tape, h.output, h.size, fun k hk => h.block k (by omega) (fun hs => by have := hS k (by omega) hs; omega)⟩
theorem Off.box {S : Nat → Prop} {w w' : World} {B : Nat} {vs : Array Value} {t : TypeId} (h : Off S w w') (b : Box w B vs t) (hn : ¬ S B) : Box w' B vs t := (h.block B b.lt hn).trans b
theorem Off.set {S : Nat → Prop} {w w' : World} (h : Off S w w') {B : Nat} (hB : S B) (i : Nat) (v : Value) : Off S w (w'.setCell ⟨B, i, none⟩ v) :=
  ⟨h.os, h.tape, h.output, by simpa [World.setCell] using h.size, fun k hk hn => (Below.heap_setCell _ _ _ k (fun e => hn (by rw [show k = B from e]; exact hB))).trans (h.block k hk hn)⟩
theorem Off.owns {S : Nat → Prop} {w w' : World} {base n : Nat} {e : TypeId} {size : Nat} {v : Value} {xs : List Value} (h : Off S w w') (o : w.ownsRow base e size v n xs) (hn : ∀ g, v.ownBlock = some g → ¬ S g) : w'.ownsRow base e size v n xs := by
  obtain ⟨h1, h2⟩ := o
  refine ⟨h1, h2.imp id ?_⟩
  rintro ⟨g, cap, cur, rfl, a2, a3, a4⟩
  exact ⟨g, cap, cur, rfl, a2, (h.block g (Array.getElem?_eq_some_iff.1 a3).1 (hn g rfl)).trans a3, a4⟩
theorem own_below {w w' : World} {base : Nat} {e : TypeId} {size : Nat} {v : Value} {n : Nat} {xs : List Value} (h : w.ownsRow base e size v n xs) (hb : Below w.heap.size w w') : w'.ownsRow base e size v n xs :=
  h.kept (row := none) ⟨hb.os, hb.tape, hb.output, hb.size, fun k hk _ => hb.block k hk⟩ (by cases hv : v.ownBlock <;> simp)
theorem own_mono {w : World} {base base' size n : Nat} {e : TypeId} {v : Value} {xs : List Value} (h : w.ownsRow base e size v n xs) (hb : base' ≤ base) : w.ownsRow base' e size v n xs := by
  obtain ⟨h1, h2⟩ := h
  refine ⟨h1, h2.imp id ?_⟩
  rintro ⟨g, cap, cur, a1, a2, a3⟩
  exact ⟨g, cap, cur, a1, Nat.le_trans hb a2, a3⟩
theorem own_some {w : World} {base : Nat} {e : TypeId} {size : Nat} {v : Value} {n : Nat} {xs : List Value} (h : w.ownsRow base e size v n xs) (hn : 0 < n) :
    ∃ g cap cur, v = .slice (some ⟨g, 0, none⟩) n cap ∧ base ≤ g ∧ g < w.heap.size ∧ n ≤ cap ∧ cap ≤ maxLen ∧ Box w g cur e ∧ ∀ j u, xs[j]? = some u → w.cell? ((⟨g, 0, none⟩ : Addr).add j) = some u := by
  have hc := fun g (e : v.ownBlock = some g) => h.cells e
  have hl := h.lt
  rcases h.2 with ⟨_, h0⟩ | ⟨g, cap, cur, rfl, hb, hB, hk, hm, _, _⟩
  · omega
  · exact ⟨g, cap, cur, rfl, hb, (hl g rfl).2, hk, hm, hB, hc g rfl⟩
theorem own_len {w : World} {base : Nat} {e : TypeId} {size : Nat} {v : Value} {n : Nat} {xs : List Value} (h : w.ownsRow base e size v n xs) : ∃ a cap, v = .slice a n cap ∧ n ≤ cap ∧ cap ≤ maxLen := by
  rcases h.2 with ⟨rfl, rfl⟩ | ⟨g, cap, cur, rfl, _, _, hk, hm, _, _⟩
  · exact ⟨none, 0, rfl, Nat.le_refl _, by decide⟩
  · exact ⟨_, cap, rfl, hk, hm⟩

theorem own_not {w : World} {base n : Nat} {e : TypeId} {size : Nat} {v : Value} {xs : List Value} {B : Nat} {vs : Array Value} {t : TypeId} (h : w.ownsRow base e size v n xs) (b : Box w B vs t) (ht : t ≠ e) : v.ownBlock ≠ some B := by
  rcases h.2 with ⟨rfl, _⟩ | ⟨g, cap, cur, rfl, _, hg, _⟩
  · simp [Value.ownBlock]
  · intro k
    have e' : g = B := by simpa [Value.ownBlock] using k
    exact box_ne (show Box w g cur e from hg) b (fun h => ht h.symm) e'
theorem Box.grown {W w : World} {B : Nat} {vs : Array Value} {t : TypeId} {row : Option Nat} (h : Box W B vs t) (g : W.grownBy w row) (hr : some B ≠ row) : Box w B vs t := (g.block B h.lt hr).trans h
theorem Off.drew {S : Nat → Prop} {W w : World} (h : Off S w W) : Off S w W.drew := ⟨h.os, h.tape, h.output, h.size, h.block⟩
theorem Off.setHi {S : Nat → Prop} {w w' : World} (h : Off S w w') {B : Nat} (hB : w.heap.size ≤ B) (i : Nat) (v : Value) : Off S w (w'.setCell ⟨B, i, none⟩ v) :=
  ⟨h.os, h.tape, h.output, by simpa [World.setCell] using h.size, fun k hk hn => (Below.heap_setCell _ _ _ k (by show k ≠ B; omega)).trans (h.block k hk hn)⟩
theorem Off.grown {S : Nat → Prop} {w W W' : World} {row : Option Nat} (h : Off S w W) (hg : W.grownBy W' row) (hr : ∀ k, row = some k → S k ∨ w.heap.size ≤ k) : Off S w W' :=
  ⟨hg.os.trans h.os, hg.tape.trans h.tape, hg.output.trans h.output, Nat.le_trans h.size hg.size, fun k hk hn => (hg.block k (Nat.lt_of_lt_of_le hk h.size) (fun e => by
    rcases hr k e.symm with h1 | h1
    · exact hn h1
    · omega)).trans (h.block k hk hn)⟩
theorem Off.alloc {S : Nat → Prop} {w W : World} (h : Off S w W) (o : Obj) : Off S w (W.alloc o) :=
  ⟨h.os, h.tape, h.output, Nat.le_trans h.size (by simp), fun k hk hn => (Below.heap_alloc W o k (Nat.lt_of_lt_of_le hk h.size)).trans (h.block k hk hn)⟩
/-- An object's own blocks: its box, and its row's. -/
def Own2 (B : Nat) (v : Value) (k : Nat) : Prop := k = B ∨ v.ownBlock = some k
/-- Blocks that lie keep their colours; those of another colour than c lie as they lay. -/
structure Col (χ χ' : Nat → Nat) (c : Nat) (w w' : World) : Prop where
  os : w'.os = w.os
  tape : w'.tape = w.tape
  output : w'.output = w.output
  size : w.heap.size ≤ w'.heap.size
  col : ∀ k, k < w.heap.size → χ' k = χ k
  block : ∀ k, k < w.heap.size → χ k ≠ c → w'.heap[k]? = w.heap[k]?
/-- What is new gets a colour. -/
def recol (χ : Nat → Nat) (n c : Nat) : Nat → Nat := fun k => if k < n then χ k else c
theorem recol_lt {χ : Nat → Nat} {n c k : Nat} (h : k < n) : recol χ n c k = χ k := by unfold recol; rw [if_pos h]
theorem recol_ge {χ : Nat → Nat} {n c k : Nat} (h : n ≤ k) : recol χ n c k = c := by unfold recol; rw [if_neg (by omega)]
section
variable {w0 w w' w'' : World} {χ χ' χ'' : Nat → Nat} {c d : Nat}
theorem Col.of (h : Below w.heap.size w w') : Col χ χ c w w' := ⟨h.os, h.tape, h.output, h.size, fun _ _ => rfl, fun k hk _ => h.block k hk⟩
theorem Col.new (h : Below w.heap.size w w') (d : Nat) : Col χ (recol χ w.heap.size d) c w w' := ⟨h.os, h.tape, h.output, h.size, fun _ hk => recol_lt hk, fun k hk _ => h.block k hk⟩
theorem Col.off {S : Nat → Prop} (h : Off S w w') (hS : ∀ k, S k → χ k = c) : Col χ (recol χ w.heap.size c) c w w' :=
  ⟨h.os, h.tape, h.output, h.size, fun _ hk => recol_lt hk, fun k hk hn => h.block k hk (fun hs => hn (hS k hs))⟩
theorem Col.trans (h : Col χ χ' c w w') (k : Col χ' χ'' c w' w'') : Col χ χ'' c w w'' :=
  ⟨k.os.trans h.os, k.tape.trans h.tape, k.output.trans h.output, Nat.le_trans h.size k.size, fun i hi => (k.col i (Nat.lt_of_lt_of_le hi h.size)).trans (h.col i hi),
   fun i hi hn => (k.block i (Nat.lt_of_lt_of_le hi h.size) (by rw [h.col i hi]; exact hn)).trans (h.block i hi hn)⟩
/-- What lay ahead of the call has the colour 0, and lies as it lay. -/
structure Fr (w0 : World) (χ : Nat → Nat) (w : World) : Prop where
  zero : ∀ k, k < w0.heap.size → χ k = 0
  world : Below w0.heap.size w0 w
theorem Fr.start (w0 : World) : Fr w0 (fun _ => 0) w0 := ⟨fun _ _ => rfl, Below.refl _ _⟩
theorem Fr.next (h : Fr w0 χ w) (k : Col χ χ' c w w') (hc : c ≠ 0) : Fr w0 χ' w' :=
  ⟨fun i hi => (k.col i (Nat.lt_of_lt_of_le hi h.world.size)).trans (h.zero i hi), h.world.trans ⟨k.os, k.tape, k.output, k.size, fun i hi => k.block i (Nat.lt_of_lt_of_le hi h.world.size) (by rw [h.zero i hi]; exact fun e => hc e.symm)⟩⟩
theorem Fr.below (h : Fr w0 χ w) (k : Below w.heap.size w w') : Fr w0 χ w' := ⟨h.zero, ups h.world k h.world.size⟩
/-- A block of colour c. -/
def Bx (w : World) (χ : Nat → Nat) (c N : Nat) (vs : Array Value) (t : TypeId) : Prop := Box w N vs t ∧ χ N = c
theorem Bx.other {N : Nat} {vs : Array Value} {t : TypeId} (h : Bx w χ c N vs t) (k : Col χ χ' d w w') (hd : c ≠ d) : Bx w' χ' c N vs t :=
  ⟨(k.block N h.1.lt (by rw [h.2]; exact hd)).trans h.1, (k.col N h.1.lt).trans h.2⟩
theorem Bx.below {N : Nat} {vs : Array Value} {t : TypeId} (h : Bx w χ c N vs t) (k : Below w.heap.size w w') : Bx w' χ c N vs t := ⟨h.1.below k, h.2⟩
end
/-! ### Rows of elements -/
/-- The cells of a row, element by element. -/
def rowC {α : Type} (f : α → List Value) : List α → List Value
  | [] => []
  | x :: L => f x ++ rowC f L
/-- So many cells an element, each a plain one. -/
structure Cells {α : Type} (f : α → List Value) (s : Nat) : Prop where
  len : ∀ x, (f x).length = s
  one : ∀ x, ∀ u ∈ f x, u.oneCell' = true
section
variable {α : Type} {f : α → List Value} {s : Nat}
theorem rowC_append : ∀ (a b : List α), rowC f (a ++ b) = rowC f a ++ rowC f b
  | [], b => rfl
  | x :: a, b => by rw [List.cons_append, rowC, rowC, rowC_append a b, List.append_assoc]
theorem rowC_one (x : α) : rowC f [x] = f x := by simp [rowC]
theorem rowC_len (h : Cells f s) : ∀ (L : List α), (rowC f L).length = L.length * s
  | [] => by simp [rowC]
  | x :: L => by rw [rowC, List.length_append, h.len, rowC_len h L, List.length_cons, Nat.add_mul]; omega
theorem rowC_at (h : Cells f s) : ∀ (L : List α) (i : Nat) (x : α), L[i]? = some x → ∀ j, j < s → (rowC f L)[i * s + j]? = (f x)[j]?
  | [], i, x, hx, j, hj => by simp at hx
  | y :: L, 0, x, hx, j, hj => by
    simp only [List.getElem?_cons_zero, Option.some.injEq] at hx
    subst hx
    rw [rowC, Nat.zero_mul, Nat.zero_add, List.getElem?_append_left (by rw [h.len]; exact hj)]
  | y :: L, i + 1, x, hx, j, hj => by
    rw [List.getElem?_cons_succ] at hx
    rw [rowC, List.getElem?_append_right (by rw [h.len, Nat.add_mul]; omega), h.len, show (i + 1) * s + j - s = i * s + j by rw [Nat.add_mul]; omega]
    exact rowC_at h L i x hx j hj
theorem rowC_take (h : Cells f s) : ∀ (L : List α) (k : Nat), (rowC f L).take (k * s) = rowC f (L.take k)
  | _, 0 => by simp [rowC]
  | [], k + 1 => by simp [rowC]
  | x :: L, k + 1 => by
    rw [List.take_succ_cons, rowC, rowC, ← rowC_take h L k, List.take_append, h.len, List.take_of_length_le (by rw [h.len, Nat.add_mul]; omega)]
    congr 2; rw [Nat.add_mul]; omega
theorem rowC_drop (h : Cells f s) : ∀ (L : List α) (k : Nat), (rowC f L).drop (k * s) = rowC f (L.drop k)
  | _, 0 => by simp
  | [], k + 1 => by simp [rowC]
  | x :: L, k + 1 => by
    rw [List.drop_succ_cons, rowC, ← rowC_drop h L k, List.drop_append, h.len, List.drop_eq_nil_of_le (by rw [h.len, Nat.add_mul]; omega), List.nil_append]
    congr 1; rw [Nat.add_mul]; omega
theorem rowC_cells (h : Cells f s) : ∀ (L : List α), ∀ u ∈ rowC f L, u.oneCell' = true
  | [], u, hu => by cases hu
  | x :: L, u, hu => by
    rw [rowC] at hu
    rcases List.mem_append.1 hu with hu | hu
    · exact h.one x u hu
    · exact rowC_cells h L u hu
theorem rowC_set (h : Cells f s) : ∀ (L : List α) (i : Nat) (x y : α) (j : Nat) (u : Value), L[i]? = some x → j < s → f y = (f x).set j u → (rowC f L).set (i * s + j) u = rowC f (L.set i y)
  | [], i, x, y, j, u, hx, hj, hy => by simp at hx
  | z :: L, 0, x, y, j, u, hx, hj, hy => by
    simp only [List.getElem?_cons_zero, Option.some.injEq] at hx
    subst hx
    rw [List.set_cons_zero, rowC, rowC, hy, Nat.zero_mul, Nat.zero_add, List.set_append_left _ _ (by rw [h.len]; exact hj)]
  | z :: L, i + 1, x, y, j, u, hx, hj, hy => by
    rw [List.getElem?_cons_succ] at hx
    rw [List.set_cons_succ, rowC, rowC, ← rowC_set h L i x y j u hx hj hy, List.set_append_right _ _ (by rw [h.len, Nat.add_mul]; omega), h.len]
    congr 2; rw [Nat.add_mul]; omega
/-- A slice type of the program's, and its elements: so many cells, so many bytes. -/
structure RowTy (P : Program) (sl el : TypeId) (s : Nat) : Prop where
  und : P.underlying sl = some (.slice el)
  pos : 0 < s
  info : ∃ i z b, P.info? el = some i ∧ i.zero = some z ∧ i.size = s ∧ i.bytes = b ∧ z.cells.size = s ∧ b ≤ 1024
variable {P : Program} {sl el : TypeId}
/-- An element's cells, of a row that the call owns. -/
theorem own_elem {w : World} {base g n cap : Nat} {L : List α} (hf : Cells f s) (h : w.ownsRow base el s (.slice (some ⟨g, 0, none⟩) n cap) n (rowC f L)) (i : Nat) (x : α) (hx : L[i]? = some x) (j : Nat) (hj : j < s) (u : Value) (hu : (f x)[j]? = some u) : w.cell? ⟨g, i * s + j, none⟩ = some u := by
  have e := h.cells (g := g) rfl (i * s + j) u (by rw [rowC_at hf L i x hx j hj]; exact hu)
  rw [add_plain, Nat.zero_add] at e
  exact e
theorem own_form {w : World} {base n : Nat} {v : Value} {xs : List Value} (h : w.ownsRow base el s v n xs) : (v = .slice none 0 0 ∧ n = 0) ∨ ∃ g cap, v = .slice (some ⟨g, 0, none⟩) n cap ∧ n ≤ cap ∧ base ≤ g ∧ g < w.heap.size := by
  rcases h.2 with h | ⟨g, cap, cur, e, h1, h2, h3, _⟩
  · exact .inl h
  · exact .inr ⟨g, cap, e, h3, h1, (Array.getElem?_eq_some_iff.1 h2).1⟩
/-- What append makes of a row that the call owns, and elements that lie somewhere. -/
theorem run_more (T : RowTy P sl el s) (hf : Cells f s) (w : World) (ty : TypeId) (m : Nat) (v : Value) (X Y : List α) (n k : Nat) (hn : X.length = n) (hk : Y.length = k) (hown : w.ownsRow m el s v n (rowC f X)) (ad : Addr) (c : Nat) (hflat : ∀ j u, (rowC f Y)[j]? = some u → w.cell? (ad.add j) = some u) (hl : n + k ≤ 1000000) (hm : m ≤ w.heap.size) :
    ∃ v' w', (Builtin.append_ #[sl, sl] ty #[v, .slice (some ad) k c]).run P w = .ok v' w' ∧ w'.ownsRow m el s v' (n + k) (rowC f (X ++ Y)) ∧ w.grownBy w' v.ownBlock ∧ (∀ g, v'.ownBlock = some g → v.ownBlock = some g ∨ g = w.heap.size) ∧ (v ≠ .slice none 0 0 → v' ≠ .slice none 0 0) := by
  obtain ⟨i, z, b, h1, h2, h3, h4, h5, h6⟩ := T.info
  subst hn hk
  have hb : (X.length + Y.length) * b ≤ 140737488355328 := Nat.le_trans (Nat.mul_le_mul hl h6) (by decide)
  obtain ⟨v', w', hr, k2, k3, k4, k5⟩ := run_append_own_at (P := P) w m sl ty el i z s b T.und h1 h2 h3 h4 h5 T.pos v X.length (rowC f X) hown ad Y.length c (rowC f Y) (rowC_len hf Y) hflat (rowC_cells hf Y) (by unfold maxLen; omega) hb hm
  rw [← rowC_append] at k2
  refine ⟨v', w', hr, k2, k3, fun g e => ?_, fun hv e => hv (k4.1 e).1⟩
  rcases k5 with k5 | k5
  · exact .inl (by rw [← k5]; exact e)
  · rw [k5] at e; cases e; exact .inr rfl
theorem wpList_more (T : RowTy P sl el s) (hf : Cells f s) {w : World} {ops : Array Oper} {rest : List Oper} {o : Oper} {a : Act} {Q : Exit → Act → World → Prop} (hgd : o.guard = none) (q x : Operand)
    (ho : o.op = .call { callee := .builtin .append, args := #[q, x], argTypes := #[sl, sl] })
    (m : Nat) (v : Value) (X Y : List α) (n k : Nat) (hn : X.length = n) (hk : Y.length = k) (hs : a.eval q = v) (hown : w.ownsRow m el s v n (rowC f X)) (ad : Addr) (c : Nat) (hx : a.eval x = .slice (some ad) k c) (hflat : ∀ j u, (rowC f Y)[j]? = some u → w.cell? (ad.add j) = some u) (hl : n + k ≤ 1000000) (hm : m ≤ w.heap.size)
    (h : ∀ v' w', w'.ownsRow m el s v' (n + k) (rowC f (X ++ Y)) → w.grownBy w' v.ownBlock → (∀ g, v'.ownBlock = some g → v.ownBlock = some g ∨ g = w.heap.size) → (v ≠ .slice none 0 0 → v' ≠ .slice none 0 0) → wpList P ops Q rest (a.put o.dst v') w') :
    wpList P ops Q (o :: rest) a w := by
  refine wpList_plain hgd fun K hK => ?_
  obtain ⟨v', w', hr, h2, h3, h4, h5⟩ := run_more T hf w o.type m v X Y n k hn hk hown ad c hflat hl hm
  unfold Oper.wp execOp
  simp only [ho, resolve, invoke, builtin, Sem.run_bind, Sem.run_pure, Result.andThen_ok, List.map_toArray, List.map_cons, List.map_nil, hs, hx, hr]
  exact hK _ _ (h v' w' h2 h3 h4 h5)
theorem step_more (T : RowTy P sl el s) (hf : Cells f s) {w : World} {ops : Array Oper} {o : Oper} {a : Act} {K : Act → World → Prop} {Q : Exit → Act → World → Prop} {E : Prop} (hw : Region.wanted o (yielded ops a.tmps) = true) (q x : Operand)
    (ho : o.op = .call { callee := .builtin .append, args := #[q, x], argTypes := #[sl, sl] })
    (m : Nat) (v : Value) (X Y : List α) (n k : Nat) (hn : X.length = n) (hk : Y.length = k) (hs : a.eval q = v) (hown : w.ownsRow m el s v n (rowC f X)) (ad : Addr) (c : Nat) (hx : a.eval x = .slice (some ad) k c) (hflat : ∀ j u, (rowC f Y)[j]? = some u → w.cell? (ad.add j) = some u) (hl : n + k ≤ 1000000) (hm : m ≤ w.heap.size)
    (h : ∀ v' w', w'.ownsRow m el s v' (n + k) (rowC f (X ++ Y)) → w.grownBy w' v.ownBlock → (∀ g, v'.ownBlock = some g → v.ownBlock = some g ∨ g = w.heap.size) → (v ≠ .slice none 0 0 → v' ≠ .slice none 0 0) → K (a.put o.dst v') w') :
    if Region.wanted o (yielded ops a.tmps) = true then Oper.wp P o a w K Q else E := by
  rw [if_pos hw]
  obtain ⟨v', w', hr, h2, h3, h4, h5⟩ := run_more T hf w o.type m v X Y n k hn hk hown ad c hflat hl hm
  unfold Oper.wp execOp
  simp only [ho, resolve, invoke, builtin, Sem.run_bind, Sem.run_pure, Result.andThen_ok, List.map_toArray, List.map_cons, List.map_nil, hs, hx, hr]
  exact h v' w' h2 h3 h4 h5
/-- Nothing is appended. -/
theorem wpList_nomore (T : RowTy P sl el s) {w : World} {ops : Array Oper} {rest : List Oper} {o : Oper} {a : Act} {Q : Exit → Act → World → Prop} (hgd : o.guard = none) (q x : Operand)
    (ho : o.op = .call { callee := .builtin .append, args := #[q, x], argTypes := #[sl, sl] }) (m n : Nat) (v : Value) (xs : List Value) (hs : a.eval q = v) (hown : w.ownsRow m el s v n xs) (hx : a.eval x = .slice none 0 0)
    (h : wpList P ops Q rest (a.put o.dst v) w) : wpList P ops Q (o :: rest) a w := by
  obtain ⟨i, z, b, h1, h2, h3, h4, h5, h6⟩ := T.info
  have hr := run_append_owned_none (P := P) w m sl o.type el i s T.und h1 v n xs hown
  refine wpList_plain hgd fun K hK => ?_
  unfold Oper.wp execOp
  simp only [ho, resolve, invoke, builtin, Sem.run_bind, Sem.run_pure, Result.andThen_ok, List.map_toArray, List.map_cons, List.map_nil, hs, hx, hr]
  exact hK _ _ h
theorem step_nomore (T : RowTy P sl el s) {w : World} {ops : Array Oper} {o : Oper} {a : Act} {K : Act → World → Prop} {Q : Exit → Act → World → Prop} {E : Prop} (hw : Region.wanted o (yielded ops a.tmps) = true) (q x : Operand)
    (ho : o.op = .call { callee := .builtin .append, args := #[q, x], argTypes := #[sl, sl] }) (m n : Nat) (v : Value) (xs : List Value) (hs : a.eval q = v) (hown : w.ownsRow m el s v n xs) (hx : a.eval x = .slice none 0 0)
    (h : K (a.put o.dst v) w) : if Region.wanted o (yielded ops a.tmps) = true then Oper.wp P o a w K Q else E := by
  rw [if_pos hw]
  obtain ⟨i, z, b, h1, h2, h3, h4, h5, h6⟩ := T.info
  have hr := run_append_owned_none (P := P) w m sl o.type el i s T.und h1 v n xs hown
  unfold Oper.wp execOp
  simp only [ho, resolve, invoke, builtin, Sem.run_bind, Sem.run_pure, Result.andThen_ok, List.map_toArray, List.map_cons, List.map_nil, hs, hx, hr]
  exact h
/-- An element that was laid now, as a slice of one. -/
theorem flat_new {w : World} {N : Nat} {t : TypeId} {x : α} {cs : Array Value} (hB : Box w N cs t) (hc : cs.toList = f x) : ∀ j u, (rowC f [x])[j]? = some u → w.cell? ((⟨N, 0, none⟩ : Addr).add j) = some u := by
  intro j u hu
  rw [rowC_one, ← hc] at hu
  exact World.news_of_block hB j u hu
/-- A part of an owned row lies at its place. -/
theorem flat_part {w w' : World} {base g n cap : Nat} {L : List α} (hf : Cells f s) (h : w.ownsRow base el s (.slice (some ⟨g, 0, none⟩) n cap) n (rowC f L)) (hb : Below w.heap.size w w') (k : Nat) {ad : Addr} (had : L.drop k ≠ [] → ad = ⟨g, k * s, none⟩) : ∀ j u, (rowC f (L.drop k))[j]? = some u → w'.cell? (ad.add j) = some u := by
  intro j u hu
  by_cases hd : L.drop k = []
  · rw [hd] at hu; simp [rowC] at hu
  · rw [had hd, add_plain]
    rw [← rowC_drop hf, List.getElem?_drop] at hu
    have e := h.cells (g := g) rfl _ _ hu
    rw [add_plain, Nat.zero_add] at e
    exact (hb.cell (p := ⟨g, k * s + j, none⟩) (h.lt g rfl).2).trans e
theorem flat_first {w w' : World} {base g n cap : Nat} {L : List α} (hf : Cells f s) (h : w.ownsRow base el s (.slice (some ⟨g, 0, none⟩) n cap) n (rowC f L)) (hb : Below w.heap.size w w') (k : Nat) : ∀ j u, (rowC f (L.take k))[j]? = some u → w'.cell? ((⟨g, 0, none⟩ : Addr).add j) = some u := by
  intro j u hu
  rw [add_plain, Nat.zero_add]
  rw [← rowC_take hf, List.getElem?_take] at hu
  split at hu
  · have e := h.cells (g := g) rfl _ _ hu
    rw [add_plain, Nat.zero_add] at e
    exact (hb.cell (p := ⟨g, j, none⟩) (h.lt g rfl).2).trans e
  · cases hu
theorem own_take {w : World} {m n g cap k : Nat} {L : List α} (hf : Cells f s) (h : w.ownsRow m el s (.slice (some ⟨g, 0, none⟩) n cap) n (rowC f L)) (hL : L.length = n) (hk : k ≤ n) : w.ownsRow m el s (.slice (some ⟨g, 0, none⟩) k cap) k (rowC f (L.take k)) := by
  obtain ⟨h1, h2 | ⟨g', cap', cur, e, h3, h4, h5, h6, h7, h8⟩⟩ := h
  · cases h2.1
  · cases e
    refine ⟨by rw [rowC_len hf, List.length_take, hL, Nat.min_eq_left hk], .inr ⟨g, cap, cur, rfl, h3, h4, by omega, h6, h7, ?_⟩⟩
    rw [← rowC_take hf, ← h8, List.take_take, Nat.min_eq_left (Nat.mul_le_mul_right s hk)]
/-- A row of one's own, with nothing in it: '[]T{}'. -/
theorem own_empty {w : World} {g m : Nat} (h : Box w g #[] el) (hm : m ≤ g) : w.ownsRow m el s (.slice (some ⟨g, 0, none⟩) 0 0) 0 (rowC f ([] : List α)) :=
  ⟨by simp [rowC], .inr ⟨g, 0, #[], rfl, hm, h, Nat.le_refl _, by decide, by simp, by simp [rowC]⟩⟩
end
end Go.Proofs.YtenghpgnhmglpaaDoor
