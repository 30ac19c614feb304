/- Trees in memory: a tree of nodes that nobody changes; a tree's colours, heights; what put in and dropped make of a tree, in plain words. No condition. -/
import Derived.Test.YtjfpemkdidoacaaTrM
import Derived.WalkKit
import Derived.ProofKit
import Derived.Below
import Derived.Outline
import Derived.Lib.Hide
import Derived.Laws.Externs
import Derived.RowKit3
import Derived.BigQuiet
import Derived.Deep.QuietTactic
import Derived.WalkSmall
import Derived.Deep.DeepCutAuto
import Derived.Deep.CutBlock
import Derived.LoopTactic
import Derived.Deep.RegionHeld3
import Derived.Deep.CutRange
import Derived.RangeFuncNested
import Derived.RangeFuncBound
import Derived.RangeFuncCalls
import Derived.RangeFuncLeaves
import Derived.Shelf.Abstract
import Derived.Shelf.RegionOpen
import Derived.OwnWalkIn
import Derived.TacticsInMore
import Derived.LoopNIn
import Derived.LoopIn
namespace Go.Proofs.Ytjfpemkdidoacaa
open Go.RowKit Go.Shelf
set_option linter.unusedVariables false
abbrev eU (n : Int) : Value := .int .u64 n
abbrev eI (n : Int) : Value := .int .i64 n
def Word (x : Int) : Prop := 0 ≤ x ∧ x < 18446744073709551616
def Inte (x : Int) : Prop := -9223372036854775808 ≤ x ∧ x < 9223372036854775808
theorem up1 (w : World) (o1 : Obj) : Below w.heap.size w (w.alloc o1) := (Below.refl _ _).alloc (Nat.le_refl _) _
theorem up2 (w : World) (o1 o2 : Obj) : Below w.heap.size w ((w.alloc o1).alloc o2) := (up1 w o1).alloc (by simp) _
theorem up3 (w : World) (o1 o2 o3 : Obj) : Below w.heap.size w (((w.alloc o1).alloc o2).alloc o3) := (up2 w o1 o2).alloc (by simp; omega) _
theorem up {B : Nat} {W w w' : World} (h : Below B W w) (k : Below w.heap.size w w') (hB : B ≤ w.heap.size) : Below B W w' := h.trans (k.mono hB)
/-- What lies behind what lies behind. -/
theorem upp {W w w' : World} (h : Below W.heap.size W w) (k : Below w.heap.size w w') : Below W.heap.size W w' := up h k h.size
theorem undrew {w w' : World} (h : Below w.drew.heap.size w.drew w') : Below w.heap.size w w' := ((Below.refl _ w).drew).trans h
theorem undrewN {w w' : World} {n : Nat} (h : Below (w.drewN n).heap.size (w.drewN n) w') : Below w.heap.size w w' := (below_drewN (Below.refl _ w) n).trans h
/-- Block B is a block of those values. -/
def Box (W : World) (B : Nat) (vs : Array Value) (t : TypeId) : Prop := W.heap[B]? = some (.cells vs t (0, 0))
section
variable {W w : World} {B B' : Nat} {vs : Array Value} {t : TypeId}
theorem Box.lt (h : Box W B vs t) : B < W.heap.size := (Array.getElem?_eq_some_iff.1 h).1
theorem Box.new (W : World) (t : TypeId) (v : Array Value) : Box (W.alloc (.cells v t)) W.heap.size v t := World.alloc_heap_new W _
theorem Box.alloc (h : Box W B vs t) (o : Obj) : Box (W.alloc o) B vs t := (Below.heap_alloc W o B h.lt).trans h
theorem Box.below (h : Box W B vs t) (hb : Below W.heap.size W w) : Box w B vs t := (hb.block B h.lt).trans h
theorem Box.under {n : Nat} (h : Box W B vs t) (hb : Below n W w) (hn : B < n) : Box w B vs t := (hb.block B hn).trans h
theorem Box.setNe (h : Box W B vs t) {a : Addr} (hne : B ≠ a.block) (v : Value) : Box (W.setCell a v) B vs t := (Below.heap_setCell W a v B hne).trans h
theorem Box.set (h : Box W B vs t) (i : Nat) (v : Value) : Box (W.setCell ⟨B, i, none⟩ v) B (vs.setIfInBounds i v) t := by
  have e : W.heap[B]? = some (.cells vs t (0, 0)) := h
  show (W.setCell ⟨B, i, none⟩ v).heap[B]? = _
  simp [World.setCell, Array.getElem?_modify, e]
theorem Box.cell (h : Box W B vs t) (i : Nat) : W.cell? ⟨B, i, none⟩ = vs[i]? := by
  have e : W.heap[B]? = some (.cells vs t (0, 0)) := h
  simp [World.cell?, e]
theorem Box.thaw (h : Box W B vs t) (i : Nat) : W.frozen? ⟨B, i, none⟩ = false := by
  have e : W.heap[B]? = some (.cells vs t (0, 0)) := h
  simp [World.frozen?, e]
theorem box_own {β : Type} (B : Nat) (t : TypeId) (v : Array Value) : Go.Own (fun (_ : β) W => Box W B v t) := fun s X Y row hs hg hrow =>
  (hg.block B hs.lt (fun e' => by obtain ⟨o, ho, hc⟩ := hrow B e'.symm; rw [show X.heap[B]? = _ from hs] at ho; cases ho; cases hc)).trans hs
end
/-- A tree: an item, whether it is red, what stands left and right of it. -/
inductive Tr where
  | nil
  | nd (m : It) (r : Bool) (a b : Tr)
namespace Tr
def items : Tr → List It
  | nil => []
  | nd m _ a b => a.items ++ m :: b.items
def isRed : Tr → Bool
  | nil => false
  | nd _ r _ _ => r
def tint (c : Bool) : Tr → Tr
  | nil => nil
  | nd m _ a b => nd m c a b
def hgt : Tr → Nat
  | nil => 0
  | nd _ _ a b => 1 + max a.hgt b.hgt
/-- The least value; 0 of none. -/
def sum : Tr → Int
  | nil => 0
  | nd m _ a b => match a, b with
    | nil, nil => m.2
    | nd .., nil => min a.sum m.2
    | nil, nd .. => min m.2 b.sum
    | nd .., nd .. => min a.sum (min m.2 b.sum)
def fst : Tr → Option It
  | nil => none
  | nd m _ nil _ => some m
  | nd _ _ (nd m r a b) _ => (nd m r a b).fst
def m3 (m : It) (r : Bool) (a b : Tr) : Tr := if a.isRed && b.isRed then nd m true (a.tint false) (b.tint false) else nd m r a b
def m2 (m : It) (r : Bool) (a b : Tr) : Tr := match a with
  | nd ma true (nd mb true x y) z => m3 ma r (nd mb true x y) (nd m true z b)
  | a => m3 m r a b
def mend (m : It) (r : Bool) (a : Tr) : Tr → Tr
  | nd mb true x y => if a.isRed then m2 m r a (nd mb true x y) else m2 mb r (mend m true a x) y
  | b => m2 m r a b
def put (x : It) : Tr → Tr
  | nil => nd x true nil nil
  | nd m r a b => if kLt x.1 m.1 then mend m r (put x a) b else mend m r a (put x b)
/-- What comes in a node's place, whose parts are all short. -/
def evn (r : Bool) (p : Tr) : Tr × Bool := if r then (p, false) else (p.tint false, !p.isRed)
def shl (m : It) (r : Bool) (a b : Tr) : Tr × Bool := evn r (mend m false a (b.tint true))
def shr (m : It) (r : Bool) (b : Tr) : Tr → Tr × Bool
  | nd ml true x y => (mend ml false x (shr m true b y).1, false)
  | a => evn r (mend m false (a.tint true) b)
def isNil : Tr → Bool
  | nil => true
  | _ => false
def rem (k : Ky) : Tr → Tr × Bool
  | nil => (nil, false)
  | nd m r a b =>
    if kLt k m.1 then (if (rem k a).2 then shl m r (rem k a).1 b else (nd m r (rem k a).1 b, false))
    else if k = m.1 then
      (match b.fst with
        | none => (a.tint false, !r && a.isNil)
        | some x => if (rem x.1 b).2 then shr x r (rem x.1 b).1 a else (nd x r a (rem x.1 b).1, false))
    else (if (rem k b).2 then shr m r (rem k b).1 a else (nd m r a (rem k b).1, false))
end Tr
/-- A pointer: of nobody, or to a block's beginning. -/
abbrev Pt := Option Addr
abbrev node (m : It) (r : Bool) (pl pr : Pt) (s : Int) : Array Value := #[eU m.1.1, eI m.1.2, eU m.2, .bool r, .pointer pl, .pointer pr, eU s]
/-- The memory holds that tree there, in blocks below n. -/
def IsTr (n : Nat) (W : World) : Pt → Tr → Prop
  | p, .nil => p = none
  | p, .nd m r a b => ∃ (B : Nat) (pl pr : Pt), p = some ⟨B, 0, none⟩ ∧ B < n ∧ Box W B (node m r pl pr (Tr.nd m r a b).sum) 80 ∧ (Word m.1.1 ∧ Inte m.1.2 ∧ Word m.2) ∧ IsTr n W pl a ∧ IsTr n W pr b
theorem IsTr.below {n : Nat} {W w : World} (hb : Below n W w) : ∀ {p : Pt} {t : Tr}, IsTr n W p t → IsTr n w p t
  | _, .nil, h => h
  | _, .nd m r a b, ⟨B, pl, pr, e, hB, hx, hw, hl, hr⟩ => ⟨B, pl, pr, e, hB, hx.under hb hB, hw, hl.below hb, hr.below hb⟩
theorem IsTr.mono {n n' : Nat} {W : World} (hn : n ≤ n') : ∀ {p : Pt} {t : Tr}, IsTr n W p t → IsTr n' W p t
  | _, .nil, h => h
  | _, .nd m r a b, ⟨B, pl, pr, e, hB, hx, hw, hl, hr⟩ => ⟨B, pl, pr, e, Nat.lt_of_lt_of_le hB hn, hx, hw, hl.mono hn, hr.mono hn⟩
/-- The memory holds that tree there. -/
def Tre (W : World) (p : Pt) (t : Tr) : Prop := IsTr W.heap.size W p t
theorem Tre.below {W w : World} {p : Pt} {t : Tr} (h : Tre W p t) (hb : Below W.heap.size W w) : Tre w p t := (IsTr.below hb h).mono hb.size
theorem Tre.nil (W : World) : Tre W none .nil := rfl
theorem Tre.drew {W : World} {p : Pt} {t : Tr} (h : Tre W p t) : Tre W.drew p t := h.below ((Below.refl _ _).drew)
theorem Tre.nd {W : World} {m : It} {r : Bool} {a b : Tr} {B : Nat} {pl pr : Pt} (hB : Box W B (node m r pl pr (Tr.nd m r a b).sum) 80) (hw : Word m.1.1 ∧ Inte m.1.2 ∧ Word m.2) (hl : Tre W pl a) (hr : Tre W pr b) : Tre W (some ⟨B, 0, none⟩) (.nd m r a b) :=
  ⟨B, pl, pr, rfl, hB.lt, hB, hw, hl, hr⟩
theorem Tre.open {W : World} {p : Pt} {m : It} {r : Bool} {a b : Tr} (h : Tre W p (.nd m r a b)) :
    ∃ (B : Nat) (pl pr : Pt), p = some ⟨B, 0, none⟩ ∧ Box W B (node m r pl pr (Tr.nd m r a b).sum) 80 ∧ (Word m.1.1 ∧ Inte m.1.2 ∧ Word m.2) ∧ Tre W pl a ∧ Tre W pr b := by
  obtain ⟨B, pl, pr, e, _, hx, hw, hl, hr⟩ := h
  exact ⟨B, pl, pr, e, hx, hw, hl, hr⟩
end Go.Proofs.Ytjfpemkdidoacaa
