/- Loops over iterators that have no cells of their own, whose bodies may change whatever they have made meanwhile. No condition. -/
import Derived.Test.YtenghpgnhmglpaaDoorCoC
namespace Go.Proofs.YtenghpgnhmglpaaDoor
open Go.RowKit Go.Shelf
set_option linter.unusedVariables false
/-- A relation that abides new blocks. -/
def AbN {β : Type} (J : β → World → Prop) : Prop := ∀ s W W', J s W → Below W.heap.size W W' → J s W'
/-- A relation that abides new blocks, and turns of a loop's own two. -/
def AbL {β : Type} (B : Nat) (J : β → World → Prop) : Prop := ∀ s W W' row, J s W → W.grownBy W' row → (∀ r, row = some r → r = B ∨ r = B + 1) → J s W'
theorem AbL.none {β : Type} {B : Nat} {J : β → World → Prop} (h : AbL B J) {s : β} {W W' : World} (hs : J s W) (hb : Below W.heap.size W W') : J s W' :=
  h s W W' Option.none hs ⟨hb.os, hb.tape, hb.output, hb.size, fun k hk _ => hb.block k hk⟩ (fun r e => by cases e)
theorem AbL.put {β : Type} {B : Nat} {J : β → World → Prop} (h : AbL B J) {s : β} {W : World} (o : Obj) (hs : J s W) : J s (W.putObj (B + 1) o) :=
  h s W _ (some (B + 1)) hs (grownBy_putObj' W (B + 1) o) (fun r e => by cases e; exact .inr rfl)
/-- Nothing that lay below n₀ has turned, nor the loop's own two blocks. -/
structure MidD (n₀ B : Nat) (W W' : World) : Prop where
  below : Below n₀ W W'
  mark : W'.heap[B]? = W.heap[B]?
  book : W'.heap[B + 1]? = W.heap[B + 1]?
theorem MidD.refl (n₀ B : Nat) (W : World) : MidD n₀ B W W := ⟨Below.refl _ _, rfl, rfl⟩
theorem MidD.trans {n₀ B : Nat} {X Y Z : World} (h : MidD n₀ B X Y) (k : MidD n₀ B Y Z) : MidD n₀ B X Z := ⟨h.below.trans k.below, k.mark.trans h.mark, k.book.trans h.book⟩
theorem MidD.of_below {n₀ B : Nat} {X Y : World} (h : Below X.heap.size X Y) (hn : n₀ ≤ X.heap.size) (hB : B + 1 < X.heap.size) : MidD n₀ B X Y := ⟨h.mono hn, h.block _ (by omega), h.block _ hB⟩
theorem MidD.put {n₀ B : Nat} (X : World) {b : Nat} (hn : n₀ ≤ b) (hb : b ≠ B) (hb' : b ≠ B + 1) (i : Nat) (v : Value) : MidD n₀ B X (X.setCell ⟨b, i, none⟩ v) :=
  ⟨(Below.refl _ X).setCell (p := ⟨b, i, none⟩) hn v, Below.heap_setCell _ _ _ B (by show B ≠ b; omega), Below.heap_setCell _ _ _ (B + 1) (by show B + 1 ≠ b; omega)⟩
/-- A loop that an iterator drives which has no cells of its own. -/
def SeqD {α : Type} (n : Nat) (g : Nat) (lb : Array Value) (encs : α → Array Value) (n₀ : Nat) (T : List α → World → Prop) (S Sp : List α → Prop) (Nx : List α → α → Prop) (w : World) : Prop :=
  ∀ (l : Nat) (J Jx : List α → World → Prop) (W : World), Below w.heap.size w W → AbN J → AbN Jx → (∀ pre X, J pre X → T pre X) →
    (∀ pre x W1, W.heap.size ≤ W1.heap.size → J pre W1 → Nx pre x → YieldAt Fence.wide (n - 1) Tryd.prog l (encs x) W1 fun e W' =>
      (e = .returned (.bool true) ∧ J (pre ++ [x]) W' ∧ Below n₀ W1 W') ∨ (e = .returned (.bool false) ∧ Jx (pre ++ [x]) W' ∧ Below n₀ W1 W')) →
    J [] W →
    CallsIn Fence.wide n Tryd.prog g (#[.func (.yield l) #[] #[]] ++ lb) W fun e W' => (∃ v, e = .returned v) ∧ ((∃ xs, S xs ∧ J xs W') ∨ (∃ pre, Sp pre ∧ Jx pre W'))
theorem AbidesAll.abN {β : Type} {B : Nat} {J : β → World → Prop} (h : AbidesAll B J) : AbN J := fun s W W' hs hb =>
  h s W W' none hs ⟨hb.os, hb.tape, hb.output, hb.size, fun k hk _ => hb.block k hk⟩ (fun r e => by cases e)
/-- Such a loop is one of the stricter kind. -/
theorem SeqD.toC {α : Type} {n g : Nat} {lb : Array Value} {encs : α → Array Value} {n₀ : Nat} {T : List α → World → Prop} {S Sp : List α → Prop} {Nx : List α → α → Prop} {w : World} (h : SeqD n g lb encs n₀ T S Sp Nx w) : SeqC n g lb encs n₀ T S Sp Nx w :=
  fun l J Jx W hW hJ hJx hT hY h0 => h l J Jx W hW hJ.abN hJx.abN hT (fun pre x W1 h1 h2 h3 => YieldAt.mono (hY pre x W1 h1 h2 h3) fun e W' q => by
    rcases q with ⟨q1, q2, q3⟩ | ⟨q1, q2, q3⟩
    · exact .inl ⟨q1, q2, q3.1⟩
    · exact .inr ⟨q1, q2, q3.1⟩) h0
/-- What a body leaves. -/
def postD {α : Type} (n₀ B : Nat) (I : List α → World → Prop) (Ix : Code → List α → World → Prop) (xs : List α) (W : World) : Exit → Act → World → Prop
  | .normal, _, W' => MidD n₀ B W W' ∧ I xs W'
  | .ret, _, W' => MidD n₀ B W W' ∧ Ix .ret xs W'
  | .exit id, _, W' => MidD n₀ B W W' ∧ Ix (.exit id) xs W'
  | .goto t, _, W' => MidD n₀ B W W' ∧ Ix (.goto t) xs W'
  | .panic _, _, _ => False
  | .outgrown, _, _ => False
end Go.Proofs.YtenghpgnhmglpaaDoor
