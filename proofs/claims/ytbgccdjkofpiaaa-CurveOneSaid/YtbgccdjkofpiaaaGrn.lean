/- What a piece has in its first ticks; a box of three words. No condition. -/
import Derived.Test.YtbgccdjkofpiaaaPie
namespace Go.Proofs.Ytbgccdjkofpiaaa
open Go.RowKit Go.Shelf W
set_option linter.unusedVariables false
attribute [local go_sem] Oper.semAt_some
/-- Block B is a block of those values. -/
def Box (W : World) (B : Nat) (vs : Array Value) (t : TypeId) : Prop := W.heap[B]? = some (.cells vs t (0, 0))
theorem Box.lt {W : World} {B : Nat} {t : TypeId} {v : Array Value} (h : Box W B v t) : B < W.heap.size := (Array.getElem?_eq_some_iff.1 h).1
theorem Box.new (W : World) (t : TypeId) (v : Array Value) : Box (W.alloc (.cells v t)) W.heap.size v t := World.alloc_heap_new W _
theorem Box.alloc {W : World} {B : Nat} {t : TypeId} {v : Array Value} (h : Box W B v t) (o : Obj) : Box (W.alloc o) B v t := (Below.heap_alloc W o B h.lt).trans h
theorem Box.below {W w : World} {B : Nat} {t : TypeId} {v : Array Value} (h : Box W B v t) (hb : Below W.heap.size W w) : Box w B v t := (hb.block B h.lt).trans h
theorem Box.other {W : World} {B B' : Nat} {t : TypeId} {v : Array Value} (h : Box W B v t) (hne : B ≠ B') (u : Value) : Box (W.setCell ⟨B', 0, none⟩ u) B v t := (Below.heap_setCell _ _ _ B hne).trans h
theorem box_own {β : Type} (B : Nat) (t : TypeId) (v : Array Value) : Go.Own (fun (_ : β) W => Box W B v t) := fun s X Y row hs hg hrow =>
  (hg.block B hs.lt (fun e' => by obtain ⟨o, ho, hc⟩ := hrow B e'.symm; rw [show X.heap[B]? = _ from hs] at ho; cases ho; cases hc)).trans hs
theorem Box.tri {W : World} {B : Nat} {t : TypeId} {x y z : Int} (h : Box W B #[.int .u64 x, .int .u64 y, .int .u64 z] t) : Tri W B x y z :=
  ⟨h.lt, by simp [World.cell?, show W.heap[B]? = _ from h], by simp [World.cell?, show W.heap[B]? = _ from h], by simp [World.cell?, show W.heap[B]? = _ from h]⟩
theorem Boxed.below {W w : World} {B : Nat} {t : TypeId} {v : Value} (h : Boxed W B t v) (hb : Below W.heap.size W w) : Boxed w B t v := (hb.block B h.lt).trans h

theorem grains_any (s o n k : Int) (w : World) (hs : Word s) (hn : Word n) (hk : Word k) :
    Calls Try.prog 36 #[.agg #[.int .u64 s, .int .u64 o, .int .u64 n], .int .u64 k] w fun e w' => e = .returned (.int .u64 (rT s (min k n))) ∧ Below w.heap.size w w' := by
  have hT := fun w => rTimes'_any s (min k n) w hs (by unfold Word at *; omega)
  rcases Int.lt_trichotomy k n with h | rfl | h
  · have m1 : min k n = k := by omega
    have m2 : max k n = n := by omega
    rw [m1] at hT ⊢
    go_enter Try.func36, Try.ntmps36
    go_wp2_with (go_at_call 28; (with_reducible refine (hT _).mono ?_); rintro e w1 ⟨rfl, hb1⟩)
    go_ret
    exact ⟨rfl, up (up1 _ _) hb1 (by simp)⟩
  · have m1 : min k k = k := by omega
    rw [m1] at hT ⊢
    go_enter Try.func36, Try.ntmps36
    go_wp2_with (go_at_call 28; (with_reducible refine (hT _).mono ?_); rintro e w1 ⟨rfl, hb1⟩)
    go_ret
    exact ⟨rfl, up (up1 _ _) hb1 (by simp)⟩
  · have m1 : min k n = n := by omega
    have m2 : max k n = k := by omega
    rw [m1] at hT ⊢
    go_enter Try.func36, Try.ntmps36
    go_wp2_with (go_at_call 28; (with_reducible refine (hT _).mono ?_); rintro e w1 ⟨rfl, hb1⟩)
    go_ret
    exact ⟨rfl, up (up1 _ _) hb1 (by simp)⟩
end Go.Proofs.Ytbgccdjkofpiaaa
