/- A block of memory that holds a curve (or a piece): three words; and the plain calls of curve. No condition. -/
import Derived.Test.YtbgccdjkofpiaaaHas
import Derived.Test.YtbgccdjkofpiaaaStopW
import Derived.WalkSmall
namespace Go.Proofs.Ytbgccdjkofpiaaa
open Go.RowKit W
set_option linter.unusedVariables false
/-- Block B holds the words x, y and z. -/
def Tri (w : World) (B : Nat) (x y z : Int) : Prop := B < w.heap.size ∧ w.cell? ⟨B, 0, none⟩ = some (.int .u64 x) ∧ w.cell? ⟨B, 1, none⟩ = some (.int .u64 y) ∧ w.cell? ⟨B, 2, none⟩ = some (.int .u64 z)
theorem Tri.new (w : World) (x y z : Int) (t : Nat) : Tri (w.alloc (.cells #[.int .u64 x, .int .u64 y, .int .u64 z] t)) w.heap.size x y z := by
  refine ⟨by simp, ?_, ?_, ?_⟩ <;> simp
theorem Tri.below {W w : World} {B : Nat} {x y z : Int} (h : Tri W B x y z) (hb : Below W.heap.size W w) : Tri w B x y z := by
  obtain ⟨a, b, c, d⟩ := h
  exact ⟨Nat.lt_of_lt_of_le a hb.size, (hb.cell (p := ⟨B, 0, none⟩) a).trans b, (hb.cell (p := ⟨B, 1, none⟩) a).trans c, (hb.cell (p := ⟨B, 2, none⟩) a).trans d⟩
theorem Tri.alloc {w : World} {B : Nat} {x y z : Int} (h : Tri w B x y z) (o : Obj) : Tri (w.alloc o) B x y z := h.below (up1 w o)

theorem straight_any (f l r : Int) (w : World) :
    Calls Try.prog 20 #[.agg #[.int .u64 f, .int .u64 l, .int .u64 r]] w fun e w' => e = .returned (.bool (l == 0)) ∧ Below w.heap.size w w' := by
  go_enter Try.func20, Try.ntmps20
  go_wp2
  go_ret
  exact ⟨rfl, up1 _ _⟩
theorem bent_any (f l r : Int) (w : World) :
    Calls Try.prog 18 #[.agg #[.int .u64 f, .int .u64 l, .int .u64 r]] w fun e w' => e = .returned (.bool (decide (r < f))) ∧ Below w.heap.size w w' := by
  go_enter Try.func18, Try.ntmps18
  go_wp2
  go_ret
  exact ⟨rfl, up1 _ _⟩
theorem bent'_any (f l r : Int) (w : World) :
    Calls Try.prog 19 #[.agg #[.int .u64 f, .int .u64 l, .int .u64 r]] w fun e w' => e = .returned (.bool (decide (r < f))) ∧ Below w.heap.size w w' := by
  go_enter Try.func19, Try.ntmps19
  go_wp2
  go_ret
  exact ⟨rfl, up1 _ _⟩
theorem none_any (f l r : Int) (w : World) :
    Calls Try.prog 16 #[.agg #[.int .u64 f, .int .u64 l, .int .u64 r]] w fun e w' => e = .returned (.bool (decide (f = 0 ∧ l = 0 ∧ r = 0))) ∧ Below w.heap.size w w' := by
  go_enter Try.func16, Try.ntmps16
  go_wp2
  all_goals go_ret
  all_goals exact ⟨by simp [*], up1 _ _⟩
end Go.Proofs.Ytbgccdjkofpiaaa
