/- A block of memory that holds a number of two words, and what keeps it. No condition. -/
import Derived.Test.YtbgccdjkofpiaaaCmp
import Derived.WalkSmall
namespace Go.Proofs.Ytbgccdjkofpiaaa
open Go.RowKit W
/-- Block B holds the words x and y. -/
def Has (w : World) (B : Nat) (x y : Int) : Prop := B < w.heap.size ∧ w.cell? ⟨B, 0, none⟩ = some (.int .u64 x) ∧ w.cell? ⟨B, 1, none⟩ = some (.int .u64 y)
theorem Has.new (w : World) (x y : Int) : Has (w.alloc (.cells #[.int .u64 x, .int .u64 y] 54)) w.heap.size x y := by
  refine ⟨by simp, ?_, ?_⟩ <;> simp
theorem Has.new2 (w : World) (o : Obj) (x y : Int) : Has ((w.alloc o).alloc (.cells #[.int .u64 x, .int .u64 y] 54)) (w.heap.size + 1) x y := by
  have := Has.new (w.alloc o) x y
  simpa using this
theorem Has.alloc {w : World} {B : Nat} {x y : Int} (h : Has w B x y) (o : Obj) : Has (w.alloc o) B x y := by
  obtain ⟨a, b, c⟩ := h
  have hb : Below w.heap.size w (w.alloc o) := up1 w o
  exact ⟨Nat.lt_of_lt_of_le a hb.size, (hb.cell (p := ⟨B, 0, none⟩) a).trans b, (hb.cell (p := ⟨B, 1, none⟩) a).trans c⟩
theorem Has.below {W w : World} {B : Nat} {x y : Int} (h : Has W B x y) (hb : Below W.heap.size W w) : Has w B x y := by
  obtain ⟨a, b, c⟩ := h
  exact ⟨Nat.lt_of_lt_of_le a hb.size, (hb.cell (p := ⟨B, 0, none⟩) a).trans b, (hb.cell (p := ⟨B, 1, none⟩) a).trans c⟩
theorem Has.drewN {w : World} {B : Nat} {x y : Int} (h : Has w B x y) (n : Nat) : Has (w.drewN n) B x y := h
theorem Has.drew {w : World} {B : Nat} {x y : Int} (h : Has w B x y) : Has w.drew B x y := h
/-- What lies behind W lies behind what lies below W. -/
theorem up {B : Nat} {W w w' : World} (h : Below B W w) (k : Below w.heap.size w w') (hB : B ≤ w.heap.size) : Below B W w' := h.trans (k.mono hB)
theorem undrew {w w' : World} (h : Below w.drew.heap.size w.drew w') : Below w.heap.size w w' := ((Below.refl _ w).drew).trans h
theorem undrewN {w w' : World} {n : Nat} (h : Below (w.drewN n).heap.size (w.drewN n) w') : Below w.heap.size w w' := (below_drewN (Below.refl _ w) n).trans h
theorem word_of {x : Int} (h : (Lit.int .u64 x).wf = true) : Word x := by
  simp [Lit.wf, IntKind.min, IntKind.max, IntKind.bits, IntKind.signed] at h
  unfold Word; omega
end Go.Proofs.Ytbgccdjkofpiaaa
