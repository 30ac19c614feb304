/- A block of the call's own that holds a number of two words; the sum of products of two rows. No condition. -/
import Derived.Test.YtbgccdjkofpiaaaHasB
import Derived.Test.YtbgccdjkofpiaaaMathB
namespace Go.Proofs.Ytbgccdjkofpiaaa
open Go.RowKit W
set_option linter.unusedVariables false
/-- Block B holds the words x and y, and may be written. -/
def Own (w : World) (B : Nat) (x y : Int) : Prop := Has w B x y ∧ w.frozen? ⟨B, 0, none⟩ = false ∧ w.frozen? ⟨B, 1, none⟩ = false
theorem Own.new (w : World) (x y : Int) : Own (w.alloc (.cells #[.int .u64 x, .int .u64 y] 54)) w.heap.size x y :=
  ⟨Has.new w x y, World.frozen?_alloc_new _ _ _ _, World.frozen?_alloc_new _ _ _ _⟩
theorem Own.below {W w : World} {B : Nat} {x y : Int} (h : Own W B x y) (hb : Below W.heap.size W w) : Own w B x y :=
  ⟨h.1.below hb, (hb.frozen (p := ⟨B, 0, none⟩) h.1.1).trans h.2.1, (hb.frozen (p := ⟨B, 1, none⟩) h.1.1).trans h.2.2⟩
theorem Own.alloc {w : World} {B : Nat} {x y : Int} (h : Own w B x y) (o : Obj) : Own (w.alloc o) B x y := h.below (up1 w o)
theorem Own.setLt {w : World} {B : Nat} {x y : Int} (h : Own w B x y) {a : Addr} (hl : B < a.block) (v : Value) : Own (w.setCell a v) B x y :=
  ⟨h.1.setLt hl v, (World.frozen?_setCell _ _ _ _).trans h.2.1, (World.frozen?_setCell _ _ _ _).trans h.2.2⟩
theorem Has.setNe {w : World} {B : Nat} {x y : Int} (h : Has w B x y) {a : Addr} (hl : B ≠ a.block) (v : Value) : Has (w.setCell a v) B x y := by
  obtain ⟨h1, h2, h3⟩ := h
  have e : (w.setCell a v).heap[B]? = w.heap[B]? := Below.heap_setCell w a v B hl
  exact ⟨by simpa [World.setCell] using h1, (World.cell?_of_block (a := ⟨B, 0, none⟩) e).trans h2, (World.cell?_of_block (a := ⟨B, 1, none⟩) e).trans h3⟩
theorem Own.setNe {w : World} {B : Nat} {x y : Int} (h : Own w B x y) {a : Addr} (hl : B ≠ a.block) (v : Value) : Own (w.setCell a v) B x y :=
  ⟨h.1.setNe hl v, (World.frozen?_setCell _ _ _ _).trans h.2.1, (World.frozen?_setCell _ _ _ _).trans h.2.2⟩
theorem Own.store {w : World} {B : Nat} {x y : Int} (h : Own w B x y) (u v : Int) : Own ((w.setCell ⟨B, 0, none⟩ (.int .u64 u)).setCell ⟨B, 1, none⟩ (.int .u64 v)) B u v :=
  ⟨h.1.store u v, by rw [World.frozen?_setCell, World.frozen?_setCell]; exact h.2.1, by rw [World.frozen?_setCell, World.frozen?_setCell]; exact h.2.2⟩

namespace W
/-- The sum of the first k products. -/
def S (f g : Nat → Int) : Nat → Int
  | 0 => 0
  | k + 1 => S f g k + f k * g k
def sE (t : Int) : Int := if t < 340282366920938463463374607431768211456 then 0 else 10
def sH (t : Int) : Int := if t < 340282366920938463463374607431768211456 then t / 18446744073709551616 else 0
def sL (t : Int) : Int := if t < 340282366920938463463374607431768211456 then t % 18446744073709551616 else 0
theorem s_ok {t : Int} (h : t < 340282366920938463463374607431768211456) : sE t = 0 ∧ sH t = t / 18446744073709551616 ∧ sL t = t % 18446744073709551616 := by
  unfold sE sH sL; rw [if_pos h, if_pos h, if_pos h]; exact ⟨rfl, rfl, rfl⟩
theorem s_no {t : Int} (h : ¬ t < 340282366920938463463374607431768211456) : sE t = 10 ∧ sH t = 0 ∧ sL t = 0 := by
  unfold sE sH sL; rw [if_neg h, if_neg h, if_neg h]; exact ⟨rfl, rfl, rfl⟩
theorem V_s (t : Int) : V (t / 18446744073709551616) (t % 18446744073709551616) = t := by unfold V; omega
theorem p_s (t a b : Int) : pE (t / 18446744073709551616) (t % 18446744073709551616) (xH a b) (xL a b) = sE (t + a * b) ∧ pH (t / 18446744073709551616) (t % 18446744073709551616) (xH a b) (xL a b) = sH (t + a * b) ∧ pL (t / 18446744073709551616) (t % 18446744073709551616) (xH a b) (xL a b) = sL (t + a * b) := by
  unfold pE pH pL sE sH sL
  rw [V_s, V_x]
  exact ⟨rfl, rfl, rfl⟩
theorem S_mono {f g : Nat → Int} {n : Nat} (hf : ∀ j, j < n → Word (f j)) (hg : ∀ j, j < n → Word (g j)) : ∀ k, k ≤ n → 0 ≤ S f g k ∧ ∀ m, k + m ≤ n → S f g k ≤ S f g (k + m) := by
  have step : ∀ j, j < n → 0 ≤ f j * g j := fun j hj => (word_mul (hf j hj) (hg j hj)).1
  intro k
  induction k with
  | zero =>
    intro _
    refine ⟨Int.le_refl 0, fun m => ?_⟩
    induction m with
    | zero => intro _; exact Int.le_refl _
    | succ m ih => intro h; have := ih (by omega); have := step (0 + m) (by omega); show S f g 0 ≤ S f g (0 + m) + f (0 + m) * g (0 + m); omega
  | succ k ihk =>
    intro hk
    obtain ⟨a, _⟩ := ihk (by omega)
    have b := step k (by omega)
    refine ⟨by show 0 ≤ S f g k + f k * g k; omega, fun m => ?_⟩
    induction m with
    | zero => intro _; exact Int.le_refl _
    | succ m ih => intro h; have := ih (by omega); have := step (k + 1 + m) (by omega); show S f g (k + 1) ≤ S f g (k + 1 + m) + f (k + 1 + m) * g (k + 1 + m); omega
end W
end Go.Proofs.Ytbgccdjkofpiaaa
