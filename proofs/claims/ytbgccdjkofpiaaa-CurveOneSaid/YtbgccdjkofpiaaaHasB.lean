/- A block that holds a number of two words: what a store into another block leaves, and a store into it. No condition. -/
import Derived.Test.YtbgccdjkofpiaaaHas
namespace Go.Proofs.Ytbgccdjkofpiaaa
open Go.RowKit W
theorem Has.setLt {w : World} {B : Nat} {x y : Int} (h : Has w B x y) {a : Addr} (hl : B < a.block) (v : Value) : Has (w.setCell a v) B x y := by
  obtain ⟨h1, h2, h3⟩ := h
  have hb : Below a.block w (w.setCell a v) := (Below.refl _ _).setCell (Nat.le_refl _) v
  exact ⟨Nat.lt_of_lt_of_le h1 hb.size, (hb.cell (p := ⟨B, 0, none⟩) hl).trans h2, (hb.cell (p := ⟨B, 1, none⟩) hl).trans h3⟩
theorem Has.store {w : World} {B : Nat} {x y : Int} (h : Has w B x y) (u v : Int) : Has ((w.setCell ⟨B, 0, none⟩ (.int .u64 u)).setCell ⟨B, 1, none⟩ (.int .u64 v)) B u v := by
  obtain ⟨h1, h2, h3⟩ := h
  refine ⟨by simpa [World.setCell] using h1, ?_, ?_⟩
  · simp [go_sem, h2]
  · simp [go_sem, h3]
end Go.Proofs.Ytbgccdjkofpiaaa
