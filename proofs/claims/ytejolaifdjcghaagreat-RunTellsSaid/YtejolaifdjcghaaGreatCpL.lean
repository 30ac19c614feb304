/- The document's copies: their lines; what one has, without an end. -/
import Derived.Test.YtejolaifdjcghaaGreatCpX
namespace Go.Proofs.YtejolaifdjcghaaGreat
open Go.RowKit Go.Shelf W
set_option linter.unusedVariables false
set_option maxRecDepth 100000
set_option maxHeartbeats 1000000 in
theorem c_lines (m B : Nat) (f l r : Int) (xs ys : List Int) (vX vY : Value) (w : World) (h : Cp m w B f l r xs ys vX vY) :
    Calls Tryz.prog 36 #[.pointer (some ⟨B, 0, none⟩)] w fun e w' => (∃ B', e = .returned (.pointer (some ⟨B', 0, none⟩)) ∧ w.heap.size ≤ B' ∧ Cp m w' B' 0 0 r xs ys vX vY) ∧ Below w.heap.size w w' := by
  obtain ⟨c0, c1, c2, c3, c4⟩ := h.cells
  have H := h
  obtain ⟨aX, cX, rfl, _⟩ := wOwn_len h.rx
  obtain ⟨aY, cY, rfl, _⟩ := wOwn_len h.ry
  clear h
  go_enter Tryz.func36, Tryz.ntmps36
  go_upto_region 1 with fail
  go_region
  all_goals go_wp2
  all_goals go_ret
  all_goals exact ⟨⟨_, rfl, Nat.le_refl _, (Box.new w 63 _).below (Below.refl _ _).drew, wOwn_below H.rx (up1 w _).drew, wOwn_below H.ry (up1 w _).drew, H.ne⟩, (up1 w _).drew⟩
end Go.Proofs.YtejolaifdjcghaaGreat
