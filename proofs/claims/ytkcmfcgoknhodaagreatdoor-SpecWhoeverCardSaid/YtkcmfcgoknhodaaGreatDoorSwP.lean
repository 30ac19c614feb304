/- What SpecWhoever asks of an Id and a Parent. Condition: the library's tables and errors are laid; the numbers are what the fields can hold. -/
import Derived.Test.YtkcmfcgoknhodaaGreatDoorSwA
import Derived.Test.YtkcmfcgoknhodaaGreatDoorSwL
namespace Go.Proofs.YtkcmfcgoknhodaaGreatDoor
open Go.RowKit Go.Lib W
set_option linter.unusedVariables false
theorem idB_sh (p : Sp) (i r : Int) : idB (shifted p i r) = (decide (1 ≤ i) && decide (i ≤ 65535) && decide (0 ≤ r) && decide (r ≤ 65535) && (i != r)) := by
  show (decide (1 ≤ i ∧ i ≤ 65535) && decide (0 ≤ r ∧ r ≤ 65535) && (r != i)) = _
  rw [Bool.decide_and, Bool.decide_and, bne_comm (a := r)]
  simp [Bool.and_assoc]
theorem idB_self (p : Sp) : idB p = (decide (1 ≤ p.id) && decide (p.id ≤ 65535) && decide (0 ≤ p.par) && decide (p.par ≤ 65535) && (p.id != p.par)) := idB_sh p p.id p.par
theorem idB_all {p : Sp} {i r : Int} (h : true = idB (shifted p i r)) : 1 ≤ i ∧ i ≤ 65535 ∧ 0 ≤ r ∧ r ≤ 65535 := by
  rw [idB_sh] at h
  have h := h.symm
  simp only [Bool.and_eq_true, decide_eq_true_eq] at h
  exact ⟨h.1.1.1.1, h.1.1.1.2, h.1.1.2, h.1.2⟩
end Go.Proofs.YtkcmfcgoknhodaaGreatDoor
