/- What the tree's small calls answer: Less, the summaries' functions, isRed, tinted, total, over. No condition. -/
import Derived.Test.YtjfpemkdidoacaaTA
namespace Go.Proofs.Ytjfpemkdidoacaa
open Go.RowKit Go.Shelf
set_option linter.unusedVariables false
abbrev ky (k : Ky) : Value := .agg #[eU k.1, eI k.2]
theorem less_any (k x : Ky) (w : World) : Calls Try.prog 36 #[ky k, ky x] w fun e w' => e = .returned (.bool (decide (kLt k x))) ∧ Below w.heap.size w w' := by
  obtain ⟨k1, k2⟩ := k
  obtain ⟨x1, x2⟩ := x
  by_cases h : k1 = x1
  · subst h
    have e : decide (kLt (k1, k2) (k1, x2)) = decide (k2 < x2) := by simp [kLt]
    rw [e]
    clear e
    go_enter Try.func36, Try.ntmps36
    go_wp2
    go_ret
    exact ⟨rfl, up2 _ _ _⟩
  · have e : decide (kLt (k1, k2) (x1, x2)) = decide (k1 < x1) := by simp [kLt, h]
    rw [e]
    clear e
    have h1 : (k1 != x1) = true := by simpa using h
    go_enter Try.func36, Try.ntmps36
    go_wp2
    go_ret
    exact ⟨rfl, up2 _ _ _⟩
theorem value_any (k : Ky) (v : Int) (w : World) : Calls Try.prog 33 #[ky k, eU v] w fun e w' => e = .returned (eU v) ∧ Below w.heap.size w w' := by
  go_enter Try.func33, Try.ntmps33
  go_wp2
  go_ret
  exact ⟨rfl, up1 _ _⟩
theorem least_any (a b : Int) (w : World) : Calls Try.prog 32 #[eU a, eU b] w fun e w' => e = .returned (eU (min a b)) ∧ Below w.heap.size w w' := by
  rcases Int.lt_trichotomy a b with h | rfl | h
  · have m1 : min a b = a := by omega
    have m2 : max a b = b := by omega
    rw [m1]
    go_enter Try.func32, Try.ntmps32
    go_wp2
    go_ret
    exact ⟨rfl, Below.refl _ _⟩
  · have m1 : min a a = a := by omega
    rw [m1]
    go_enter Try.func32, Try.ntmps32
    go_wp2
    go_ret
    exact ⟨rfl, Below.refl _ _⟩
  · have m1 : min a b = b := by omega
    have m2 : max a b = a := by omega
    rw [m1]
    go_enter Try.func32, Try.ntmps32
    go_wp2
    go_ret
    exact ⟨rfl, Below.refl _ _⟩
theorem equal_any (a b : Int) (w : World) : Calls Try.prog 30 #[eU a, eU b] w fun e w' => e = .returned (.bool (decide (a = b))) ∧ Below w.heap.size w w' := by
  have e : (a == b) = decide (a = b) := by rw [Bool.eq_iff_iff]; simp
  rw [← e]
  go_enter Try.func30, Try.ntmps30
  go_wp2
  go_ret
  exact ⟨rfl, Below.refl _ _⟩
theorem ok_any (y a : Int) (w : World) : Calls Try.prog 23 #[eU y, eU a] w fun e w' => e = .returned (.bool (decide (a ≤ y))) ∧ Below w.heap.size w w' := by
  go_enter Try.func23, Try.ntmps23
  go_wp2
  go_ret
  exact ⟨rfl, Below.refl _ _⟩
theorem isRed_nil (w : World) : Calls Try.prog 57 #[.pointer none] w fun e w' => e = .returned (.bool false) ∧ w = w' := by
  go_enter Try.func57, Try.ntmps57
  go_wp2
  go_ret
  exact ⟨rfl, rfl⟩
theorem isRed_at (B : Nat) (r : Bool) (w : World) (h : w.cell? ⟨B, 2 + 1, none⟩ = some (.bool r)) : Calls Try.prog 57 #[.pointer (some ⟨B, 0, none⟩)] w fun e w' => e = .returned (.bool r) ∧ w = w' := by
  go_enter Try.func57, Try.ntmps57
  go_wp2
  go_ret
  exact ⟨rfl, rfl⟩
end Go.Proofs.Ytjfpemkdidoacaa
