/- What the document's calls answer of a curve: none, may be, steepest. No condition but that words are words. -/
import Derived.Test.YtbgccdjkofpiaaaMayW
namespace Go.Proofs.Ytbgccdjkofpiaaa
open Go.RowKit W
set_option linter.unusedVariables false
theorem beqB {a b : Int} {c : Bool} (h1 : a = b → c = true) (h2 : a ≠ b → c = false) : (a == b) = c := by
  by_cases h : a = b
  · rw [h1 h]; simpa using h
  · rw [h2 h]; simpa using h
theorem bneB {a b : Int} {c : Bool} (h1 : a = b → c = false) (h2 : a ≠ b → c = true) : (a != b) = c := by
  by_cases h : a = b
  · rw [h1 h]; simpa using h
  · rw [h2 h]; simpa using h
theorem kNone_any (f l r : Int) (w : World) :
    Calls Try.prog 17 #[.agg #[.int .u64 f, .int .u64 l, .int .u64 r]] w fun e w' => e = .returned (.bool (decide (f = 0 ∧ l = 0 ∧ r = 0))) ∧ Below w.heap.size w w' := by
  go_enter Try.func17, Try.ntmps17
  go_wp2
  all_goals go_ret
  all_goals (refine ⟨?_, up1 _ _⟩; first | (simp [*]; done) | ((have e : (r == 0) = decide (f = 0 ∧ l = 0 ∧ r = 0) := beqB (fun h => decide_eq_true (by omega)) (fun h => decide_eq_false (by omega))); rw [← e]; rfl))
theorem kSteepest_any (f l r : Int) (w : World) (hl : Word l) :
    Calls Try.prog 22 #[.agg #[.int .u64 f, .int .u64 l, .int .u64 r]] w fun e w' => e = .returned (.int .u64 (cSt f l r)) ∧ Below w.heap.size w w' := by
  go_enter Try.func22, Try.ntmps22
  go_wp2
  all_goals go_ret
  all_goals (refine ⟨?_, up1 _ _⟩; first | (have e : cSt f l r = f := by (unfold cSt; split <;> omega)); rw [e]; rfl | (have e : cSt f l r = r := by (unfold cSt; split <;> omega)); rw [e]; rfl)
theorem kMay_any (f l r : Int) (w : World) (hf : Word f) (hl : Word l) (hr : Word r) :
    Calls Try.prog 15 #[.agg #[.int .u64 f, .int .u64 l, .int .u64 r]] w fun e w' => e = .returned (.bool (mayB f l r)) ∧ Below w.heap.size w w' := by
  unfold Word at *
  go_enter Try.func15, Try.ntmps15
  go_wp2
  all_goals go_ret
  all_goals (refine ⟨?_, up1 _ _⟩; first | (have e : mayB f l r = true := decide_eq_true (by omega)); rw [e]; rfl | (have e : mayB f l r = false := decide_eq_false (by omega)); rw [e]; rfl | (have e : (f == 0) = mayB f l r := beqB (fun h => decide_eq_true (by omega)) (fun h => decide_eq_false (by omega))); rw [← e]; rfl | (have e : (f != r) = mayB f l r := bneB (fun h => decide_eq_false (by omega)) (fun h => decide_eq_true (by omega))); rw [← e]; rfl)
end Go.Proofs.Ytbgccdjkofpiaaa
