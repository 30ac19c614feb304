/- Plain arithmetic of products: the four products of halves, each put where it belongs. No condition. -/
import Derived.Test.YtbgccdjkofpiaaaMath
namespace Go.Proofs.Ytbgccdjkofpiaaa.W
set_option linter.unusedVariables false

theorem split4 (x y z t : Int) : (4294967296 * x + y) * (4294967296 * z + t) = x * z * 18446744073709551616 + x * t * 4294967296 + y * z * 4294967296 + y * t := by
  have e1 : (4294967296 * x + y) * (4294967296 * z + t) = 4294967296 * x * (4294967296 * z) + 4294967296 * x * t + (y * (4294967296 * z) + y * t) := by
    rw [Int.add_mul, Int.mul_add, Int.mul_add]
  have e2 : 4294967296 * x * (4294967296 * z) = x * z * 18446744073709551616 := by
    rw [Int.mul_assoc, Int.mul_left_comm x, ← Int.mul_assoc]; omega
  have e3 : 4294967296 * x * t = x * t * 4294967296 := by rw [Int.mul_assoc]; omega
  have e4 : y * (4294967296 * z) = y * z * 4294967296 := by rw [Int.mul_left_comm]; omega
  omega
theorem mul_split (a b : Int) : a * b = a / 4294967296 * (b / 4294967296) * 18446744073709551616 + a / 4294967296 * (b % 4294967296) * 4294967296 + a % 4294967296 * (b / 4294967296) * 4294967296 + a % 4294967296 * (b % 4294967296) := by
  have h := split4 (a / 4294967296) (a % 4294967296) (b / 4294967296) (b % 4294967296)
  rwa [Int.mul_ediv_add_emod, Int.mul_ediv_add_emod] at h

/-- A product of two halves. -/
theorem half_mul {x y : Int} (hx : 0 ≤ x ∧ x ≤ 4294967295) (hy : 0 ≤ y ∧ y ≤ 4294967295) : 0 ≤ x * y ∧ x * y ≤ 18446744065119617025 := by
  refine ⟨Int.mul_nonneg hx.1 hy.1, ?_⟩
  have := Int.mul_le_mul hx.2 hy.2 hy.1 (by omega)
  omega
theorem word_mul {x y : Int} (hx : Word x) (hy : Word y) : 0 ≤ x * y ∧ x * y ≤ 340282366920938463426481119284349108225 := by
  unfold Word at hx hy
  refine ⟨Int.mul_nonneg hx.1 hy.1, ?_⟩
  have := Int.mul_le_mul (c := 18446744073709551615) (d := 18446744073709551615) (show x ≤ _ by omega) (show y ≤ _ by omega) hy.1 (by omega)
  omega
theorem xH_word {a b : Int} (ha : Word a) (hb : Word b) : Word (xH a b) := by
  have := word_mul ha hb
  unfold xH Word; omega
theorem xL_word (a b : Int) : Word (xL a b) := by unfold xL Word; omega
theorem V_x (a b : Int) : V (xH a b) (xL a b) = a * b := by unfold V xH xL; omega
end Go.Proofs.Ytbgccdjkofpiaaa.W
