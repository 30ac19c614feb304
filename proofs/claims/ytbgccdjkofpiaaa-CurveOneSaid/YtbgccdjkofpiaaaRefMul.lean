/- What the document's own Mul and Fraction answer. No condition but that words are words. -/
import Derived.Test.YtbgccdjkofpiaaaMathB
import Derived.Test.YtbgccdjkofpiaaaRef
namespace Go.Proofs.Ytbgccdjkofpiaaa
open Go.RowKit W
set_option linter.unusedVariables false
theorem rMul_any (a b : Int) (w : World) (ha : Word a) (hb : Word b) :
    Calls Try.prog 49 #[.int .u64 a, .int .u64 b] w fun e w' => e = .returned (.agg #[.int .u64 (xH a b), .int .u64 (xL a b)]) ∧ Below w.heap.size w w' := by
  have hs := mul_split a b
  have hw := word_mul ha hb
  unfold Word at ha hb
  obtain ⟨a0, a1⟩ := ha; obtain ⟨b0, b1⟩ := hb
  obtain ⟨p0, q0⟩ := @half_mul (a % 4294967296) (b % 4294967296) (by omega) (by omega)
  obtain ⟨p1, q1⟩ := @half_mul (a / 4294967296) (b % 4294967296) (by omega) (by omega)
  obtain ⟨p2, q2⟩ := @half_mul (a % 4294967296) (b / 4294967296) (by omega) (by omega)
  obtain ⟨p3, q3⟩ := @half_mul (a / 4294967296) (b / 4294967296) (by omega) (by omega)
  have hh : a / 4294967296 * (b / 4294967296) + a / 4294967296 * (b % 4294967296) / 4294967296 + a % 4294967296 * (b / 4294967296) / 4294967296 + (a % 4294967296 * (b % 4294967296) / 4294967296 + a / 4294967296 * (b % 4294967296) % 4294967296 + a % 4294967296 * (b / 4294967296) % 4294967296) / 4294967296 ≤ 18446744073709551615 := by omega
  have eH : xH a b = a / 4294967296 * (b / 4294967296) + a / 4294967296 * (b % 4294967296) / 4294967296 + a % 4294967296 * (b / 4294967296) / 4294967296 + (a % 4294967296 * (b % 4294967296) / 4294967296 + a / 4294967296 * (b % 4294967296) % 4294967296 + a % 4294967296 * (b / 4294967296) % 4294967296) / 4294967296 := by unfold xH; omega
  have eL : xL a b = (a % 4294967296 * (b % 4294967296) / 4294967296 + a / 4294967296 * (b % 4294967296) % 4294967296 + a % 4294967296 * (b / 4294967296)) % 4294967296 * 4294967296 + a % 4294967296 * (b % 4294967296) % 4294967296 := by unfold xL; omega
  rw [eH, eL]
  clear eH eL hs hw
  go_enter Try.func49, Try.ntmps49
  go_wp2
  exact bodyPost_ret (v := .agg #[.int .u64 (a / 4294967296 * (b / 4294967296) + a / 4294967296 * (b % 4294967296) / 4294967296 + a % 4294967296 * (b / 4294967296) / 4294967296 + (a % 4294967296 * (b % 4294967296) / 4294967296 + a / 4294967296 * (b % 4294967296) % 4294967296 + a % 4294967296 * (b / 4294967296) % 4294967296) / 4294967296), .int .u64 ((a % 4294967296 * (b % 4294967296) / 4294967296 + a / 4294967296 * (b % 4294967296) % 4294967296 + a % 4294967296 * (b / 4294967296)) % 4294967296 * 4294967296 + a % 4294967296 * (b % 4294967296) % 4294967296)]) (by simp [results, Try.results49, go_sem]) rfl ⟨rfl, up1 _ _⟩

end Go.Proofs.Ytbgccdjkofpiaaa
