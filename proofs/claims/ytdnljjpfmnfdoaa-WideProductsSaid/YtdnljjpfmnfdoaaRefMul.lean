/- What the document's own Mul and Fraction answer. No condition but that words are words. -/
import Derived.Test.YtdnljjpfmnfdoaaMathB
import Derived.Test.YtdnljjpfmnfdoaaRef
namespace Go.Proofs.Ytdnljjpfmnfdoaa
open Go.RowKit W
set_option linter.unusedVariables false
theorem rMul_any (a b : Int) (w : World) (ha : Word a) (hb : Word b) :
    Calls Try.prog 21 #[.int .u64 a, .int .u64 b] w fun e w' => e = .returned (.agg #[.int .u64 (xH a b), .int .u64 (xL a b)]) ∧ Below w.heap.size w w' := by
  have hs := mul_split a b
  have hw := word_mul ha hb
  unfold Word at ha hb
  obtain ⟨a0, a1⟩ := ha; obtain ⟨b0, b1⟩ := hb
  obtain ⟨p0, q0⟩ := @half_mul (a % 4294967296) (b % 4294967296) (by omega) (by omega)
  obtain ⟨p1, q1⟩ := @half_mul (a / 4294967296) (b % 4294967296) (by omega) (by omega)
  obtain ⟨p2, q2⟩ := @half_mul (a % 4294967296) (b / 4294967296) (by omega) (by omega)
  obtain ⟨p3, q3⟩ := @half_mul (a / 4294967296) (b / 4294967296) (by omega) (by omega)
  have hh : a / 4294967296 * (b / 4294967296) + a / 4294967296 * (b % 4294967296) / 4294967296 + a % 4294967296 * (b / 4294967296) / 4294967296 + (a % 4294967296 * (b % 4294967296) / 4294967296 + a / 4294967296 * (b % 4294967296) % 4294967296 + a % 4294967296 * (b / 4294967296) % 4294967296) / 4294967296 ≤ 18446744073709551615 := by omega
  have eH : xH a b = a / 4294967296 * (b / 4294967296) + a / 4294967296 * (b % 4294967296) / 4294967296 + a % 4294967296 * (b / 4294967296) / 4294967296 + (a % 4294967296 * (b % 4294967296) / 4294967296 + a / 4294967296 * (b % 4294967296) % 4294967296 + a % 4294967296 * (b / 4294967296) % 4294967296) / 4294967296 := by unfold xH; omega
  have eL : xL a b = (a % 4294967296 * (b % 4294967296) / 4294967296 + a / 4294967296 * (b % 4294967296) % 4294967296 + a % 4294967296 * (b / 4294967296)) % 4294967296 * 4294967296 + a % 4294967296 * (b % 4294967296) % 4294967296 := by unfold xL; omega
  rw [eH, eL]
  clear eH eL hs hw
  go_enter Try.func21, Try.ntmps21
  go_wp2
  exact bodyPost_ret (v := .agg #[.int .u64 (a / 4294967296 * (b / 4294967296) + a / 4294967296 * (b % 4294967296) / 4294967296 + a % 4294967296 * (b / 4294967296) / 4294967296 + (a % 4294967296 * (b % 4294967296) / 4294967296 + a / 4294967296 * (b % 4294967296) % 4294967296 + a % 4294967296 * (b / 4294967296) % 4294967296) / 4294967296), .int .u64 ((a % 4294967296 * (b % 4294967296) / 4294967296 + a / 4294967296 * (b % 4294967296) % 4294967296 + a % 4294967296 * (b / 4294967296)) % 4294967296 * 4294967296 + a % 4294967296 * (b % 4294967296) % 4294967296)]) (by simp [results, Try.results21, go_sem]) rfl ⟨rfl, up1 _ _⟩

theorem rFraction_any (a b c d : Int) (w : World) (ha : Word a) (hb : Word b) (hc : Word c) (hd : Word d) :
    Calls Try.prog 23 #[.int .u64 a, .int .u64 b, .int .u64 c, .int .u64 d] w fun e w' => e = .returned (.int .i64 (cmpN (a * d) (c * b))) ∧ Below w.heap.size w w' := by
  have h1 := xL_word a d
  have h2 := xL_word c b
  have e : cmpN (a * d) (c * b) = cmpW (xH a d) (xL a d) (xH c b) (xL c b) := by unfold cmpW; rw [V_x, V_x]
  rw [e]
  clear e
  go_enter Try.func23, Try.ntmps23
  go_wp2_with (first
    | (go_at_call 21; (with_reducible refine (rMul_any a d _ ha hd).mono ?_); rintro e w1 ⟨rfl, hb1⟩)
    | (go_at_call 21; (with_reducible refine (rMul_any c b _ hc hb).mono ?_); rintro e w2 ⟨rfl, hb2⟩)
    | (go_at_call 17; (with_reducible refine (rCmp_any _ _ _ _ _ h1 h2).mono ?_); rintro e w3 ⟨rfl, hb3⟩))
  go_ret
  exact ⟨rfl, (hb1.trans (hb2.mono hb1.size)).trans (hb3.mono (Nat.le_trans hb1.size hb2.size))⟩
end Go.Proofs.Ytdnljjpfmnfdoaa
