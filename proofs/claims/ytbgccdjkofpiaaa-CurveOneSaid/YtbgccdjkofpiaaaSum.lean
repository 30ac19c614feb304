/- What the calls Plus and Minus answer, the program's own and the document's. No condition but that words are words. -/
import Derived.Test.YtbgccdjkofpiaaaCmp
import Derived.Laws.Externs
import Derived.RowKit3
namespace Go.Proofs.Ytbgccdjkofpiaaa
open Go.RowKit W
set_option linter.unusedVariables false

theorem add64n (x y c : Nat) (hc : c ≤ 1) (w : World) :
    (callFunc 57 #[.int .u64 x, .int .u64 y, .int .u64 c]).run Try.prog w =
      .ok (.value (.tuple #[.int .u64 (((x + y + c) % 18446744073709551616 : Nat) : Int), .int .u64 (((x + y + c) / 18446744073709551616 : Nat) : Int)])) w := by
  rw [run_callFunc_extern (f := 57) (fn := Try.f57) (by kernel_rfl) (by kernel_rfl) (by kernel_rfl) (by kernel_rfl) (e := fun args => do
    let (x, y, c) ← Extern.MathBitsCarry.three "Add64" args
    pure (Extern.MathBitsCarry.pair ((x + y + c) % Extern.MathBitsCarry.m64) ((x + y + c) / Extern.MathBitsCarry.m64))) (by kernel_rfl)]
  have : c = 0 ∨ c = 1 := by omega
  rcases this with rfl | rfl <;> rfl

theorem add64 (x y c : Int) (hx : 0 ≤ x) (hy : 0 ≤ y) (hc0 : 0 ≤ c) (hc : c ≤ 1) (w : World) : (callFunc 57 #[.int .u64 x, .int .u64 y, .int .u64 c]).run Try.prog w =
    .ok (.value (.tuple #[.int .u64 ((x + y + c) % 18446744073709551616), .int .u64 ((x + y + c) / 18446744073709551616)])) w := by
  obtain ⟨x, rfl⟩ := Int.eq_ofNat_of_zero_le hx
  obtain ⟨y, rfl⟩ := Int.eq_ofNat_of_zero_le hy
  obtain ⟨c, rfl⟩ := Int.eq_ofNat_of_zero_le hc0
  refine (add64n x y c (by omega) w).trans ?_
  congr 5 <;> omega
theorem add64_0 (x y : Int) (hx : 0 ≤ x) (hy : 0 ≤ y) (w : World) : (callFunc 57 #[.int .u64 x, .int .u64 y, .int .u64 0]).run Try.prog w =
    .ok (.value (.tuple #[.int .u64 ((x + y) % 18446744073709551616), .int .u64 ((x + y) / 18446744073709551616)])) w := by
  simpa using add64 x y 0 hx hy (Int.le_refl 0) (by decide) w

theorem Plus_any (a b c d : Int) (w : World) (ha : Word a) (hb : Word b) (hc : Word c) (hd : Word d) :
    Calls Try.prog 45 #[.agg #[.int .u64 a, .int .u64 b], .agg #[.int .u64 c, .int .u64 d]] w fun e w' =>
      e = .returned (.tuple #[.agg #[.int .u64 (pH a b c d), .int .u64 (pL a b c d)], .int .i64 (pE a b c d)]) ∧ Below w.heap.size w w' := by
  have k0 : 0 ≤ (b + d) / 18446744073709551616 := by unfold Word at *; omega
  have k1 : (b + d) / 18446744073709551616 ≤ 1 := by unfold Word at *; omega
  have h0 := add64_0 b d hb.1 hd.1
  have h1 := add64 a c _ ha.1 hc.1 k0 k1
  by_cases h : (a + c + (b + d) / 18446744073709551616) / 18446744073709551616 = 0
  · obtain ⟨e1, e2, e3⟩ := plus_ok ha hb hc hd h
    rw [e1, e2, e3]
    clear e1 e2 e3
    go_enter Try.func45, Try.ntmps45
    go_wp2_with (first | simp only [h0] | simp only [h1])
    exact bodyPost_ret (v := .tuple #[.agg #[.int .u64 ((a + c + (b + d) / 18446744073709551616) % 18446744073709551616), .int .u64 ((b + d) % 18446744073709551616)], .int .i64 0]) (by simp [results, Try.results45, go_sem]) rfl ⟨rfl, up3 _ _ _ _⟩
  · obtain ⟨e1, e2, e3⟩ := plus_no ha hb hc hd h
    rw [e1, e2, e3]
    clear e1 e2 e3
    go_enter Try.func45, Try.ntmps45
    go_wp2_with (first | simp only [h0] | simp only [h1])
    exact bodyPost_ret (v := .tuple #[.agg #[.int .u64 0, .int .u64 0], .int .i64 10]) (by simp [results, Try.results45, go_sem]) rfl ⟨rfl, up3 _ _ _ _⟩


end Go.Proofs.Ytbgccdjkofpiaaa
