/- What the calls Plus and Minus answer, the program's own and the document's. No condition but that words are words. -/
import Derived.Test.YtiieehnfbemleaaCmp
import Derived.Laws.Externs
import Derived.RowKit3
namespace Go.Proofs.Ytiieehnfbemleaa
open Go.RowKit W
set_option linter.unusedVariables false

theorem sub64n (x y b : Nat) (hb : b ≤ 1) (w : World) :
    (callFunc 49 #[.int .u64 x, .int .u64 y, .int .u64 b]).run Try.prog w =
      .ok (.value (.tuple #[.int .u64 (((x + 18446744073709551616 - y - b) % 18446744073709551616 : Nat) : Int), .int .u64 ((if x < y + b then 1 else 0 : Nat) : Int)])) w := by
  rw [run_callFunc_extern (f := 49) (fn := Try.f49) (by kernel_rfl) (by kernel_rfl) (by kernel_rfl) (by kernel_rfl) (e := fun args => do
    let (x, y, b) ← Extern.MathBitsCarry.three "Sub64" args
    pure (Extern.MathBitsCarry.pair ((x + Extern.MathBitsCarry.m64 - y - b) % Extern.MathBitsCarry.m64) (if x < y + b then 1 else 0))) (by kernel_rfl)]
  have : b = 0 ∨ b = 1 := by omega
  rcases this with rfl | rfl <;> rfl
theorem add64n (x y c : Nat) (hc : c ≤ 1) (w : World) :
    (callFunc 34 #[.int .u64 x, .int .u64 y, .int .u64 c]).run Try.prog w =
      .ok (.value (.tuple #[.int .u64 (((x + y + c) % 18446744073709551616 : Nat) : Int), .int .u64 (((x + y + c) / 18446744073709551616 : Nat) : Int)])) w := by
  rw [run_callFunc_extern (f := 34) (fn := Try.f34) (by kernel_rfl) (by kernel_rfl) (by kernel_rfl) (by kernel_rfl) (e := fun args => do
    let (x, y, c) ← Extern.MathBitsCarry.three "Add64" args
    pure (Extern.MathBitsCarry.pair ((x + y + c) % Extern.MathBitsCarry.m64) ((x + y + c) / Extern.MathBitsCarry.m64))) (by kernel_rfl)]
  have : c = 0 ∨ c = 1 := by omega
  rcases this with rfl | rfl <;> rfl

theorem add64 (x y c : Int) (hx : 0 ≤ x) (hy : 0 ≤ y) (hc0 : 0 ≤ c) (hc : c ≤ 1) (w : World) : (callFunc 34 #[.int .u64 x, .int .u64 y, .int .u64 c]).run Try.prog w =
    .ok (.value (.tuple #[.int .u64 ((x + y + c) % 18446744073709551616), .int .u64 ((x + y + c) / 18446744073709551616)])) w := by
  obtain ⟨x, rfl⟩ := Int.eq_ofNat_of_zero_le hx
  obtain ⟨y, rfl⟩ := Int.eq_ofNat_of_zero_le hy
  obtain ⟨c, rfl⟩ := Int.eq_ofNat_of_zero_le hc0
  refine (add64n x y c (by omega) w).trans ?_
  congr 5 <;> omega
theorem sub64 (x y b : Int) (hx : 0 ≤ x) (hy : 0 ≤ y) (hy' : y < 18446744073709551616) (hb0 : 0 ≤ b) (hb : b ≤ 1) (w : World) : (callFunc 49 #[.int .u64 x, .int .u64 y, .int .u64 b]).run Try.prog w =
    .ok (.value (.tuple #[.int .u64 ((x - y - b) % 18446744073709551616), .int .u64 (bor x (y + b))])) w := by
  unfold bor
  obtain ⟨x, rfl⟩ := Int.eq_ofNat_of_zero_le hx
  obtain ⟨y, rfl⟩ := Int.eq_ofNat_of_zero_le hy
  obtain ⟨b, rfl⟩ := Int.eq_ofNat_of_zero_le hb0
  have e1 : (((x + 18446744073709551616 - y - b) % 18446744073709551616 : Nat) : Int) = ((x : Int) - y - b) % 18446744073709551616 := by omega
  have e2 : ((if x < y + b then 1 else 0 : Nat) : Int) = if (x : Int) < y + b then 1 else 0 := by split <;> split <;> omega
  rw [← e1, ← e2]
  exact sub64n x y b (by omega) w
theorem add64_0 (x y : Int) (hx : 0 ≤ x) (hy : 0 ≤ y) (w : World) : (callFunc 34 #[.int .u64 x, .int .u64 y, .int .u64 0]).run Try.prog w =
    .ok (.value (.tuple #[.int .u64 ((x + y) % 18446744073709551616), .int .u64 ((x + y) / 18446744073709551616)])) w := by
  simpa using add64 x y 0 hx hy (Int.le_refl 0) (by decide) w
theorem sub64_0 (x y : Int) (hx : 0 ≤ x) (hy : 0 ≤ y) (hy' : y < 18446744073709551616) (w : World) : (callFunc 49 #[.int .u64 x, .int .u64 y, .int .u64 0]).run Try.prog w =
    .ok (.value (.tuple #[.int .u64 ((x - y) % 18446744073709551616), .int .u64 (bor x y)])) w := by
  simpa using sub64 x y 0 hx hy hy' (Int.le_refl 0) (by decide) w

theorem Plus_any (a b c d : Int) (w : World) (ha : Word a) (hb : Word b) (hc : Word c) (hd : Word d) :
    Calls Try.prog 13 #[.agg #[.int .u64 a, .int .u64 b], .agg #[.int .u64 c, .int .u64 d]] w fun e w' =>
      e = .returned (.tuple #[.agg #[.int .u64 (pH a b c d), .int .u64 (pL a b c d)], .int .i64 (pE a b c d)]) ∧ Below w.heap.size w w' := by
  have k0 : 0 ≤ (b + d) / 18446744073709551616 := by unfold Word at *; omega
  have k1 : (b + d) / 18446744073709551616 ≤ 1 := by unfold Word at *; omega
  have h0 := add64_0 b d hb.1 hd.1
  have h1 := add64 a c _ ha.1 hc.1 k0 k1
  by_cases h : (a + c + (b + d) / 18446744073709551616) / 18446744073709551616 = 0
  · obtain ⟨e1, e2, e3⟩ := plus_ok ha hb hc hd h
    rw [e1, e2, e3]
    clear e1 e2 e3
    go_enter Try.func13, Try.ntmps13
    go_wp2_with (first | simp only [h0] | simp only [h1])
    exact bodyPost_ret (v := .tuple #[.agg #[.int .u64 ((a + c + (b + d) / 18446744073709551616) % 18446744073709551616), .int .u64 ((b + d) % 18446744073709551616)], .int .i64 0]) (by simp [results, Try.results13, go_sem]) rfl ⟨rfl, up3 _ _ _ _⟩
  · obtain ⟨e1, e2, e3⟩ := plus_no ha hb hc hd h
    rw [e1, e2, e3]
    clear e1 e2 e3
    go_enter Try.func13, Try.ntmps13
    go_wp2_with (first | simp only [h0] | simp only [h1])
    exact bodyPost_ret (v := .tuple #[.agg #[.int .u64 0, .int .u64 0], .int .i64 10]) (by simp [results, Try.results13, go_sem]) rfl ⟨rfl, up3 _ _ _ _⟩

theorem Minus_any (a b c d : Int) (w : World) (ha : Word a) (hb : Word b) (hc : Word c) (hd : Word d) :
    Calls Try.prog 32 #[.agg #[.int .u64 a, .int .u64 b], .agg #[.int .u64 c, .int .u64 d]] w fun e w' =>
      e = .returned (.tuple #[.agg #[.int .u64 (mH a b c d), .int .u64 (mL a b c d)], .int .i64 (mE a b c d)]) ∧ Below w.heap.size w w' := by
  have h0 := sub64_0 b d hb.1 hd.1 hd.2
  have h1 := sub64 a c _ ha.1 hc.1 hc.2 (bor_lo b d) (bor_hi b d)
  by_cases h : bor a (c + bor b d) = 0
  · obtain ⟨e1, e2, e3⟩ := minus_ok hb hd h
    have e4 := minus_hi ha hc h
    rw [e1, e2, e3, ← e4]
    clear e1 e2 e3 e4
    go_enter Try.func32, Try.ntmps32
    go_wp2_with (first | simp only [h0] | simp only [h1])
    exact bodyPost_ret (v := .tuple #[.agg #[.int .u64 ((a - c - bor b d) % 18446744073709551616), .int .u64 ((b - d) % 18446744073709551616)], .int .i64 0]) (by simp [results, Try.results32, go_sem]) rfl ⟨rfl, up3 _ _ _ _⟩
  · obtain ⟨e1, e2, e3⟩ := minus_no hb hd h
    rw [e1, e2, e3]
    clear e1 e2 e3
    go_enter Try.func32, Try.ntmps32
    go_wp2_with (first | simp only [h0] | simp only [h1])
    exact bodyPost_ret (v := .tuple #[.agg #[.int .u64 0, .int .u64 0], .int .i64 10]) (by simp [results, Try.results32, go_sem]) rfl ⟨rfl, up3 _ _ _ _⟩

end Go.Proofs.Ytiieehnfbemleaa
