/- Plain arithmetic of numbers of 128 bits, written as a high and a low word: what sums, differences, products, quotients and comparisons are. No condition. What the calls Cmp and cmp.Compare answer: -1, 0, 1. No condition but that words are words. What the calls Plus and Minus answer, the program's own and the document's. No condition but that words are words. What the calls Plus, Minus and Cmp of the document's own answer. No condition but that words are words. Plain arithmetic of products: the four products of halves, each put where it belongs. No condition. What the document's own Mul and Fraction answer. No condition but that words are words. What the program's own Mul and Fraction answer. No condition but that words are words. -/
import Derived.Test.YtjbpaapglamilaaChecked
import Derived.WalkKit
import Derived.ProofKit
import Derived.Below
import Derived.Outline
import Derived.Lib.Hide
import Derived.Laws.Externs
import Derived.RowKit3
import Derived.Laws.Bits64b
import Derived.BigQuiet
import Derived.Deep.QuietTactic
import Derived.WalkSmall
namespace Go.Proofs.Ytjbpaapglamilaa.W
set_option linter.unusedVariables false

/-- A word. -/
def Word (x : Int) : Prop := 0 ≤ x ∧ x < 18446744073709551616

/-- The number that a high and a low word make. -/
def V (h l : Int) : Int := h * 18446744073709551616 + l

def pE (a b c d : Int) : Int := if V a b + V c d < 340282366920938463463374607431768211456 then 0 else 10
def pH (a b c d : Int) : Int := if V a b + V c d < 340282366920938463463374607431768211456 then (V a b + V c d) / 18446744073709551616 else 0
def pL (a b c d : Int) : Int := if V a b + V c d < 340282366920938463463374607431768211456 then (V a b + V c d) % 18446744073709551616 else 0

def mE (a b c d : Int) : Int := if V c d ≤ V a b then 0 else 10
def mH (a b c d : Int) : Int := if V c d ≤ V a b then (V a b - V c d) / 18446744073709551616 else 0
def mL (a b c d : Int) : Int := if V c d ≤ V a b then (V a b - V c d) % 18446744073709551616 else 0

def cmpN (x y : Int) : Int := if x < y then -1 else if x = y then 0 else 1
def cmpW (a b c d : Int) : Int := cmpN (V a b) (V c d)

def dE (h n : Int) : Int := if n = 0 then 2 else if n ≤ h then 10 else 0
def dQ (h l n : Int) : Int := if n = 0 then 0 else if n ≤ h then 0 else V h l / n
def dR (h l n : Int) : Int := if n = 0 then 0 else if n ≤ h then 0 else V h l % n

def xH (a b : Int) : Int := a * b / 18446744073709551616
def xL (a b : Int) : Int := a * b % 18446744073709551616

theorem cmpN_lt {x y : Int} (h : x < y) : cmpN x y = -1 := by unfold cmpN; rw [if_pos h]
theorem cmpN_eq {x y : Int} (h : x = y) : cmpN x y = 0 := by unfold cmpN; rw [if_neg (by omega), if_pos h]
theorem cmpN_gt {x y : Int} (h : y < x) : cmpN x y = 1 := by unfold cmpN; rw [if_neg (by omega), if_neg (by omega)]
theorem cmpW_hi {a b c d : Int} (hb : Word b) (hd : Word d) (h : a ≠ c) : cmpW a b c d = cmpN a c := by
  unfold cmpW V
  unfold Word at hb hd
  rcases Int.lt_or_gt_of_ne h with h | h
  · rw [cmpN_lt h, cmpN_lt (by omega)]
  · rw [cmpN_gt h, cmpN_gt (by omega)]
theorem cmpW_lo {a b d : Int} : cmpW a b a d = cmpN b d := by
  unfold cmpW V
  rcases Int.lt_trichotomy b d with h | h | h
  · rw [cmpN_lt h, cmpN_lt (by omega)]
  · rw [cmpN_eq h, cmpN_eq (by omega)]
  · rw [cmpN_gt h, cmpN_gt (by omega)]

/-- A borrow, under a name. -/
def bor (x y : Int) : Int := if x < y then 1 else 0
theorem bor_lo (x y : Int) : 0 ≤ bor x y := by unfold bor; split <;> omega
theorem bor_hi (x y : Int) : bor x y ≤ 1 := by unfold bor; split <;> omega

theorem plus_ok {a b c d : Int} (ha : Word a) (hb : Word b) (hc : Word c) (hd : Word d) (h : (a + c + (b + d) / 18446744073709551616) / 18446744073709551616 = 0) :
    pE a b c d = 0 ∧ pH a b c d = (a + c + (b + d) / 18446744073709551616) % 18446744073709551616 ∧ pL a b c d = (b + d) % 18446744073709551616 := by
  unfold Word at ha hb hc hd
  unfold pE pH pL V
  rw [if_pos (by omega), if_pos (by omega), if_pos (by omega)]
  refine ⟨rfl, by omega, by omega⟩
theorem plus_no {a b c d : Int} (ha : Word a) (hb : Word b) (hc : Word c) (hd : Word d) (h : ¬ (a + c + (b + d) / 18446744073709551616) / 18446744073709551616 = 0) :
    pE a b c d = 10 ∧ pH a b c d = 0 ∧ pL a b c d = 0 := by
  unfold Word at ha hb hc hd
  unfold pE pH pL V
  rw [if_neg (by omega), if_neg (by omega), if_neg (by omega)]
  exact ⟨rfl, rfl, rfl⟩
theorem bor_or (x y : Int) : (x < y ∧ bor x y = 1) ∨ (y ≤ x ∧ bor x y = 0) := by
  unfold bor; split <;> omega
theorem minus_ok {a b c d : Int} (hb : Word b) (hd : Word d) (h : bor a (c + bor b d) = 0) :
    mE a b c d = 0 ∧ mH a b c d = (a - c - bor b d) ∧ mL a b c d = (b - d) % 18446744073709551616 := by
  unfold Word at hb hd
  unfold mE mH mL V
  have h1 := bor_or a (c + bor b d)
  have h2 := bor_or b d
  rw [if_pos (by omega), if_pos (by omega), if_pos (by omega)]
  exact ⟨rfl, by omega, by omega⟩
theorem minus_no {a b c d : Int} (hb : Word b) (hd : Word d) (h : ¬ bor a (c + bor b d) = 0) :
    mE a b c d = 10 ∧ mH a b c d = 0 ∧ mL a b c d = 0 := by
  unfold Word at hb hd
  unfold mE mH mL V
  have h1 := bor_or a (c + bor b d)
  have h2 := bor_or b d
  rw [if_neg (by omega), if_neg (by omega), if_neg (by omega)]
  exact ⟨rfl, rfl, rfl⟩
theorem minus_hi {a b c d : Int} (ha : Word a) (hc : Word c) (h : bor a (c + bor b d) = 0) : (a - c - bor b d) % 18446744073709551616 = a - c - bor b d := by
  unfold Word at ha hc
  have h1 := bor_or a (c + bor b d)
  have h2 := bor_or b d
  omega
theorem pOk {a b c d h l : Int} (e : V a b + V c d = V h l) (hl : Word l) (hh : Word h) : pE a b c d = 0 ∧ pH a b c d = h ∧ pL a b c d = l := by
  unfold Word at hl hh
  unfold V at e
  unfold pE pH pL V
  rw [if_pos (by omega), if_pos (by omega), if_pos (by omega)]
  exact ⟨rfl, by omega, by omega⟩
theorem pNo {a b c d : Int} (e : 340282366920938463463374607431768211456 ≤ V a b + V c d) : pE a b c d = 10 ∧ pH a b c d = 0 ∧ pL a b c d = 0 := by
  unfold pE pH pL
  rw [if_neg (by omega), if_neg (by omega), if_neg (by omega)]
  exact ⟨rfl, rfl, rfl⟩
theorem mOk {a b c d h l : Int} (e : V a b - V c d = V h l) (hl : Word l) (hh : Word h) : mE a b c d = 0 ∧ mH a b c d = h ∧ mL a b c d = l := by
  unfold Word at hl hh
  unfold V at e
  unfold mE mH mL V
  rw [if_pos (by omega), if_pos (by omega), if_pos (by omega)]
  exact ⟨rfl, by omega, by omega⟩
theorem mNo {a b c d : Int} (e : V a b < V c d) : mE a b c d = 10 ∧ mH a b c d = 0 ∧ mL a b c d = 0 := by
  unfold mE mH mL
  rw [if_neg (by omega), if_neg (by omega), if_neg (by omega)]
  exact ⟨rfl, rfl, rfl⟩
theorem cmpW_lt {a b c d : Int} (h : V a b < V c d) : cmpW a b c d = -1 := cmpN_lt h
theorem cmpW_gt {a b c d : Int} (h : V c d < V a b) : cmpW a b c d = 1 := cmpN_gt h
theorem cmpW_eq {a b c d : Int} (h : V c d = V a b) : cmpW a b c d = 0 := cmpN_eq h.symm
theorem V_lt {a b c d : Int} (hb : Word b) (hd : Word d) (h : a < c ∨ a = c ∧ b < d) : V a b < V c d := by
  unfold Word at hb hd; unfold V; omega
end Go.Proofs.Ytjbpaapglamilaa.W
namespace Go.Proofs.Ytjbpaapglamilaa
open Go.RowKit W
set_option linter.unusedVariables false

theorem up1 (w : World) (o1 : Obj) : Below w.heap.size w (w.alloc o1) := (Below.refl _ _).alloc (Nat.le_refl _) _
theorem up2 (w : World) (o1 o2 : Obj) : Below w.heap.size w ((w.alloc o1).alloc o2) := (up1 w o1).alloc (by simp) _
theorem up3 (w : World) (o1 o2 o3 : Obj) : Below w.heap.size w (((w.alloc o1).alloc o2).alloc o3) := (up2 w o1 o2).alloc (by simp; omega) _
theorem bcell {W w1 : World} (hb : Below W.heap.size W w1) : (∀ b o, b < W.heap.size → w1.cell? ⟨b, o, none⟩ = W.cell? ⟨b, o, none⟩) ∧ (∀ b o, b < W.heap.size → w1.frozen? ⟨b, o, none⟩ = W.frozen? ⟨b, o, none⟩) :=
  ⟨fun b o h => hb.cell (p := ⟨b, o, none⟩) h, fun b o h => hb.frozen (p := ⟨b, o, none⟩) h⟩

theorem isNaN_any (x : Int) (w : World) :
    Calls Try.prog 120 #[.int .u64 x] w fun e w' => e = .returned (.bool false) ∧ w = w' := by
  go_enter Try.func120, Try.ntmps120
  go_wp2
  go_ret
  exact ⟨rfl, rfl⟩


end Go.Proofs.Ytjbpaapglamilaa
namespace Go.Proofs.Ytjbpaapglamilaa
open Go.RowKit W
set_option linter.unusedVariables false

theorem sub64n (x y b : Nat) (hb : b ≤ 1) (w : World) :
    (callFunc 94 #[.int .u64 x, .int .u64 y, .int .u64 b]).run Try.prog w =
      .ok (.value (.tuple #[.int .u64 (((x + 18446744073709551616 - y - b) % 18446744073709551616 : Nat) : Int), .int .u64 ((if x < y + b then 1 else 0 : Nat) : Int)])) w := by
  rw [run_callFunc_extern (f := 94) (fn := Try.f94) (by kernel_rfl) (by kernel_rfl) (by kernel_rfl) (by kernel_rfl) (e := fun args => do
    let (x, y, b) ← Extern.MathBitsCarry.three "Sub64" args
    pure (Extern.MathBitsCarry.pair ((x + Extern.MathBitsCarry.m64 - y - b) % Extern.MathBitsCarry.m64) (if x < y + b then 1 else 0))) (by kernel_rfl)]
  have : b = 0 ∨ b = 1 := by omega
  rcases this with rfl | rfl <;> rfl
theorem add64n (x y c : Nat) (hc : c ≤ 1) (w : World) :
    (callFunc 105 #[.int .u64 x, .int .u64 y, .int .u64 c]).run Try.prog w =
      .ok (.value (.tuple #[.int .u64 (((x + y + c) % 18446744073709551616 : Nat) : Int), .int .u64 (((x + y + c) / 18446744073709551616 : Nat) : Int)])) w := by
  rw [run_callFunc_extern (f := 105) (fn := Try.f105) (by kernel_rfl) (by kernel_rfl) (by kernel_rfl) (by kernel_rfl) (e := fun args => do
    let (x, y, c) ← Extern.MathBitsCarry.three "Add64" args
    pure (Extern.MathBitsCarry.pair ((x + y + c) % Extern.MathBitsCarry.m64) ((x + y + c) / Extern.MathBitsCarry.m64))) (by kernel_rfl)]
  have : c = 0 ∨ c = 1 := by omega
  rcases this with rfl | rfl <;> rfl

theorem add64 (x y c : Int) (hx : 0 ≤ x) (hy : 0 ≤ y) (hc0 : 0 ≤ c) (hc : c ≤ 1) (w : World) : (callFunc 105 #[.int .u64 x, .int .u64 y, .int .u64 c]).run Try.prog w =
    .ok (.value (.tuple #[.int .u64 ((x + y + c) % 18446744073709551616), .int .u64 ((x + y + c) / 18446744073709551616)])) w := by
  obtain ⟨x, rfl⟩ := Int.eq_ofNat_of_zero_le hx
  obtain ⟨y, rfl⟩ := Int.eq_ofNat_of_zero_le hy
  obtain ⟨c, rfl⟩ := Int.eq_ofNat_of_zero_le hc0
  refine (add64n x y c (by omega) w).trans ?_
  congr 5 <;> omega
theorem sub64 (x y b : Int) (hx : 0 ≤ x) (hy : 0 ≤ y) (hy' : y < 18446744073709551616) (hb0 : 0 ≤ b) (hb : b ≤ 1) (w : World) : (callFunc 94 #[.int .u64 x, .int .u64 y, .int .u64 b]).run Try.prog w =
    .ok (.value (.tuple #[.int .u64 ((x - y - b) % 18446744073709551616), .int .u64 (bor x (y + b))])) w := by
  unfold bor
  obtain ⟨x, rfl⟩ := Int.eq_ofNat_of_zero_le hx
  obtain ⟨y, rfl⟩ := Int.eq_ofNat_of_zero_le hy
  obtain ⟨b, rfl⟩ := Int.eq_ofNat_of_zero_le hb0
  have e1 : (((x + 18446744073709551616 - y - b) % 18446744073709551616 : Nat) : Int) = ((x : Int) - y - b) % 18446744073709551616 := by omega
  have e2 : ((if x < y + b then 1 else 0 : Nat) : Int) = if (x : Int) < y + b then 1 else 0 := by split <;> split <;> omega
  rw [← e1, ← e2]
  exact sub64n x y b (by omega) w
theorem add64_0 (x y : Int) (hx : 0 ≤ x) (hy : 0 ≤ y) (w : World) : (callFunc 105 #[.int .u64 x, .int .u64 y, .int .u64 0]).run Try.prog w =
    .ok (.value (.tuple #[.int .u64 ((x + y) % 18446744073709551616), .int .u64 ((x + y) / 18446744073709551616)])) w := by
  simpa using add64 x y 0 hx hy (Int.le_refl 0) (by decide) w
theorem sub64_0 (x y : Int) (hx : 0 ≤ x) (hy : 0 ≤ y) (hy' : y < 18446744073709551616) (w : World) : (callFunc 94 #[.int .u64 x, .int .u64 y, .int .u64 0]).run Try.prog w =
    .ok (.value (.tuple #[.int .u64 ((x - y) % 18446744073709551616), .int .u64 (bor x y)])) w := by
  simpa using sub64 x y 0 hx hy hy' (Int.le_refl 0) (by decide) w

theorem Plus_any (a b c d : Int) (w : World) (ha : Word a) (hb : Word b) (hc : Word c) (hd : Word d) :
    Calls Try.prog 92 #[.agg #[.int .u64 a, .int .u64 b], .agg #[.int .u64 c, .int .u64 d]] w fun e w' =>
      e = .returned (.tuple #[.agg #[.int .u64 (pH a b c d), .int .u64 (pL a b c d)], .int .i64 (pE a b c d)]) ∧ Below w.heap.size w w' := by
  have k0 : 0 ≤ (b + d) / 18446744073709551616 := by unfold Word at *; omega
  have k1 : (b + d) / 18446744073709551616 ≤ 1 := by unfold Word at *; omega
  have h0 := add64_0 b d hb.1 hd.1
  have h1 := add64 a c _ ha.1 hc.1 k0 k1
  by_cases h : (a + c + (b + d) / 18446744073709551616) / 18446744073709551616 = 0
  · obtain ⟨e1, e2, e3⟩ := plus_ok ha hb hc hd h
    rw [e1, e2, e3]
    clear e1 e2 e3
    go_enter Try.func92, Try.ntmps92
    go_wp2_with (first | simp only [h0] | simp only [h1])
    exact bodyPost_ret (v := .tuple #[.agg #[.int .u64 ((a + c + (b + d) / 18446744073709551616) % 18446744073709551616), .int .u64 ((b + d) % 18446744073709551616)], .int .i64 0]) (by simp [results, Try.results92, go_sem]) rfl ⟨rfl, up3 _ _ _ _⟩
  · obtain ⟨e1, e2, e3⟩ := plus_no ha hb hc hd h
    rw [e1, e2, e3]
    clear e1 e2 e3
    go_enter Try.func92, Try.ntmps92
    go_wp2_with (first | simp only [h0] | simp only [h1])
    exact bodyPost_ret (v := .tuple #[.agg #[.int .u64 0, .int .u64 0], .int .i64 10]) (by simp [results, Try.results92, go_sem]) rfl ⟨rfl, up3 _ _ _ _⟩

theorem Minus_any (a b c d : Int) (w : World) (ha : Word a) (hb : Word b) (hc : Word c) (hd : Word d) :
    Calls Try.prog 73 #[.agg #[.int .u64 a, .int .u64 b], .agg #[.int .u64 c, .int .u64 d]] w fun e w' =>
      e = .returned (.tuple #[.agg #[.int .u64 (mH a b c d), .int .u64 (mL a b c d)], .int .i64 (mE a b c d)]) ∧ Below w.heap.size w w' := by
  have h0 := sub64_0 b d hb.1 hd.1 hd.2
  have h1 := sub64 a c _ ha.1 hc.1 hc.2 (bor_lo b d) (bor_hi b d)
  by_cases h : bor a (c + bor b d) = 0
  · obtain ⟨e1, e2, e3⟩ := minus_ok hb hd h
    have e4 := minus_hi ha hc h
    rw [e1, e2, e3, ← e4]
    clear e1 e2 e3 e4
    go_enter Try.func73, Try.ntmps73
    go_wp2_with (first | simp only [h0] | simp only [h1])
    exact bodyPost_ret (v := .tuple #[.agg #[.int .u64 ((a - c - bor b d) % 18446744073709551616), .int .u64 ((b - d) % 18446744073709551616)], .int .i64 0]) (by simp [results, Try.results73, go_sem]) rfl ⟨rfl, up3 _ _ _ _⟩
  · obtain ⟨e1, e2, e3⟩ := minus_no hb hd h
    rw [e1, e2, e3]
    clear e1 e2 e3
    go_enter Try.func73, Try.ntmps73
    go_wp2_with (first | simp only [h0] | simp only [h1])
    exact bodyPost_ret (v := .tuple #[.agg #[.int .u64 0, .int .u64 0], .int .i64 10]) (by simp [results, Try.results73, go_sem]) rfl ⟨rfl, up3 _ _ _ _⟩

end Go.Proofs.Ytjbpaapglamilaa
namespace Go.Proofs.Ytjbpaapglamilaa
open Go.RowKit W
set_option linter.unusedVariables false

theorem u64_over (n : Int) (h : 18446744073709551616 ≤ n ∧ n < 36893488147419103232) : IntKind.u64.wrap n = n - 18446744073709551616 := by
  simp [IntKind.wrap, IntKind.bits, IntKind.signed]; omega
theorem u64_under (n : Int) (h : -18446744073709551616 ≤ n ∧ n < 0) : IntKind.u64.wrap n = n + 18446744073709551616 := by
  simp [IntKind.wrap, IntKind.bits, IntKind.signed]; omega

theorem rPlus_any (a b c d : Int) (w : World) (ha : Word a) (hb : Word b) (hc : Word c) (hd : Word d) :
    Calls Try.prog 86 #[.agg #[.int .u64 a, .int .u64 b], .agg #[.int .u64 c, .int .u64 d]] w fun e w' =>
      e = .returned (.tuple #[.agg #[.int .u64 (pH a b c d), .int .u64 (pL a b c d)], .int .i64 (pE a b c d)]) ∧ Below w.heap.size w w' := by
  unfold Word at ha hb hc hd
  obtain ⟨a0, a1⟩ := ha; obtain ⟨b0, b1⟩ := hb; obtain ⟨c0, c1⟩ := hc; obtain ⟨d0, d1⟩ := hd
  by_cases s1 : b + d < 18446744073709551616
  · by_cases s2 : a + c < 18446744073709551616
    · obtain ⟨e1, e2, e3⟩ := @pOk a b c d (a + c) (b + d) (by unfold V; omega) (by unfold Word; omega) (by unfold Word; omega)
      rw [e1, e2, e3]
      clear e1 e2 e3
      go_enter Try.func86, Try.ntmps86
      go_wp2
      exact bodyPost_ret (v := .tuple #[.agg #[.int .u64 (a + c), .int .u64 (b + d)], .int .i64 0]) (by simp [results, Try.results86, go_sem]) rfl ⟨rfl, up3 _ _ _ _⟩
    · obtain ⟨e1, e2, e3⟩ := @pNo a b c d (by unfold V; omega)
      rw [e1, e2, e3]
      clear e1 e2 e3
      have w1 := u64_over (a + c) (by omega)
      go_enter Try.func86, Try.ntmps86
      go_wp2
      exact bodyPost_ret (v := .tuple #[.agg #[.int .u64 0, .int .u64 0], .int .i64 10]) (by simp [results, Try.results86, go_sem]) rfl ⟨rfl, up3 _ _ _ _⟩
  · have w0 := u64_over (b + d) (by omega)
    by_cases s2 : a + c < 18446744073709551616
    · by_cases s3 : a + c + 1 < 18446744073709551616
      · obtain ⟨e1, e2, e3⟩ := @pOk a b c d (a + c + 1) (b + d - 18446744073709551616) (by unfold V; omega) (by unfold Word; omega) (by unfold Word; omega)
        rw [e1, e2, e3]
        clear e1 e2 e3
        have h5 : decide (a + c < a) = false := by simp; omega
        have h6 : (a + c + 1 == 0) = false := by simp; omega
        go_enter Try.func86, Try.ntmps86
        go_wp2
        exact bodyPost_ret (v := .tuple #[.agg #[.int .u64 (a + c + 1), .int .u64 (b + d - 18446744073709551616)], .int .i64 0]) (by simp [results, Try.results86, go_sem]) rfl ⟨rfl, up3 _ _ _ _⟩
      · obtain ⟨e1, e2, e3⟩ := @pNo a b c d (by unfold V; omega)
        rw [e1, e2, e3]
        clear e1 e2 e3
        have w1 : IntKind.u64.wrap (a + c + 1) = 0 := by rw [u64_over _ (by omega)]; omega
        go_enter Try.func86, Try.ntmps86
        go_wp2
        exact bodyPost_ret (v := .tuple #[.agg #[.int .u64 0, .int .u64 0], .int .i64 10]) (by simp [results, Try.results86, go_sem]) rfl ⟨rfl, up3 _ _ _ _⟩
    · obtain ⟨e1, e2, e3⟩ := @pNo a b c d (by unfold V; omega)
      rw [e1, e2, e3]
      clear e1 e2 e3
      have w1 := u64_over (a + c) (by omega)
      go_enter Try.func86, Try.ntmps86
      go_wp2
      exact bodyPost_ret (v := .tuple #[.agg #[.int .u64 0, .int .u64 0], .int .i64 10]) (by simp [results, Try.results86, go_sem]) rfl ⟨rfl, up3 _ _ _ _⟩

end Go.Proofs.Ytjbpaapglamilaa
namespace Go.Proofs.Ytjbpaapglamilaa.W
set_option linter.unusedVariables false

theorem split4 (x y z t : Int) : (4294967296 * x + y) * (4294967296 * z + t) = x * z * 18446744073709551616 + x * t * 4294967296 + y * z * 4294967296 + y * t := by
  have e1 : (4294967296 * x + y) * (4294967296 * z + t) = 4294967296 * x * (4294967296 * z) + 4294967296 * x * t + (y * (4294967296 * z) + y * t) := by
    rw [Int.add_mul, Int.mul_add, Int.mul_add]
  have e2 : 4294967296 * x * (4294967296 * z) = x * z * 18446744073709551616 := by
    rw [Int.mul_assoc, Int.mul_left_comm x, ← Int.mul_assoc]; omega
  have e3 : 4294967296 * x * t = x * t * 4294967296 := by rw [Int.mul_assoc]; omega
  have e4 : y * (4294967296 * z) = y * z * 4294967296 := by rw [Int.mul_left_comm]; omega
  omega
theorem mul_split (a b : Int) : a * b = a / 4294967296 * (b / 4294967296) * 18446744073709551616 + a / 4294967296 * (b % 4294967296) * 4294967296 + a % 4294967296 * (b / 4294967296) * 4294967296 + a % 4294967296 * (b % 4294967296) := by
  have h := split4 (a / 4294967296) (a % 4294967296) (b / 4294967296) (b % 4294967296)
  rwa [Int.mul_ediv_add_emod, Int.mul_ediv_add_emod] at h

/-- A product of two halves. -/
theorem half_mul {x y : Int} (hx : 0 ≤ x ∧ x ≤ 4294967295) (hy : 0 ≤ y ∧ y ≤ 4294967295) : 0 ≤ x * y ∧ x * y ≤ 18446744065119617025 := by
  refine ⟨Int.mul_nonneg hx.1 hy.1, ?_⟩
  have := Int.mul_le_mul hx.2 hy.2 hy.1 (by omega)
  omega
theorem word_mul {x y : Int} (hx : Word x) (hy : Word y) : 0 ≤ x * y ∧ x * y ≤ 340282366920938463426481119284349108225 := by
  unfold Word at hx hy
  refine ⟨Int.mul_nonneg hx.1 hy.1, ?_⟩
  have := Int.mul_le_mul (c := 18446744073709551615) (d := 18446744073709551615) (show x ≤ _ by omega) (show y ≤ _ by omega) hy.1 (by omega)
  omega
theorem xH_word {a b : Int} (ha : Word a) (hb : Word b) : Word (xH a b) := by
  have := word_mul ha hb
  unfold xH Word; omega
theorem xL_word (a b : Int) : Word (xL a b) := by unfold xL Word; omega
theorem V_x (a b : Int) : V (xH a b) (xL a b) = a * b := by unfold V xH xL; omega
end Go.Proofs.Ytjbpaapglamilaa.W
namespace Go.Proofs.Ytjbpaapglamilaa
open Go.RowKit W
set_option linter.unusedVariables false
theorem rMul_any (a b : Int) (w : World) (ha : Word a) (hb : Word b) :
    Calls Try.prog 66 #[.int .u64 a, .int .u64 b] w fun e w' => e = .returned (.agg #[.int .u64 (xH a b), .int .u64 (xL a b)]) ∧ Below w.heap.size w w' := by
  have hs := mul_split a b
  have hw := word_mul ha hb
  unfold Word at ha hb
  obtain ⟨a0, a1⟩ := ha; obtain ⟨b0, b1⟩ := hb
  obtain ⟨p0, q0⟩ := @half_mul (a % 4294967296) (b % 4294967296) (by omega) (by omega)
  obtain ⟨p1, q1⟩ := @half_mul (a / 4294967296) (b % 4294967296) (by omega) (by omega)
  obtain ⟨p2, q2⟩ := @half_mul (a % 4294967296) (b / 4294967296) (by omega) (by omega)
  obtain ⟨p3, q3⟩ := @half_mul (a / 4294967296) (b / 4294967296) (by omega) (by omega)
  have hh : a / 4294967296 * (b / 4294967296) + a / 4294967296 * (b % 4294967296) / 4294967296 + a % 4294967296 * (b / 4294967296) / 4294967296 + (a % 4294967296 * (b % 4294967296) / 4294967296 + a / 4294967296 * (b % 4294967296) % 4294967296 + a % 4294967296 * (b / 4294967296) % 4294967296) / 4294967296 ≤ 18446744073709551615 := by omega
  have eH : xH a b = a / 4294967296 * (b / 4294967296) + a / 4294967296 * (b % 4294967296) / 4294967296 + a % 4294967296 * (b / 4294967296) / 4294967296 + (a % 4294967296 * (b % 4294967296) / 4294967296 + a / 4294967296 * (b % 4294967296) % 4294967296 + a % 4294967296 * (b / 4294967296) % 4294967296) / 4294967296 := by unfold xH; omega
  have eL : xL a b = (a % 4294967296 * (b % 4294967296) / 4294967296 + a / 4294967296 * (b % 4294967296) % 4294967296 + a % 4294967296 * (b / 4294967296)) % 4294967296 * 4294967296 + a % 4294967296 * (b % 4294967296) % 4294967296 := by unfold xL; omega
  rw [eH, eL]
  clear eH eL hs hw
  go_enter Try.func66, Try.ntmps66
  go_wp2
  exact bodyPost_ret (v := .agg #[.int .u64 (a / 4294967296 * (b / 4294967296) + a / 4294967296 * (b % 4294967296) / 4294967296 + a % 4294967296 * (b / 4294967296) / 4294967296 + (a % 4294967296 * (b % 4294967296) / 4294967296 + a / 4294967296 * (b % 4294967296) % 4294967296 + a % 4294967296 * (b / 4294967296) % 4294967296) / 4294967296), .int .u64 ((a % 4294967296 * (b % 4294967296) / 4294967296 + a / 4294967296 * (b % 4294967296) % 4294967296 + a % 4294967296 * (b / 4294967296)) % 4294967296 * 4294967296 + a % 4294967296 * (b % 4294967296) % 4294967296)]) (by simp [results, Try.results66, go_sem]) rfl ⟨rfl, up1 _ _⟩

end Go.Proofs.Ytjbpaapglamilaa
namespace Go.Proofs.Ytjbpaapglamilaa
open Go.RowKit W
set_option linter.unusedVariables false
theorem and_mask (a : Int) (h0 : 0 ≤ a) (h1 : a < 18446744073709551616) : bits BinOp.and IntKind.u64 a 4294967295 = a % 4294967296 := by
  obtain ⟨n, rfl⟩ := Int.eq_ofNat_of_zero_le h0
  have h := bits_and_u64_nat n 4294967295 (by omega) (by omega)
  refine h.trans ?_
  have e : n &&& 4294967295 = n % 4294967296 := Nat.and_two_pow_sub_one_eq_mod n 32
  rw [e]
  omega
theorem or_half (x y : Int) (hx : 0 ≤ x ∧ x ≤ 4294967295) (hy : 0 ≤ y ∧ y ≤ 4294967295) : bits BinOp.or IntKind.u64 (x * 4294967296) y = x * 4294967296 + y := by
  obtain ⟨n, rfl⟩ := Int.eq_ofNat_of_zero_le hx.1
  obtain ⟨m, rfl⟩ := Int.eq_ofNat_of_zero_le hy.1
  have h := bits_or_u64_nat (n * 4294967296) m (by omega) (by omega)
  have e : n * 4294967296 ||| m = n * 4294967296 + m := by
    have := Nat.two_pow_add_eq_or_of_lt (i := 32) (b := m) (by omega) n
    rw [Nat.mul_comm]
    exact this.symm
  rw [e] at h
  exact h.trans (by omega)

theorem up6 (w : World) (o1 o2 o3 o4 o5 o6 : Obj) : Below w.heap.size w ((((((w.alloc o1).alloc o2).alloc o3).alloc o4).alloc o5).alloc o6) :=
  (((up3 w o1 o2 o3).alloc (by simp; omega) _).alloc (by simp; omega) _).alloc (by simp; omega) _

theorem halves_any (a : Int) (w : World) (ha : Word a) :
    Calls Try.prog 93 #[.int .u64 a] w fun e w' => e = .returned (.agg #[.int .u64 (a % 4294967296), .int .u64 (a / 4294967296)]) ∧ ∃ c : Array Value, w' = w.alloc (.cells c 142) := by
  unfold Word at ha
  obtain ⟨a0, a1⟩ := ha
  have hm := and_mask a a0 a1
  go_enter Try.func93, Try.ntmps93
  go_wp2
  exact bodyPost_ret (v := .agg #[.int .u64 (a % 4294967296), .int .u64 (a / 4294967296)]) (by simp [results, Try.results93, go_sem]) rfl ⟨rfl, _, rfl⟩

theorem and_mask_all (x : Int) : bits BinOp.and IntKind.u64 x 4294967295 = x % 4294967296 := by
  have h := and_mask (x % 18446744073709551616) (by omega) (by omega)
  have e : bits BinOp.and IntKind.u64 x 4294967295 = bits BinOp.and IntKind.u64 (x % 18446744073709551616) 4294967295 := by
    have e1 : BitVec.ofInt 64 (x % 18446744073709551616) = BitVec.ofInt 64 x := by
      apply BitVec.eq_of_toNat_eq
      simp only [BitVec.toNat_ofInt]
      omega
    show IntKind.u64.wrap ((BitVec.ofInt 64 x &&& BitVec.ofInt 64 (4294967295 : Int)).toNat : Int) = IntKind.u64.wrap ((BitVec.ofInt 64 (x % 18446744073709551616) &&& BitVec.ofInt 64 (4294967295 : Int)).toNat : Int)
    rw [e1]
  rw [e, h]
  omega

set_option maxHeartbeats 800000 in
theorem Mul_of (a b x0 x1 y0 y1 p c s0 q A a0 a1 r B s1 b1 t u C s2 s3 h3 H l1 L : Int) (w : World)
    (hA : ∀ w, Calls Try.prog 93 #[.int .u64 a] w fun e w' => e = .returned (.agg #[.int .u64 x0, .int .u64 x1]) ∧ ∃ c : Array Value, w' = w.alloc (.cells c 142))
    (hB : ∀ w, Calls Try.prog 93 #[.int .u64 b] w fun e w' => e = .returned (.agg #[.int .u64 y0, .int .u64 y1]) ∧ ∃ c : Array Value, w' = w.alloc (.cells c 142))
    (bp : 0 ≤ p ∧ p ≤ 18446744073709551615) (bA : 0 ≤ A ∧ A ≤ 18446744073709551615) (bB : 0 ≤ B ∧ B ≤ 18446744073709551615) (bC : 0 ≤ C ∧ C ≤ 18446744073709551615)
    (f1 : IntKind.u64.wrap p = p) (f2 : IntKind.u64.wrap q = q) (f3 : IntKind.u64.wrap B = B)
    (g1 : IntKind.u64.wrap (s3 * 4294967296) = h3) (g2 : bits BinOp.or IntKind.u64 h3 s2 = H) (g3 : IntKind.u64.wrap (s1 * 4294967296) = l1) (g4 : bits BinOp.or IntKind.u64 l1 s0 = L)
    (e1 : IntKind.u64.wrap (x0 * y0) = p) (e2 : p / 4294967296 = c) (e3 : p % 4294967296 = s0)
    (e4 : IntKind.u64.wrap (x0 * y1) = q) (e5 : IntKind.u64.wrap (q + c) = A) (e6 : A % 4294967296 = a0) (e7 : A / 4294967296 = a1)
    (e8 : IntKind.u64.wrap (x1 * y0) = r) (e9 : IntKind.u64.wrap (r + a0) = B) (e10 : B % 4294967296 = s1) (e11 : B / 4294967296 = b1)
    (e12 : IntKind.u64.wrap (x1 * y1) = t) (e13 : IntKind.u64.wrap (t + a1) = u) (e14 : IntKind.u64.wrap (u + b1) = C) (e15 : C % 4294967296 = s2) (e16 : C / 4294967296 = s3) :
    Calls Try.prog 72 #[.int .u64 a, .int .u64 b] w fun e w' => e = .returned (.agg #[.int .u64 H, .int .u64 L]) ∧ Below w.heap.size w w' := by
  have hm := and_mask_all
  have hdr : ∀ (w : World) (n : Nat) (a : Addr) (v : Value), (w.drewN n).setCell a v = (w.setCell a v).drewN n := fun _ _ _ _ => rfl
  obtain ⟨bp0, bp1⟩ := bp; obtain ⟨bA0, bA1⟩ := bA; obtain ⟨bB0, bB1⟩ := bB; obtain ⟨bC0, bC1⟩ := bC
  go_enter Try.func72, Try.ntmps72
  go_wp2_with (first
    | (go_at_call 93; (with_reducible refine (hA _).mono ?_); rintro e w1 ⟨rfl, c1, rfl⟩)
    | (go_at_call 93; (with_reducible refine (hB _).mono ?_); rintro e w2 ⟨rfl, c2, rfl⟩))
  refine wp_loop_rounds 3 ?_
  rw [rounds_succ]
  go_wp2
  refine wp_loop_rounds 3 ?_
  rw [rounds_succ]
  go_wp2
  go_quiet (fail)
  go_wp2
  rw [rounds_succ]
  go_wp2
  go_quiet (fail)
  go_wp2
  rw [rounds_succ]
  go_wp2
  rw [rounds_succ]
  go_wp2
  refine wp_loop_rounds 3 ?_
  rw [rounds_succ]
  go_wp2
  go_quiet (fail)
  go_wp2
  rw [rounds_succ]
  go_wp2
  go_quiet (fail)
  go_wp2
  rw [rounds_succ]
  go_wp2
  rw [rounds_succ]
  go_wp2
  exact bodyPost_ret (v := .agg #[.int .u64 H, .int .u64 L]) (by simp [results, Try.results72, go_sem]) rfl ⟨rfl, below_drewN (up6 _ _ _ _ _ _ _) _⟩

theorem Mul_any (a b : Int) (w : World) (ha : Word a) (hb : Word b) :
    Calls Try.prog 72 #[.int .u64 a, .int .u64 b] w fun e w' => e = .returned (.agg #[.int .u64 (xH a b), .int .u64 (xL a b)]) ∧ Below w.heap.size w w' := by
  have hs := mul_split a b
  have hA := fun w => halves_any a w ha
  have hB := fun w => halves_any b w hb
  unfold Word at ha hb
  have hx0 : 0 ≤ a % 4294967296 ∧ a % 4294967296 ≤ 4294967295 := by omega
  have hx1 : 0 ≤ a / 4294967296 ∧ a / 4294967296 ≤ 4294967295 := by omega
  have hy0 : 0 ≤ b % 4294967296 ∧ b % 4294967296 ≤ 4294967295 := by omega
  have hy1 : 0 ≤ b / 4294967296 ∧ b / 4294967296 ≤ 4294967295 := by omega
  obtain ⟨x0, ex0⟩ : ∃ x0, a % 4294967296 = x0 := ⟨_, rfl⟩
  obtain ⟨x1, ex1⟩ : ∃ x1, a / 4294967296 = x1 := ⟨_, rfl⟩
  obtain ⟨y0, ey0⟩ : ∃ y0, b % 4294967296 = y0 := ⟨_, rfl⟩
  obtain ⟨y1, ey1⟩ : ∃ y1, b / 4294967296 = y1 := ⟨_, rfl⟩
  rw [ex0, ex1] at hA
  rw [ey0, ey1] at hB
  rw [ex0, ex1, ey0, ey1] at hs
  rw [ex0] at hx0; rw [ex1] at hx1; rw [ey0] at hy0; rw [ey1] at hy1
  clear ex0 ex1 ey0 ey1 ha hb
  obtain ⟨p0, p1⟩ := half_mul hx0 hy0
  obtain ⟨q0, q1⟩ := half_mul hx0 hy1
  obtain ⟨r0, r1⟩ := half_mul hx1 hy0
  obtain ⟨t0, t1⟩ := half_mul hx1 hy1
  obtain ⟨p, ep⟩ : ∃ p, x0 * y0 = p := ⟨_, rfl⟩
  obtain ⟨q, eq⟩ : ∃ q, x0 * y1 = q := ⟨_, rfl⟩
  obtain ⟨r, er⟩ : ∃ r, x1 * y0 = r := ⟨_, rfl⟩
  obtain ⟨t, et⟩ : ∃ t, x1 * y1 = t := ⟨_, rfl⟩
  rw [ep] at p0 p1 hs; rw [eq] at q0 q1 hs; rw [er] at r0 r1 hs; rw [et] at t0 t1 hs
  obtain ⟨A, eA⟩ : ∃ A, q + p / 4294967296 = A := ⟨_, rfl⟩
  obtain ⟨B, eB⟩ : ∃ B, r + A % 4294967296 = B := ⟨_, rfl⟩
  obtain ⟨C, eC⟩ : ∃ C, t + A / 4294967296 + B / 4294967296 = C := ⟨_, rfl⟩
  have kH : xH a b = C := by unfold xH; omega
  have kL : xL a b = B % 4294967296 * 4294967296 + p % 4294967296 := by unfold xL; omega
  rw [kH, kL]
  exact Mul_of a b x0 x1 y0 y1 p _ _ q A _ _ r B _ _ t (t + A / 4294967296) C _ _ (C / 4294967296 * 4294967296) C (B % 4294967296 * 4294967296) _ w hA hB (by omega) (by omega) (by omega) (by omega)
    (IntWalk.u64_in _ (by omega)) (IntWalk.u64_in _ (by omega)) (IntWalk.u64_in _ (by omega))
    (IntWalk.u64_in _ (by omega)) ((or_half _ _ (by omega) (by omega)).trans (by omega)) (IntWalk.u64_in _ (by omega)) (or_half _ _ (by omega) (by omega))
    (by rw [ep]; exact IntWalk.u64_in _ (by omega)) rfl rfl
    (by rw [eq]; exact IntWalk.u64_in _ (by omega)) (by rw [eA]; exact IntWalk.u64_in _ (by omega)) rfl rfl
    (by rw [er]; exact IntWalk.u64_in _ (by omega)) (by rw [eB]; exact IntWalk.u64_in _ (by omega)) rfl rfl
    (by rw [et]; exact IntWalk.u64_in _ (by omega)) (IntWalk.u64_in _ (by omega)) (by rw [eC]; exact IntWalk.u64_in _ (by omega)) rfl rfl

end Go.Proofs.Ytjbpaapglamilaa
