/- Plain arithmetic of numbers of 128 bits, written as a high and a low word: what sums, differences, products, quotients and comparisons are. No condition. What the calls Cmp and cmp.Compare answer: -1, 0, 1. No condition but that words are words. What the calls Plus and Minus answer, the program's own and the document's. No condition but that words are words. What the calls Plus, Minus and Cmp of the document's own answer. No condition but that words are words. Plain arithmetic of products: the four products of halves, each put where it belongs. No condition. What the document's own Mul and Fraction answer. No condition but that words are words. What the program's own Mul and Fraction answer. No condition but that words are words. -/
import Derived.Test.YtkcmfcgoknhodaaDoorChecked
import Derived.WalkKit
import Derived.ProofKit
import Derived.Below
import Derived.Outline
import Derived.Lib.Hide
import Derived.Laws.Externs
import Derived.RowKit3
import Derived.Laws.Bits64b
import Derived.BigQuiet
import Derived.Deep.QuietTactic
import Derived.WalkSmall
namespace Go.Proofs.YtkcmfcgoknhodaaDoor.W
set_option linter.unusedVariables false

/-- A word. -/
def Word (x : Int) : Prop := 0 ≤ x ∧ x < 18446744073709551616

/-- The number that a high and a low word make. -/
def V (h l : Int) : Int := h * 18446744073709551616 + l

def pE (a b c d : Int) : Int := if V a b + V c d < 340282366920938463463374607431768211456 then 0 else 10
def pH (a b c d : Int) : Int := if V a b + V c d < 340282366920938463463374607431768211456 then (V a b + V c d) / 18446744073709551616 else 0
def pL (a b c d : Int) : Int := if V a b + V c d < 340282366920938463463374607431768211456 then (V a b + V c d) % 18446744073709551616 else 0

def mE (a b c d : Int) : Int := if V c d ≤ V a b then 0 else 10
def mH (a b c d : Int) : Int := if V c d ≤ V a b then (V a b - V c d) / 18446744073709551616 else 0
def mL (a b c d : Int) : Int := if V c d ≤ V a b then (V a b - V c d) % 18446744073709551616 else 0

def cmpN (x y : Int) : Int := if x < y then -1 else if x = y then 0 else 1
def cmpW (a b c d : Int) : Int := cmpN (V a b) (V c d)

def dE (h n : Int) : Int := if n = 0 then 2 else if n ≤ h then 10 else 0
def dQ (h l n : Int) : Int := if n = 0 then 0 else if n ≤ h then 0 else V h l / n
def dR (h l n : Int) : Int := if n = 0 then 0 else if n ≤ h then 0 else V h l % n

def xH (a b : Int) : Int := a * b / 18446744073709551616
def xL (a b : Int) : Int := a * b % 18446744073709551616

theorem cmpN_lt {x y : Int} (h : x < y) : cmpN x y = -1 := by unfold cmpN; rw [if_pos h]
theorem cmpN_eq {x y : Int} (h : x = y) : cmpN x y = 0 := by unfold cmpN; rw [if_neg (by omega), if_pos h]
theorem cmpN_gt {x y : Int} (h : y < x) : cmpN x y = 1 := by unfold cmpN; rw [if_neg (by omega), if_neg (by omega)]
theorem cmpW_hi {a b c d : Int} (hb : Word b) (hd : Word d) (h : a ≠ c) : cmpW a b c d = cmpN a c := by
  unfold cmpW V
  unfold Word at hb hd
  rcases Int.lt_or_gt_of_ne h with h | h
  · rw [cmpN_lt h, cmpN_lt (by omega)]
  · rw [cmpN_gt h, cmpN_gt (by omega)]
theorem cmpW_lo {a b d : Int} : cmpW a b a d = cmpN b d := by
  unfold cmpW V
  rcases Int.lt_trichotomy b d with h | h | h
  · rw [cmpN_lt h, cmpN_lt (by omega)]
  · rw [cmpN_eq h, cmpN_eq (by omega)]
  · rw [cmpN_gt h, cmpN_gt (by omega)]

/-- A borrow, under a name. -/
def bor (x y : Int) : Int := if x < y then 1 else 0
theorem bor_lo (x y : Int) : 0 ≤ bor x y := by unfold bor; split <;> omega
theorem bor_hi (x y : Int) : bor x y ≤ 1 := by unfold bor; split <;> omega

theorem plus_ok {a b c d : Int} (ha : Word a) (hb : Word b) (hc : Word c) (hd : Word d) (h : (a + c + (b + d) / 18446744073709551616) / 18446744073709551616 = 0) :
    pE a b c d = 0 ∧ pH a b c d = (a + c + (b + d) / 18446744073709551616) % 18446744073709551616 ∧ pL a b c d = (b + d) % 18446744073709551616 := by
  unfold Word at ha hb hc hd
  unfold pE pH pL V
  rw [if_pos (by omega), if_pos (by omega), if_pos (by omega)]
  refine ⟨rfl, by omega, by omega⟩
theorem plus_no {a b c d : Int} (ha : Word a) (hb : Word b) (hc : Word c) (hd : Word d) (h : ¬ (a + c + (b + d) / 18446744073709551616) / 18446744073709551616 = 0) :
    pE a b c d = 10 ∧ pH a b c d = 0 ∧ pL a b c d = 0 := by
  unfold Word at ha hb hc hd
  unfold pE pH pL V
  rw [if_neg (by omega), if_neg (by omega), if_neg (by omega)]
  exact ⟨rfl, rfl, rfl⟩
theorem bor_or (x y : Int) : (x < y ∧ bor x y = 1) ∨ (y ≤ x ∧ bor x y = 0) := by
  unfold bor; split <;> omega
theorem minus_ok {a b c d : Int} (hb : Word b) (hd : Word d) (h : bor a (c + bor b d) = 0) :
    mE a b c d = 0 ∧ mH a b c d = (a - c - bor b d) ∧ mL a b c d = (b - d) % 18446744073709551616 := by
  unfold Word at hb hd
  unfold mE mH mL V
  have h1 := bor_or a (c + bor b d)
  have h2 := bor_or b d
  rw [if_pos (by omega), if_pos (by omega), if_pos (by omega)]
  exact ⟨rfl, by omega, by omega⟩
theorem minus_no {a b c d : Int} (hb : Word b) (hd : Word d) (h : ¬ bor a (c + bor b d) = 0) :
    mE a b c d = 10 ∧ mH a b c d = 0 ∧ mL a b c d = 0 := by
  unfold Word at hb hd
  unfold mE mH mL V
  have h1 := bor_or a (c + bor b d)
  have h2 := bor_or b d
  rw [if_neg (by omega), if_neg (by omega), if_neg (by omega)]
  exact ⟨rfl, rfl, rfl⟩
theorem minus_hi {a b c d : Int} (ha : Word a) (hc : Word c) (h : bor a (c + bor b d) = 0) : (a - c - bor b d) % 18446744073709551616 = a - c - bor b d := by
  unfold Word at ha hc
  have h1 := bor_or a (c + bor b d)
  have h2 := bor_or b d
  omega
theorem pOk {a b c d h l : Int} (e : V a b + V c d = V h l) (hl : Word l) (hh : Word h) : pE a b c d = 0 ∧ pH a b c d = h ∧ pL a b c d = l := by
  unfold Word at hl hh
  unfold V at e
  unfold pE pH pL V
  rw [if_pos (by omega), if_pos (by omega), if_pos (by omega)]
  exact ⟨rfl, by omega, by omega⟩
theorem pNo {a b c d : Int} (e : 340282366920938463463374607431768211456 ≤ V a b + V c d) : pE a b c d = 10 ∧ pH a b c d = 0 ∧ pL a b c d = 0 := by
  unfold pE pH pL
  rw [if_neg (by omega), if_neg (by omega), if_neg (by omega)]
  exact ⟨rfl, rfl, rfl⟩
theorem mOk {a b c d h l : Int} (e : V a b - V c d = V h l) (hl : Word l) (hh : Word h) : mE a b c d = 0 ∧ mH a b c d = h ∧ mL a b c d = l := by
  unfold Word at hl hh
  unfold V at e
  unfold mE mH mL V
  rw [if_pos (by omega), if_pos (by omega), if_pos (by omega)]
  exact ⟨rfl, by omega, by omega⟩
theorem mNo {a b c d : Int} (e : V a b < V c d) : mE a b c d = 10 ∧ mH a b c d = 0 ∧ mL a b c d = 0 := by
  unfold mE mH mL
  rw [if_neg (by omega), if_neg (by omega), if_neg (by omega)]
  exact ⟨rfl, rfl, rfl⟩
theorem cmpW_lt {a b c d : Int} (h : V a b < V c d) : cmpW a b c d = -1 := cmpN_lt h
theorem cmpW_gt {a b c d : Int} (h : V c d < V a b) : cmpW a b c d = 1 := cmpN_gt h
theorem cmpW_eq {a b c d : Int} (h : V c d = V a b) : cmpW a b c d = 0 := cmpN_eq h.symm
theorem V_lt {a b c d : Int} (hb : Word b) (hd : Word d) (h : a < c ∨ a = c ∧ b < d) : V a b < V c d := by
  unfold Word at hb hd; unfold V; omega
end Go.Proofs.YtkcmfcgoknhodaaDoor.W
namespace Go.Proofs.YtkcmfcgoknhodaaDoor
open Go.RowKit W
set_option linter.unusedVariables false

theorem up1 (w : World) (o1 : Obj) : Below w.heap.size w (w.alloc o1) := (Below.refl _ _).alloc (Nat.le_refl _) _
theorem up2 (w : World) (o1 o2 : Obj) : Below w.heap.size w ((w.alloc o1).alloc o2) := (up1 w o1).alloc (by simp) _
theorem up3 (w : World) (o1 o2 o3 : Obj) : Below w.heap.size w (((w.alloc o1).alloc o2).alloc o3) := (up2 w o1 o2).alloc (by simp; omega) _
theorem bcell {W w1 : World} (hb : Below W.heap.size W w1) : (∀ b o, b < W.heap.size → w1.cell? ⟨b, o, none⟩ = W.cell? ⟨b, o, none⟩) ∧ (∀ b o, b < W.heap.size → w1.frozen? ⟨b, o, none⟩ = W.frozen? ⟨b, o, none⟩) :=
  ⟨fun b o h => hb.cell (p := ⟨b, o, none⟩) h, fun b o h => hb.frozen (p := ⟨b, o, none⟩) h⟩



end Go.Proofs.YtkcmfcgoknhodaaDoor
namespace Go.Proofs.YtkcmfcgoknhodaaDoor
open Go.RowKit W
set_option linter.unusedVariables false





end Go.Proofs.YtkcmfcgoknhodaaDoor
namespace Go.Proofs.YtkcmfcgoknhodaaDoor
open Go.RowKit W
set_option linter.unusedVariables false

theorem u64_over (n : Int) (h : 18446744073709551616 ≤ n ∧ n < 36893488147419103232) : IntKind.u64.wrap n = n - 18446744073709551616 := by
  simp [IntKind.wrap, IntKind.bits, IntKind.signed]; omega
theorem u64_under (n : Int) (h : -18446744073709551616 ≤ n ∧ n < 0) : IntKind.u64.wrap n = n + 18446744073709551616 := by
  simp [IntKind.wrap, IntKind.bits, IntKind.signed]; omega


end Go.Proofs.YtkcmfcgoknhodaaDoor
namespace Go.Proofs.YtkcmfcgoknhodaaDoor.W
set_option linter.unusedVariables false

theorem split4 (x y z t : Int) : (4294967296 * x + y) * (4294967296 * z + t) = x * z * 18446744073709551616 + x * t * 4294967296 + y * z * 4294967296 + y * t := by
  have e1 : (4294967296 * x + y) * (4294967296 * z + t) = 4294967296 * x * (4294967296 * z) + 4294967296 * x * t + (y * (4294967296 * z) + y * t) := by
    rw [Int.add_mul, Int.mul_add, Int.mul_add]
  have e2 : 4294967296 * x * (4294967296 * z) = x * z * 18446744073709551616 := by
    rw [Int.mul_assoc, Int.mul_left_comm x, ← Int.mul_assoc]; omega
  have e3 : 4294967296 * x * t = x * t * 4294967296 := by rw [Int.mul_assoc]; omega
  have e4 : y * (4294967296 * z) = y * z * 4294967296 := by rw [Int.mul_left_comm]; omega
  omega
theorem mul_split (a b : Int) : a * b = a / 4294967296 * (b / 4294967296) * 18446744073709551616 + a / 4294967296 * (b % 4294967296) * 4294967296 + a % 4294967296 * (b / 4294967296) * 4294967296 + a % 4294967296 * (b % 4294967296) := by
  have h := split4 (a / 4294967296) (a % 4294967296) (b / 4294967296) (b % 4294967296)
  rwa [Int.mul_ediv_add_emod, Int.mul_ediv_add_emod] at h

/-- A product of two halves. -/
theorem half_mul {x y : Int} (hx : 0 ≤ x ∧ x ≤ 4294967295) (hy : 0 ≤ y ∧ y ≤ 4294967295) : 0 ≤ x * y ∧ x * y ≤ 18446744065119617025 := by
  refine ⟨Int.mul_nonneg hx.1 hy.1, ?_⟩
  have := Int.mul_le_mul hx.2 hy.2 hy.1 (by omega)
  omega
theorem word_mul {x y : Int} (hx : Word x) (hy : Word y) : 0 ≤ x * y ∧ x * y ≤ 340282366920938463426481119284349108225 := by
  unfold Word at hx hy
  refine ⟨Int.mul_nonneg hx.1 hy.1, ?_⟩
  have := Int.mul_le_mul (c := 18446744073709551615) (d := 18446744073709551615) (show x ≤ _ by omega) (show y ≤ _ by omega) hy.1 (by omega)
  omega
theorem xH_word {a b : Int} (ha : Word a) (hb : Word b) : Word (xH a b) := by
  have := word_mul ha hb
  unfold xH Word; omega
theorem xL_word (a b : Int) : Word (xL a b) := by unfold xL Word; omega
theorem V_x (a b : Int) : V (xH a b) (xL a b) = a * b := by unfold V xH xL; omega
end Go.Proofs.YtkcmfcgoknhodaaDoor.W
namespace Go.Proofs.YtkcmfcgoknhodaaDoor
open Go.RowKit W
set_option linter.unusedVariables false

end Go.Proofs.YtkcmfcgoknhodaaDoor
namespace Go.Proofs.YtkcmfcgoknhodaaDoor
open Go.RowKit W
set_option linter.unusedVariables false
theorem and_mask (a : Int) (h0 : 0 ≤ a) (h1 : a < 18446744073709551616) : bits BinOp.and IntKind.u64 a 4294967295 = a % 4294967296 := by
  obtain ⟨n, rfl⟩ := Int.eq_ofNat_of_zero_le h0
  have h := bits_and_u64_nat n 4294967295 (by omega) (by omega)
  refine h.trans ?_
  have e : n &&& 4294967295 = n % 4294967296 := Nat.and_two_pow_sub_one_eq_mod n 32
  rw [e]
  omega
theorem or_half (x y : Int) (hx : 0 ≤ x ∧ x ≤ 4294967295) (hy : 0 ≤ y ∧ y ≤ 4294967295) : bits BinOp.or IntKind.u64 (x * 4294967296) y = x * 4294967296 + y := by
  obtain ⟨n, rfl⟩ := Int.eq_ofNat_of_zero_le hx.1
  obtain ⟨m, rfl⟩ := Int.eq_ofNat_of_zero_le hy.1
  have h := bits_or_u64_nat (n * 4294967296) m (by omega) (by omega)
  have e : n * 4294967296 ||| m = n * 4294967296 + m := by
    have := Nat.two_pow_add_eq_or_of_lt (i := 32) (b := m) (by omega) n
    rw [Nat.mul_comm]
    exact this.symm
  rw [e] at h
  exact h.trans (by omega)

theorem up6 (w : World) (o1 o2 o3 o4 o5 o6 : Obj) : Below w.heap.size w ((((((w.alloc o1).alloc o2).alloc o3).alloc o4).alloc o5).alloc o6) :=
  (((up3 w o1 o2 o3).alloc (by simp; omega) _).alloc (by simp; omega) _).alloc (by simp; omega) _


theorem and_mask_all (x : Int) : bits BinOp.and IntKind.u64 x 4294967295 = x % 4294967296 := by
  have h := and_mask (x % 18446744073709551616) (by omega) (by omega)
  have e : bits BinOp.and IntKind.u64 x 4294967295 = bits BinOp.and IntKind.u64 (x % 18446744073709551616) 4294967295 := by
    have e1 : BitVec.ofInt 64 (x % 18446744073709551616) = BitVec.ofInt 64 x := by
      apply BitVec.eq_of_toNat_eq
      simp only [BitVec.toNat_ofInt]
      omega
    show IntKind.u64.wrap ((BitVec.ofInt 64 x &&& BitVec.ofInt 64 (4294967295 : Int)).toNat : Int) = IntKind.u64.wrap ((BitVec.ofInt 64 (x % 18446744073709551616) &&& BitVec.ofInt 64 (4294967295 : Int)).toNat : Int)
    rw [e1]
  rw [e, h]
  omega



end Go.Proofs.YtkcmfcgoknhodaaDoor
