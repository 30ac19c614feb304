/- How many bits are set: as a sum, and as math/bits reckons it. Plain arithmetic. No condition. -/
import Derived.Test.YtenghpgnhmglpaaDoorCoA
import Derived.Laws.BitsAllLaws
namespace Go.Proofs.YtenghpgnhmglpaaDoor
set_option linter.unusedVariables false
/-- How many of the first k bits are set. -/
def popN (x : Nat) : Nat → Nat
  | 0 => 0
  | k + 1 => popN x k + x / 2 ^ k % 2
theorem popN_le (x : Nat) : ∀ k, popN x k ≤ k
  | 0 => Nat.le_refl _
  | k + 1 => by have := popN_le x k; unfold popN; omega
theorem popN_mono (x : Nat) {i j : Nat} (h : i ≤ j) : popN x i ≤ popN x j := by
  induction j with
  | zero => obtain rfl : i = 0 := by omega
            exact Nat.le_refl _
  | succ j ih =>
    by_cases e : i = j + 1
    · subst e; exact Nat.le_refl _
    · have := ih (by omega)
      show popN x i ≤ popN x j + _
      omega
/-- A byte map. -/
def bw (f : Nat → Nat) : Nat → Nat → Nat
  | 0, _ => 0
  | n + 1, x => f (x % 256) + 256 * bw f n (x / 256)
def Mk (m : Nat) : Nat → Nat
  | 0 => 0
  | n + 1 => m + 256 * Mk m n
theorem and_split {a b c d : Nat} (ha : a < 256) (hc : c < 256) : (a + 256 * b) &&& (c + 256 * d) = (a &&& c) + 256 * (b &&& d) := by
  have hac : a &&& c < 2 ^ 8 := Nat.and_lt_two_pow _ (by omega)
  apply Nat.eq_of_testBit_eq
  intro i
  have e1 : a + 256 * b = 2 ^ 8 * b + a := by omega
  have e2 : c + 256 * d = 2 ^ 8 * d + c := by omega
  have e3 : (a &&& c) + 256 * (b &&& d) = 2 ^ 8 * (b &&& d) + (a &&& c) := by omega
  rw [Nat.testBit_and, e1, e2, e3, Nat.testBit_two_pow_mul_add _ (by omega), Nat.testBit_two_pow_mul_add _ (by omega), Nat.testBit_two_pow_mul_add _ hac]
  split <;> simp
theorem and_mask (x m n : Nat) (hm : m < 256) : x &&& Mk m (n + 1) = ((x % 256) &&& m) + 256 * ((x / 256) &&& Mk m n) := by
  have e : x = x % 256 + 256 * (x / 256) := by omega
  conv => lhs; rw [e]
  exact and_split (by omega) hm
def f1 (b : Nat) : Nat := ((b / 2) &&& 85) + (b &&& 85)
def f2 (b : Nat) : Nat := ((b / 4) &&& 51) + (b &&& 51)
theorem byte1 : ∀ b, b < 256 → ∀ c, c < 2 → (b / 2 + 128 * c) &&& 85 = (b / 2) &&& 85 := by decide +kernel
theorem byte2 : ∀ b, b < 256 → ∀ c, c < 4 → (b / 4 + 64 * c) &&& 51 = (b / 4) &&& 51 := by decide +kernel
theorem byte3 : ∀ b, b < 256 → f1 b < 256 ∧ f2 (f1 b) / 16 ≤ 4 ∧ f2 (f1 b) % 16 ≤ 4 ∧ f2 (f1 b) / 16 + f2 (f1 b) % 16 = popN b 8 := by decide +kernel
theorem swar1 : ∀ (n x : Nat), ((x / 2) &&& Mk 85 n) + (x &&& Mk 85 n) = bw f1 n x
  | 0, x => by simp [Mk, bw]
  | n + 1, x => by
    rw [and_mask _ _ _ (by decide), and_mask x _ _ (by decide), bw, ← swar1 n (x / 256)]
    have e1 : x / 2 % 256 = x % 256 / 2 + 128 * (x / 256 % 2) := by omega
    have e2 : x / 2 / 256 = x / 256 / 2 := by omega
    rw [e1, e2, byte1 _ (by omega) _ (by omega)]
    unfold f1
    omega
theorem swar2 : ∀ (n x : Nat), ((x / 4) &&& Mk 51 n) + (x &&& Mk 51 n) = bw f2 n x
  | 0, x => by simp [Mk, bw]
  | n + 1, x => by
    rw [and_mask _ _ _ (by decide), and_mask x _ _ (by decide), bw, ← swar2 n (x / 256)]
    have e1 : x / 4 % 256 = x % 256 / 4 + 64 * (x / 256 % 4) := by omega
    have e2 : x / 4 / 256 = x / 256 / 4 := by omega
    rw [e1, e2, byte2 _ (by omega) _ (by omega)]
    unfold f2
    omega
theorem bw_comp : ∀ (n x : Nat), bw f2 n (bw f1 n x) = bw (fun b => f2 (f1 b)) n x
  | 0, x => rfl
  | n + 1, x => by
    have h := (byte3 (x % 256) (by omega)).1
    have e0 : bw f1 (n + 1) x = f1 (x % 256) + 256 * bw f1 n (x / 256) := rfl
    have e1 : bw f1 (n + 1) x % 256 = f1 (x % 256) := by rw [e0]; omega
    have e2 : bw f1 (n + 1) x / 256 = bw f1 n (x / 256) := by rw [e0]; omega
    show f2 (bw f1 (n + 1) x % 256) + 256 * bw f2 n (bw f1 (n + 1) x / 256) = f2 (f1 (x % 256)) + 256 * bw _ n (x / 256)
    rw [e1, e2, bw_comp n]
theorem swar3 : ∀ (n x : Nat), (bw (fun b => f2 (f1 b)) n x / 16 + bw (fun b => f2 (f1 b)) n x) &&& Mk 15 n = bw (fun b => popN b 8) n x
  | 0, x => by simp [Mk, bw]
  | n + 1, x => by
    obtain ⟨_, h1, h2, h3⟩ := byte3 (x % 256) (by omega)
    have ih := swar3 n (x / 256)
    have hy : bw (fun b => f2 (f1 b)) (n + 1) x = f2 (f1 (x % 256)) + 256 * bw (fun b => f2 (f1 b)) n (x / 256) := rfl
    have hz : bw (fun b => popN b 8) (n + 1) x = popN (x % 256) 8 + 256 * bw (fun b => popN b 8) n (x / 256) := rfl
    have hy16 : bw (fun b => f2 (f1 b)) n (x / 256) % 16 ≤ 4 := by
      cases n with
      | zero => simp [bw]
      | succ m =>
        have h4 := (byte3 (x / 256 % 256) (by omega)).2.2.1
        have : bw (fun b => f2 (f1 b)) (m + 1) (x / 256) = f2 (f1 (x / 256 % 256)) + 256 * bw (fun b => f2 (f1 b)) m (x / 256 / 256) := rfl
        rw [this]
        omega
    rw [hy, hz, and_mask _ _ _ (by decide), ← ih]
    generalize f2 (f1 (x % 256)) = h at *
    generalize bw (fun b => f2 (f1 b)) n (x / 256) = y at *
    have e0 : (h + 256 * y) / 16 = h / 16 + 16 * y := by omega
    have e3 : 16 * y = 16 * (y % 16) + 256 * (y / 16) := by omega
    have e1 : ((h + 256 * y) / 16 + (h + 256 * y)) % 256 = h / 16 + h + 16 * (y % 16) := by rw [e0]; omega
    have e2 : ((h + 256 * y) / 16 + (h + 256 * y)) / 256 = y / 16 + y := by rw [e0]; omega
    rw [e1, e2, nat_mask4]
    omega
theorem popN_byte (x : Nat) : ∀ m, popN x (8 + m) = popN (x % 256) 8 + popN (x / 256) m
  | 0 => by
    simp only [popN, Nat.add_zero]
    omega
  | m + 1 => by
    show popN x (8 + m) + x / 2 ^ (8 + m) % 2 = popN (x % 256) 8 + (popN (x / 256) m + x / 256 / 2 ^ m % 2)
    rw [popN_byte x m, Nat.pow_add, ← Nat.div_div_eq_div_mul, show (2 : Nat) ^ 8 = 256 from rfl]
    omega
def bsum : Nat → Nat → Nat
  | 0, _ => 0
  | n + 1, x => popN (x % 256) 8 + bsum n (x / 256)
theorem bsum_pop : ∀ (n x : Nat), popN x (8 * n) = bsum n x
  | 0, x => rfl
  | n + 1, x => by
    rw [show 8 * (n + 1) = 8 + 8 * n by omega, popN_byte, bsum_pop n]
    rfl
theorem fold8a (a0 a1 a2 a3 a4 a5 a6 a7 X Y Z : Nat) (h0 : a0 ≤ 8) (h1 : a1 ≤ 8) (h2 : a2 ≤ 8) (h3 : a3 ≤ 8) (h4 : a4 ≤ 8) (h5 : a5 ≤ 8) (h6 : a6 ≤ 8) (h7 : a7 ≤ 8)
    (hX : X = a0 + 256 * a1 + 65536 * a2 + 16777216 * a3 + 4294967296 * a4 + 1099511627776 * a5 + 281474976710656 * a6 + 72057594037927936 * a7) :
    X / 256 = a1 + 256 * a2 + 65536 * a3 + 16777216 * a4 + 4294967296 * a5 + 1099511627776 * a6 + 281474976710656 * a7 := by omega
theorem fold8b (a0 a1 a2 a3 a4 a5 a6 a7 Y : Nat) (h0 : a0 ≤ 8) (h1 : a1 ≤ 8) (h2 : a2 ≤ 8) (h3 : a3 ≤ 8) (h4 : a4 ≤ 8) (h5 : a5 ≤ 8) (h6 : a6 ≤ 8) (h7 : a7 ≤ 8)
    (hY : Y = (a0 + a1) + 256 * (a1 + a2) + 65536 * ((a2 + a3) + 256 * (a3 + a4) + 65536 * (a4 + a5) + 16777216 * (a5 + a6) + 4294967296 * (a6 + a7) + 1099511627776 * a7)) :
    Y / 65536 = (a2 + a3) + 256 * (a3 + a4) + 65536 * (a4 + a5) + 16777216 * (a5 + a6) + 4294967296 * (a6 + a7) + 1099511627776 * a7 := by omega
theorem fold8c (a0 a1 a2 a3 a4 a5 a6 a7 Z : Nat) (h0 : a0 ≤ 8) (h1 : a1 ≤ 8) (h2 : a2 ≤ 8) (h3 : a3 ≤ 8) (h4 : a4 ≤ 8) (h5 : a5 ≤ 8) (h6 : a6 ≤ 8) (h7 : a7 ≤ 8)
    (hZ : Z = ((a0 + a1 + a2 + a3) + 256 * (a1 + a2 + a3 + a4) + 65536 * (a2 + a3 + a4 + a5) + 16777216 * (a3 + a4 + a5 + a6)) + 4294967296 * ((a4 + a5 + a6 + a7) + 256 * (a5 + a6 + a7) + 65536 * (a6 + a7) + 16777216 * a7)) :
    Z / 4294967296 = (a4 + a5 + a6 + a7) + 256 * (a5 + a6 + a7) + 65536 * (a6 + a7) + 16777216 * a7 := by omega
theorem fold8 (a0 a1 a2 a3 a4 a5 a6 a7 : Nat) (h0 : a0 ≤ 8) (h1 : a1 ≤ 8) (h2 : a2 ≤ 8) (h3 : a3 ≤ 8) (h4 : a4 ≤ 8) (h5 : a5 ≤ 8) (h6 : a6 ≤ 8) (h7 : a7 ≤ 8) : ∀ X : Nat, X = a0 + 256 * (a1 + 256 * (a2 + 256 * (a3 + 256 * (a4 + 256 * (a5 + 256 * (a6 + 256 * (a7 + 256 * 0))))))) →
    (X + X / 256 + (X + X / 256) / 65536 + (X + X / 256 + (X + X / 256) / 65536) / 4294967296) % 128 = a0 + (a1 + (a2 + (a3 + (a4 + (a5 + (a6 + (a7 + 0))))))) := by
  intro X hX
  have g1 := fold8a a0 a1 a2 a3 a4 a5 a6 a7 X 0 0 h0 h1 h2 h3 h4 h5 h6 h7 (by omega)
  obtain ⟨Y, hY⟩ : ∃ Y, X + X / 256 = Y := ⟨_, rfl⟩
  rw [hY]
  have g2 := fold8b a0 a1 a2 a3 a4 a5 a6 a7 Y h0 h1 h2 h3 h4 h5 h6 h7 (by omega)
  obtain ⟨Z, hZ⟩ : ∃ Z, Y + Y / 65536 = Z := ⟨_, rfl⟩
  rw [hZ]
  have g3 := fold8c a0 a1 a2 a3 a4 a5 a6 a7 Z h0 h1 h2 h3 h4 h5 h6 h7 (by omega)
  rw [g3]
  have g4 : Z = ((a0 + a1 + a2 + a3) + 256 * (a1 + a2 + a3 + a4) + 65536 * (a2 + a3 + a4 + a5) + 16777216 * (a3 + a4 + a5 + a6)) + 4294967296 * ((a4 + a5 + a6 + a7) + 256 * (a5 + a6 + a7) + 65536 * (a6 + a7) + 16777216 * a7) := by omega
  rw [g4]
  clear g1 g2 g3 g4 hX hY hZ
  omega
/-- All of them. -/
theorem swar (x : Nat) (h : x < 18446744073709551616) : ∃ x1 x2 x3 : Nat, ((x / 2) &&& 6148914691236517205) + (x &&& 6148914691236517205) = x1 ∧ ((x1 / 4) &&& 3689348814741910323) + (x1 &&& 3689348814741910323) = x2 ∧ (x2 / 16 + x2) &&& 1085102592571150095 = x3 ∧
    x1 < 18446744073709551616 ∧ x2 < 18446744073709551616 ∧ x2 / 16 + x2 < 18446744073709551616 ∧ x3 < 651061555542690057 ∧
    (x3 + x3 / 256 + (x3 + x3 / 256) / 65536 + (x3 + x3 / 256 + (x3 + x3 / 256) / 65536) / 4294967296) % 128 = popN x 64 := by
  refine ⟨bw f1 8 x, bw (fun b => f2 (f1 b)) 8 x, bw (fun b => popN b 8) 8 x, ?_, ?_, ?_, ?_, ?_, ?_, ?_, ?_⟩
  · exact swar1 8 x
  · rw [← bw_comp]; exact swar2 8 _
  · exact swar3 8 x
  · have hb : ∀ b, b < 256 → f1 b ≤ 170 := by decide +kernel
    simp only [bw]
    have h0 := hb (x % 256) (by omega)
    have h1 := hb (x / 256 % 256) (by omega)
    have h2 := hb (x / 256 / 256 % 256) (by omega)
    have h3 := hb (x / 256 / 256 / 256 % 256) (by omega)
    have h4 := hb (x / 256 / 256 / 256 / 256 % 256) (by omega)
    have h5 := hb (x / 256 / 256 / 256 / 256 / 256 % 256) (by omega)
    have h6 := hb (x / 256 / 256 / 256 / 256 / 256 / 256 % 256) (by omega)
    have h7 := hb (x / 256 / 256 / 256 / 256 / 256 / 256 / 256 % 256) (by omega)
    omega
  · have hb : ∀ b, b < 256 → f2 (f1 b) ≤ 68 := by decide +kernel
    simp only [bw]
    have h0 := hb (x % 256) (by omega)
    have h1 := hb (x / 256 % 256) (by omega)
    have h2 := hb (x / 256 / 256 % 256) (by omega)
    have h3 := hb (x / 256 / 256 / 256 % 256) (by omega)
    have h4 := hb (x / 256 / 256 / 256 / 256 % 256) (by omega)
    have h5 := hb (x / 256 / 256 / 256 / 256 / 256 % 256) (by omega)
    have h6 := hb (x / 256 / 256 / 256 / 256 / 256 / 256 % 256) (by omega)
    have h7 := hb (x / 256 / 256 / 256 / 256 / 256 / 256 / 256 % 256) (by omega)
    omega
  · have hb : ∀ b, b < 256 → f2 (f1 b) ≤ 68 := by decide +kernel
    simp only [bw]
    have h0 := hb (x % 256) (by omega)
    have h1 := hb (x / 256 % 256) (by omega)
    have h2 := hb (x / 256 / 256 % 256) (by omega)
    have h3 := hb (x / 256 / 256 / 256 % 256) (by omega)
    have h4 := hb (x / 256 / 256 / 256 / 256 % 256) (by omega)
    have h5 := hb (x / 256 / 256 / 256 / 256 / 256 % 256) (by omega)
    have h6 := hb (x / 256 / 256 / 256 / 256 / 256 / 256 % 256) (by omega)
    have h7 := hb (x / 256 / 256 / 256 / 256 / 256 / 256 / 256 % 256) (by omega)
    generalize f2 (f1 (x % 256)) = a0 at *
    generalize f2 (f1 (x / 256 % 256)) = a1 at *
    generalize f2 (f1 (x / 256 / 256 % 256)) = a2 at *
    generalize f2 (f1 (x / 256 / 256 / 256 % 256)) = a3 at *
    generalize f2 (f1 (x / 256 / 256 / 256 / 256 % 256)) = a4 at *
    generalize f2 (f1 (x / 256 / 256 / 256 / 256 / 256 % 256)) = a5 at *
    generalize f2 (f1 (x / 256 / 256 / 256 / 256 / 256 / 256 % 256)) = a6 at *
    generalize f2 (f1 (x / 256 / 256 / 256 / 256 / 256 / 256 / 256 % 256)) = a7 at *
    omega
  · have hb := fun b => popN_le b 8
    simp only [bw]
    have h0 := hb (x % 256)
    have h1 := hb (x / 256 % 256)
    have h2 := hb (x / 256 / 256 % 256)
    have h3 := hb (x / 256 / 256 / 256 % 256)
    have h4 := hb (x / 256 / 256 / 256 / 256 % 256)
    have h5 := hb (x / 256 / 256 / 256 / 256 / 256 % 256)
    have h6 := hb (x / 256 / 256 / 256 / 256 / 256 / 256 % 256)
    have h7 := hb (x / 256 / 256 / 256 / 256 / 256 / 256 / 256 % 256)
    omega
  · have hb := fun b => popN_le b 8
    rw [show (64 : Nat) = 8 * 8 from rfl, bsum_pop]
    simp only [bw, bsum]
    have h0 := hb (x % 256)
    have h1 := hb (x / 256 % 256)
    have h2 := hb (x / 256 / 256 % 256)
    have h3 := hb (x / 256 / 256 / 256 % 256)
    have h4 := hb (x / 256 / 256 / 256 / 256 % 256)
    have h5 := hb (x / 256 / 256 / 256 / 256 / 256 % 256)
    have h6 := hb (x / 256 / 256 / 256 / 256 / 256 / 256 % 256)
    have h7 := hb (x / 256 / 256 / 256 / 256 / 256 / 256 / 256 % 256)
    generalize popN (x % 256) 8 = a0 at *
    generalize popN (x / 256 % 256) 8 = a1 at *
    generalize popN (x / 256 / 256 % 256) 8 = a2 at *
    generalize popN (x / 256 / 256 / 256 % 256) 8 = a3 at *
    generalize popN (x / 256 / 256 / 256 / 256 % 256) 8 = a4 at *
    generalize popN (x / 256 / 256 / 256 / 256 / 256 % 256) 8 = a5 at *
    generalize popN (x / 256 / 256 / 256 / 256 / 256 / 256 % 256) 8 = a6 at *
    generalize popN (x / 256 / 256 / 256 / 256 / 256 / 256 / 256 % 256) 8 = a7 at *
    exact fold8 a0 a1 a2 a3 a4 a5 a6 a7 h0 h1 h2 h3 h4 h5 h6 h7 _ rfl
end Go.Proofs.YtenghpgnhmglpaaDoor
