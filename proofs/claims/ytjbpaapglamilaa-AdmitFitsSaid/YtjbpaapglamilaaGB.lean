/- Plain arithmetic of long division by halves. No condition. What math/bits.Div64 answers where it does not panic: the quotient and the rest. Conditions: words; the high word below the divisor. What math/bits.Div64 and the program's own Div answer. Conditions: words. What the document's own Div answers. Conditions: words. -/
import Derived.Test.YtjbpaapglamilaaGA
import Derived.Test.YtjbpaapglamilaaShelf
import Derived.Deep.DeepCutAuto
import Derived.Deep.CutBlock
import Derived.LoopTactic
import Derived.Lib.ItoaNum
namespace Go.Proofs.Ytjbpaapglamilaa.W
set_option linter.unusedVariables false

/-- q is how many times Y is in N. -/
def QP (N Y q : Int) : Prop := 0 ≤ q ∧ q ≤ 4294967295 ∧ q * Y ≤ N ∧ N < (q + 1) * Y
/-- What holds of a guess q and its rest r (u: what is divided; Y1, Y0: the halves of the divisor; m: the half that comes down). -/
def QI (u Y1 Y0 m q r : Int) : Prop := 0 ≤ q ∧ q ≤ 4294967297 ∧ 0 ≤ r ∧ r ≤ 4294967295 ∧ q * Y1 + r = u ∧ u * 4294967296 + m < (q + 1) * (Y1 * 4294967296 + Y0)

theorem qy (q Y1 Y0 : Int) : q * (Y1 * 4294967296 + Y0) = q * Y1 * 4294967296 + q * Y0 := by
  rw [Int.mul_add, ← Int.mul_assoc]
theorem qy1 (q Y : Int) : (q + 1) * Y = q * Y + Y := by rw [Int.add_mul, Int.one_mul]
theorem qym (q Y : Int) : (q - 1) * Y = q * Y - Y := by rw [Int.sub_mul, Int.one_mul]

theorem QI_start {u Y1 Y0 m : Int} (h1 : 2147483648 ≤ Y1) (h2 : Y1 ≤ 4294967295) (h3 : 0 ≤ Y0) (h4 : Y0 ≤ 4294967295) (u0 : 0 ≤ u) (u1 : u < Y1 * 4294967296 + Y0) (m0 : 0 ≤ m) (m1 : m ≤ 4294967295) :
    QI u Y1 Y0 m (u / Y1) (u - u / Y1 * Y1) := by
  have d := Int.mul_ediv_add_emod u Y1
  have e0 := Int.emod_nonneg u (show Y1 ≠ 0 by omega)
  have e1 := Int.emod_lt_of_pos u (show 0 < Y1 by omega)
  have q0 : 0 ≤ u / Y1 := Int.ediv_nonneg u0 (by omega)
  obtain ⟨q, hq⟩ : ∃ q, u / Y1 = q := ⟨_, rfl⟩
  rw [hq] at d q0 ⊢
  rw [Int.mul_comm] at d
  have hb : q ≤ 4294967297 := by
    rcases Int.lt_or_le 4294967297 q with h | h
    · have := Int.mul_le_mul_of_nonneg_right (show 4294967298 ≤ q by omega) (show 0 ≤ Y1 by omega)
      omega
    · exact h
  refine ⟨q0, hb, by omega, by omega, by omega, ?_⟩
  have p0 := Int.mul_nonneg q0 h3
  rw [qy1, qy]
  omega
theorem QI_next {u Y1 Y0 m q r : Int} (h1 : 2147483648 ≤ Y1) (h2 : Y1 ≤ 4294967295) (h3 : 0 ≤ Y0) (h4 : Y0 ≤ 4294967295) (u0 : 0 ≤ u) (u1 : u < Y1 * 4294967296 + Y0) (m0 : 0 ≤ m) (m1 : m ≤ 4294967295)
    (H : QI u Y1 Y0 m q r) (T : 4294967296 ≤ q ∨ q * Y0 > 4294967296 * r + m) : 1 ≤ q ∧ u * 4294967296 + m < q * (Y1 * 4294967296 + Y0) ∧ q - 1 ≤ 4294967296 ∧ (q - 1) * Y1 + (r + Y1) = u := by
  obtain ⟨q0, q1, r0, r1, e, f⟩ := H
  rw [qym]
  refine ⟨?_, ?_, by omega, by omega⟩
  · rcases T with T | T
    · omega
    · rcases Int.lt_or_le 0 q with h | h
      · omega
      · obtain rfl : q = 0 := by omega
        simp at T; omega
  · rw [qy]
    rcases T with T | T
    · have a := Int.mul_le_mul_of_nonneg_right T (show 0 ≤ Y1 by omega)
      have b := Int.mul_le_mul_of_nonneg_right T h3
      omega
    · omega
theorem QI_go {u Y1 Y0 m q r : Int} (h1 : 2147483648 ≤ Y1) (h2 : Y1 ≤ 4294967295) (h3 : 0 ≤ Y0) (h4 : Y0 ≤ 4294967295) (u0 : 0 ≤ u) (u1 : u < Y1 * 4294967296 + Y0) (m0 : 0 ≤ m) (m1 : m ≤ 4294967295)
    (H : QI u Y1 Y0 m q r) (T : 4294967296 ≤ q ∨ q * Y0 > 4294967296 * r + m) (k : r + Y1 < 4294967296) : QI u Y1 Y0 m (q - 1) (r + Y1) := by
  obtain ⟨a, b, c, d⟩ := QI_next h1 h2 h3 h4 u0 u1 m0 m1 H T
  obtain ⟨q0, q1, r0, r1, e, f⟩ := H
  exact ⟨by omega, by omega, by omega, by omega, d, by rw [show q - 1 + 1 = q by omega]; exact b⟩
theorem QP_break {u Y1 Y0 m q r : Int} (h1 : 2147483648 ≤ Y1) (h2 : Y1 ≤ 4294967295) (h3 : 0 ≤ Y0) (h4 : Y0 ≤ 4294967295) (u0 : 0 ≤ u) (u1 : u < Y1 * 4294967296 + Y0) (m0 : 0 ≤ m) (m1 : m ≤ 4294967295)
    (H : QI u Y1 Y0 m q r) (T : 4294967296 ≤ q ∨ q * Y0 > 4294967296 * r + m) (k : 4294967296 ≤ r + Y1) : QP (u * 4294967296 + m) (Y1 * 4294967296 + Y0) (q - 1) := by
  obtain ⟨a, b, c, d⟩ := QI_next h1 h2 h3 h4 u0 u1 m0 m1 H T
  obtain ⟨q0, q1, r0, r1, e, f⟩ := H
  have g : (q - 1) * (Y1 * 4294967296 + Y0) ≤ u * 4294967296 + m := by
    rw [qy]
    have := Int.mul_le_mul_of_nonneg_right c h3
    omega
  refine ⟨by omega, ?_, g, by rw [show q - 1 + 1 = q by omega]; exact b⟩
  rcases Int.lt_or_le 4294967295 (q - 1) with h | h
  · have := Int.mul_le_mul_of_nonneg_right (show 4294967296 ≤ q - 1 by omega) (show 0 ≤ Y1 * 4294967296 + Y0 by omega)
    omega
  · exact h
theorem QP_done {u Y1 Y0 m q r : Int} (H : QI u Y1 Y0 m q r) (T1 : q < 4294967296) (T2 : q * Y0 ≤ 4294967296 * r + m) : QP (u * 4294967296 + m) (Y1 * 4294967296 + Y0) q := by
  obtain ⟨q0, q1, r0, r1, e, f⟩ := H
  refine ⟨q0, by omega, ?_, f⟩
  rw [qy]
  omega

/-- Two digits of a quotient, put together; P: what both are multiplied by. -/
theorem digits {V n P Y U M m1 m0 : Int} (hn : 0 < n) (hP : 0 < P) (hY : Y = n * P) (hN : U * 18446744073709551616 + M = V * P) (hm1 : M / 4294967296 = m1) (hm0 : M % 4294967296 = m0) (q1 q0 : Int)
    (h1 : QP (U * 4294967296 + m1) Y q1) (h0 : QP ((U * 4294967296 + m1 - q1 * Y) * 4294967296 + m0) Y q0) :
    q1 * 4294967296 + q0 = V / n ∧ (U * 4294967296 + m1 - q1 * Y) * 4294967296 + m0 - q0 * Y = V % n * P := by
  obtain ⟨a0, a1, a2, a3⟩ := h0
  rw [qy1] at a3
  have d := Int.mul_ediv_add_emod V n
  have r0 := Int.emod_nonneg V (show n ≠ 0 by omega)
  have r1 := Int.emod_lt_of_pos V hn
  have hYp : 0 < Y := by rw [hY]; exact Int.mul_pos hn hP
  have e1 : V * P = V % n * P + Y * (V / n) := by
    have : V * P = (n * (V / n) + V % n) * P := by rw [d]
    rw [this, Int.add_mul, hY, Int.mul_assoc, Int.mul_comm (V / n) P, ← Int.mul_assoc, Int.add_comm]
  have k1 : 0 ≤ V % n * P := Int.mul_nonneg r0 (by omega)
  have k2 : V % n * P < Y := by rw [hY]; exact Int.mul_lt_mul_of_pos_right r1 hP
  have u1 := (Int.ediv_emod_unique (a := V * P) (r := V % n * P) (q := V / n) hYp).2 ⟨e1.symm, k1, k2⟩
  have e2 : Y * (q1 * 4294967296 + q0) = q1 * Y * 4294967296 + q0 * Y := by
    rw [Int.mul_add, Int.mul_comm Y q0, ← Int.mul_assoc, Int.mul_comm Y q1]
  have u2 := (Int.ediv_emod_unique (a := V * P) (r := (U * 4294967296 + m1 - q1 * Y) * 4294967296 + m0 - q0 * Y) (q := q1 * 4294967296 + q0) hYp).2 ⟨by rw [e2]; omega, by omega, by omega⟩
  exact ⟨u2.1.symm.trans u1.1, u2.2.symm.trans u1.2⟩

/-- What is shifted: a divisor of 64 bits. -/
theorem shifted {h l n P P' : Int} (hh : 0 ≤ h) (hn : h < n) (l0 : 0 ≤ l) (l1 : l < 18446744073709551616) (hP : 0 < P) (hP' : 0 < P') (hPP : P * P' = 18446744073709551616) (y1 : n * P < 18446744073709551616) :
    0 ≤ h * P ∧ h * P + P ≤ n * P ∧ 0 ≤ l / P' ∧ l / P' < P ∧ (h * P + l / P') * 18446744073709551616 + l * P % 18446744073709551616 = (h * 18446744073709551616 + l) * P := by
  have a1 := Int.mul_nonneg hh (show 0 ≤ P by omega)
  have a2 := Int.mul_le_mul_of_nonneg_right (show h + 1 ≤ n by omega) (show 0 ≤ P by omega)
  rw [Int.add_mul, Int.one_mul] at a2
  have a3 : 0 ≤ l / P' := Int.ediv_nonneg l0 (by omega)
  have a4 : l / P' < P := by
    apply Int.ediv_lt_of_lt_mul hP'
    rw [hPP]; exact l1
  have a5 : l * P / 18446744073709551616 = l / P' := by
    rw [← hPP, Int.mul_comm P P']
    exact Int.mul_ediv_mul_of_pos_left l P' hP
  have a6 := Int.mul_ediv_add_emod (l * P) 18446744073709551616
  rw [a5] at a6
  refine ⟨a1, a2, a3, a4, ?_⟩
  rw [Int.add_mul, Int.add_mul, Int.mul_assoc h 18446744073709551616 P, Int.mul_comm 18446744073709551616 P, ← Int.mul_assoc]
  omega

theorem pow_split {k e : Nat} (h : e + k = 64) : (2 : Int) ^ e * 2 ^ k = 18446744073709551616 := by
  rw [← Int.pow_add, h]; rfl
theorem pow_pos2 (e : Nat) : (0 : Int) < 2 ^ e := Int.pow_pos (by omega)
theorem norm_bounds {n : Int} {k e : Nat} (hk : 1 ≤ k) (h : e + k = 64) (h1 : (2 : Int) ^ (k - 1) ≤ n) (h2 : n < 2 ^ k) : 9223372036854775808 ≤ n * 2 ^ e ∧ n * 2 ^ e < 18446744073709551616 := by
  have p := pow_pos2 e
  have a := Int.mul_le_mul_of_nonneg_right h1 (show (0 : Int) ≤ 2 ^ e by omega)
  have b := Int.mul_lt_mul_of_pos_right h2 p
  rw [← Int.pow_add, show k - 1 + e = 63 by omega] at a
  rw [← Int.pow_add, show k + e = 64 by omega] at b
  exact ⟨by simpa using a, by simpa using b⟩
theorem d_zero (h l : Int) : dQ h l 0 = 0 ∧ dR h l 0 = 0 ∧ dE h 0 = 2 := ⟨rfl, rfl, rfl⟩
theorem d_much {h l n : Int} (h0 : n ≠ 0) (h1 : n ≤ h) : dQ h l n = 0 ∧ dR h l n = 0 ∧ dE h n = 10 := by
  unfold dQ dR dE
  rw [if_neg h0, if_neg h0, if_neg h0, if_pos h1, if_pos h1, if_pos h1]
  exact ⟨rfl, rfl, rfl⟩
theorem d_ok {h l n : Int} (h0 : n ≠ 0) (h1 : h < n) : dQ h l n = V h l / n ∧ dR h l n = V h l % n ∧ dE h n = 0 := by
  unfold dQ dR dE
  rw [if_neg h0, if_neg h0, if_neg h0, if_neg (by omega), if_neg (by omega), if_neg (by omega)]
  exact ⟨rfl, rfl, rfl⟩

/-- Division bit by bit: what holds behind k bits (q: the quotient so far; r: the rest; lo: the bits that are still to come). -/
def DI (h l n : Int) (k : Nat) (r q lo : Int) : Prop := (q * n + r) * 18446744073709551616 + lo = V h l * 2 ^ k ∧ 0 ≤ r ∧ r < n ∧ 0 ≤ lo ∧ lo < 18446744073709551616 ∧ 0 ≤ q ∧ q < 2 ^ k
theorem DI_start {h l n : Int} (h0 : 0 ≤ h) (h1 : h < n) (l0 : 0 ≤ l) (l1 : l < 18446744073709551616) : DI h l n 0 h 0 l := by
  refine ⟨?_, h0, h1, l0, l1, by omega, by simp⟩
  unfold V; simp
theorem DI_q {h l n : Int} {k : Nat} {r q lo : Int} (H : DI h l n k r q lo) (hk : k ≤ 63) : q ≤ 9223372036854775807 := by
  obtain ⟨_, _, _, _, _, _, b⟩ := H
  have := Nat.pow_le_pow_right (show 0 < 2 by omega) hk
  have c : ((2 ^ k : Nat) : Int) ≤ ((2 ^ 63 : Nat) : Int) := by exact_mod_cast this
  have d : ((2 ^ k : Nat) : Int) = (2 : Int) ^ k := by simp
  rw [d] at c
  have e : ((2 ^ 63 : Nat) : Int) = 9223372036854775808 := by rfl
  omega
theorem DI_more {h l n : Int} {k : Nat} {r q lo b r' q' lo' : Int} (H : DI h l n k r q lo) (hb : lo' = lo * 2 - b * 18446744073709551616) (l0 : 0 ≤ lo') (l1 : lo' < 18446744073709551616)
    (hq0 : 0 ≤ q') (hq : q' ≤ 2 * q + 1) (hr0 : 0 ≤ r') (hr1 : r' < n) (hs : q' * n + r' = 2 * (q * n + r) + b) : DI h l n (k + 1) r' q' lo' := by
  obtain ⟨a, _, _, _, _, c, d⟩ := H
  refine ⟨?_, hr0, hr1, l0, l1, hq0, ?_⟩
  · rw [hs, Int.pow_succ, ← Int.mul_assoc, ← a]; omega
  · rw [Int.pow_succ]; omega
theorem DI_yes {h l n : Int} {k : Nat} {r q lo b lo' : Int} (H : DI h l n k r q lo) (b0 : 0 ≤ b) (b1 : b ≤ 1) (hb : lo' = lo * 2 - b * 18446744073709551616) (l0 : 0 ≤ lo') (l1 : lo' < 18446744073709551616) (T : n ≤ 2 * r + b) :
    DI h l n (k + 1) (r - (n - r) + b) (q * 2 + 1) lo' := by
  have H' := H
  obtain ⟨a, c, d, _, _, e, _⟩ := H'
  refine DI_more H hb l0 l1 (by omega) (by omega) (by omega) (by omega) ?_
  rw [Int.add_mul, Int.mul_assoc, Int.mul_comm 2 n, ← Int.mul_assoc]; omega
theorem DI_no {h l n : Int} {k : Nat} {r q lo b lo' : Int} (H : DI h l n k r q lo) (b0 : 0 ≤ b) (b1 : b ≤ 1) (hb : lo' = lo * 2 - b * 18446744073709551616) (l0 : 0 ≤ lo') (l1 : lo' < 18446744073709551616) (T : 2 * r + b < n) :
    DI h l n (k + 1) (2 * r + b) (q * 2) lo' := by
  have H' := H
  obtain ⟨a, c, d, _, _, e, _⟩ := H'
  refine DI_more H hb l0 l1 (by omega) (by omega) (by omega) (by omega) ?_
  rw [Int.mul_assoc, Int.mul_comm 2 n, ← Int.mul_assoc]; omega
theorem DI_end {h l n : Int} {r q lo : Int} (H : DI h l n 64 r q lo) : q = V h l / n ∧ r = V h l % n := by
  obtain ⟨a, b, c, d, e, f, g⟩ := H
  have p : (2 : Int) ^ 64 = 18446744073709551616 := rfl
  rw [p] at a
  have k : r + n * q = V h l := by rw [Int.mul_comm n q]; omega
  have u := (Int.ediv_emod_unique (a := V h l) (r := r) (q := q) (show 0 < n by omega)).2 ⟨k, b, c⟩
  exact ⟨u.1.symm, u.2.symm⟩
end Go.Proofs.Ytjbpaapglamilaa.W
namespace Go.Proofs.Ytjbpaapglamilaa
open Go.RowKit W
set_option linter.unusedVariables false
set_option maxRecDepth 100000 in
set_option maxHeartbeats 1000000 in
theorem Div64_core (h l n s U M Y hp lq Y1 Y0 m1 m0 q qq r : Int) (w : World) (h0 : 1 ≤ h) (h1 : h < n)
    (hL : ∀ w, Calls Try.prog 106 #[.int .u64 n] w fun e w' => e = .returned (.int .i64 s) ∧ w = w') (s0 : 0 ≤ s) (s1 : s ≤ 63)
    (e1 : IntKind.u64.wrap (n * 2 ^ s.toNat) = Y) (e2 : IntKind.u64.wrap (h * 2 ^ s.toNat) = hp) (e3 : l / 2 ^ (64 - s).toNat = lq) (e4 : bits BinOp.or IntKind.u64 hp lq = U) (e5 : IntKind.u64.wrap (l * 2 ^ s.toNat) = M)
    (e6 : Y / 4294967296 = Y1) (e7 : Y % 4294967296 = Y0) (e8 : M / 4294967296 = m1) (e9 : M % 4294967296 = m0)
    (e10 : U / Y1 = q) (e11 : IntKind.u64.wrap (q * Y1) = qq) (e12 : IntKind.u64.wrap (U - qq) = r)
    (y1 : 2147483648 ≤ Y1) (y2 : Y1 ≤ 4294967295) (y3 : 0 ≤ Y0) (y4 : Y0 ≤ 4294967295) (u0 : 0 ≤ U) (u1 : U < Y1 * 4294967296 + Y0) (m10 : 0 ≤ m1) (m11 : m1 ≤ 4294967295) (m00 : 0 ≤ m0) (m01 : m0 ≤ 4294967295) (hq : QI U Y1 Y0 m1 (U / Y1) r) (Q R : Int)
    (yy : Hid (Y = Y1 * 4294967296 + Y0)) (hQR : Hid (∀ q1 q0 : Int, QP (U * 4294967296 + m1) Y q1 → QP ((U * 4294967296 + m1 - q1 * Y) * 4294967296 + m0) Y q0 → q1 * 4294967296 + q0 = Q ∧ (U * 4294967296 + m1 - q1 * Y) * 4294967296 + m0 - q0 * Y = R)) :
    Calls Try.prog 95 #[.int .u64 h, .int .u64 l, .int .u64 n] w fun e w' => e = .returned (.tuple #[.int .u64 Q, .int .u64 (R / 2 ^ s.toNat)]) ∧ w = w' := by
  have hm := and_mask_all
  have hh : (h == 0) = false := by simp; omega
  go_enter Try.func95, Try.ntmps95
  go_upto_block 0 with (go_at_call 106; (with_reducible refine (hL _).mono ?_); rintro e w1 ⟨rfl, rfl⟩)
  go_cut [15, 16] from 19 (fun s15 s16 wc => ∃ q1 r1 : Int, s15 = .int .u64 q1 ∧ s16 = .int .u64 r1 ∧ QP (U * 4294967296 + m1) (Y1 * 4294967296 + Y0) q1 ∧ w = wc)
  case first =>
    go_wp2
    go_loop [15, 16] (fun s15 s16 => ∃ q1 r1 : Int, s15 = .int .u64 q1 ∧ s16 = .int .u64 r1 ∧ QI U Y1 Y0 m1 q1 r1) (fun s15 _ => (intOf s15).toNat)
    case atStart => exact ⟨_, _, rfl, rfl, hq⟩
    case round =>
      obtain ⟨q1, r1, rfl, rfl, hI⟩ := hrel
      have HI := Lib.hid hI
      obtain ⟨q10, q11, r10, r11, hI5, hI6⟩ := hI
      clear hI5 hI6
      by_cases T1 : 4294967296 ≤ q1
      · by_cases T3 : 4294967296 ≤ r1 + Y1
        · have hP := Lib.hid (QP_break y1 y2 y3 y4 u0 u1 m10 m11 HI.out (.inl T1) T3)
          clear HI
          go_wp2
          go_meet
          exact ⟨_, _, rfl, rfl, hP.out, rfl⟩
        · have hN := Lib.hid (QI_go y1 y2 y3 y4 u0 u1 m10 m11 HI.out (.inl T1) (by omega))
          clear HI
          go_wp2
          go_round
          case rel => exact ⟨_, _, rfl, rfl, hN.out⟩
          case measure => simp [intOf]; omega
      · obtain ⟨a0, a1⟩ := half_mul (x := q1) (y := Y0) ⟨by omega, by omega⟩ ⟨by omega, by omega⟩
        by_cases T2 : 4294967296 * r1 + m1 < q1 * Y0
        · have T4 : 1 ≤ q1 := (QI_next y1 y2 y3 y4 u0 u1 m10 m11 HI.out (.inr T2)).1
          by_cases T3 : 4294967296 ≤ r1 + Y1
          · have hP := Lib.hid (QP_break y1 y2 y3 y4 u0 u1 m10 m11 HI.out (.inr T2) T3)
            clear HI
            go_wp2
            go_meet
            exact ⟨_, _, rfl, rfl, hP.out, rfl⟩
          · have hN := Lib.hid (QI_go y1 y2 y3 y4 u0 u1 m10 m11 HI.out (.inr T2) (by omega))
            clear HI
            go_wp2
            go_round
            case rel => exact ⟨_, _, rfl, rfl, hN.out⟩
            case measure => simp [intOf]; omega
        · have hP := Lib.hid (QP_done HI.out (by omega) (by omega))
          clear HI
          go_wp2
          go_meet
          exact ⟨_, _, rfl, rfl, hP.out, rfl⟩
  case rest =>
    obtain ⟨q1, r1, rfl, rfl, hP, rfl⟩ := hcut
    have hY := yy.out
    have hP' := Lib.hid hP
    rw [← hY] at hP
    obtain ⟨b0, b1, b2, b3⟩ := hP
    rw [qy1] at b3
    obtain ⟨A, eA⟩ : ∃ A, q1 * Y = A := ⟨_, rfl⟩
    rw [eA] at b2 b3
    obtain ⟨X, eX⟩ : ∃ X, U * 4294967296 + m1 - A = X := ⟨_, rfl⟩
    have x0 : 0 ≤ X := by omega
    have x1 : X < Y1 * 4294967296 + Y0 := by omega
    obtain ⟨z1, f1⟩ : ∃ z, IntKind.u64.wrap (U * 4294967296) = z := ⟨_, rfl⟩
    obtain ⟨z2, f2⟩ : ∃ z, IntKind.u64.wrap (z1 + m1) = z := ⟨_, rfl⟩
    obtain ⟨z3, f3⟩ : ∃ z, IntKind.u64.wrap (q1 * Y) = z := ⟨_, rfl⟩
    have f4 : IntKind.u64.wrap (z2 - z3) = X := by
      rw [← f2, ← f1, ← f3, eA]
      simp only [IntKind.wrap_u64]
      omega
    have HX := Lib.hid eX
    have HA := Lib.hid eA
    have HY := Lib.hid hY
    have hq2 := Lib.hid (QI_start y1 y2 y3 y4 x0 x1 m00 m01)
    obtain ⟨c0, c1, c2, c3, c4, c5⟩ := hq2.out
    obtain ⟨t, f5⟩ : ∃ t, IntKind.u64.wrap (X / Y1 * Y1) = t := ⟨_, rfl⟩
    have f6 : IntKind.u64.wrap (X - t) = X - X / Y1 * Y1 := by
      rw [← f5]
      simp only [IntKind.wrap_u64]
      omega
    clear eX eA hY b2 b3 c4 c5
    go_upto_block 2 with (fail)
    go_cut [18, 16] from 19 (fun s18 s16 wc => ∃ q0 r0 : Int, s18 = .int .u64 q0 ∧ s16 = .int .u64 r0 ∧ QP (X * 4294967296 + m0) (Y1 * 4294967296 + Y0) q0 ∧ w = wc)
    case first =>
      go_wp2
      go_loop [18, 16] (fun s18 s16 => ∃ q0 r0 : Int, s18 = .int .u64 q0 ∧ s16 = .int .u64 r0 ∧ QI X Y1 Y0 m0 q0 r0) (fun s18 _ => (intOf s18).toNat)
      case atStart => exact ⟨_, _, rfl, rfl, hq2.out⟩
      case round =>
        obtain ⟨q0, r0, rfl, rfl, hI⟩ := hrel
        have HI := Lib.hid hI
        obtain ⟨q00, q01, r00, r01, hI5, hI6⟩ := hI
        clear hI5 hI6
        by_cases T1 : 4294967296 ≤ q0
        · by_cases T3 : 4294967296 ≤ r0 + Y1
          · have hP := Lib.hid (QP_break y1 y2 y3 y4 x0 x1 m00 m01 HI.out (.inl T1) T3)
            clear HI
            go_wp2
            go_meet
            exact ⟨_, _, rfl, rfl, hP.out, rfl⟩
          · have hN := Lib.hid (QI_go y1 y2 y3 y4 x0 x1 m00 m01 HI.out (.inl T1) (by omega))
            clear HI
            go_wp2
            go_round
            case rel => exact ⟨_, _, rfl, rfl, hN.out⟩
            case measure => simp [intOf]; omega
        · obtain ⟨a0, a1⟩ := half_mul (x := q0) (y := Y0) ⟨by omega, by omega⟩ ⟨by omega, by omega⟩
          by_cases T2 : 4294967296 * r0 + m0 < q0 * Y0
          · have T4 : 1 ≤ q0 := (QI_next y1 y2 y3 y4 x0 x1 m00 m01 HI.out (.inr T2)).1
            by_cases T3 : 4294967296 ≤ r0 + Y1
            · have hP := Lib.hid (QP_break y1 y2 y3 y4 x0 x1 m00 m01 HI.out (.inr T2) T3)
              clear HI
              go_wp2
              go_meet
              exact ⟨_, _, rfl, rfl, hP.out, rfl⟩
            · have hN := Lib.hid (QI_go y1 y2 y3 y4 x0 x1 m00 m01 HI.out (.inr T2) (by omega))
              clear HI
              go_wp2
              go_round
              case rel => exact ⟨_, _, rfl, rfl, hN.out⟩
              case measure => simp [intOf]; omega
          · have hP := Lib.hid (QP_done HI.out (by omega) (by omega))
            clear HI
            go_wp2
            go_meet
            exact ⟨_, _, rfl, rfl, hP.out, rfl⟩
    case rest =>
      obtain ⟨q0, r0, rfl, rfl, hP2, rfl⟩ := hcut
      have hY := HY.out
      obtain ⟨kQ, kR⟩ := hQR.out q1 q0 (by rw [hY]; exact hP'.out) (by rw [hY, ← hY, HA.out, HX.out, hY]; exact hP2)
      have hP3 := hP2
      rw [← hY] at hP3
      obtain ⟨d0, d1, d2, d3⟩ := hP3
      rw [qy1] at d3
      rw [HA.out, HX.out] at kR
      obtain ⟨B, eB⟩ : ∃ B, q0 * Y = B := ⟨_, rfl⟩
      rw [eB] at d2 d3 kR
      obtain ⟨z4, f7⟩ : ∃ z, IntKind.u64.wrap (X * 4294967296) = z := ⟨_, rfl⟩
      obtain ⟨z5, f8⟩ : ∃ z, IntKind.u64.wrap (z4 + m0) = z := ⟨_, rfl⟩
      obtain ⟨z6, f9⟩ : ∃ z, IntKind.u64.wrap (q0 * Y) = z := ⟨_, rfl⟩
      have r0 : 0 ≤ R := by omega
      have r1 : R < 18446744073709551616 := by omega
      have f10 : IntKind.u64.wrap (z5 - z6) = R := by
        rw [← f8, ← f7, ← f9, eB]
        simp only [IntKind.wrap_u64]
        omega
      clear hP2 eB kR hY d2 d3 hP' HA HX HY hQR yy hq
      go_wp2
      go_ret2
      exact ⟨rfl, rfl⟩
end Go.Proofs.Ytjbpaapglamilaa
namespace Go.Proofs.Ytjbpaapglamilaa
open Go.RowKit W
set_option linter.unusedVariables false

theorem or_pow (e : Nat) (x y : Int) (hx : 0 ≤ x) (hx1 : x * 2 ^ e < 18446744073709551616) (hy : 0 ≤ y) (hy1 : y < 2 ^ e) (hs : x * 2 ^ e + y < 18446744073709551616) : bits BinOp.or IntKind.u64 (x * 2 ^ e) y = x * 2 ^ e + y := by
  obtain ⟨n, rfl⟩ := Int.eq_ofNat_of_zero_le hx
  obtain ⟨m, rfl⟩ := Int.eq_ofNat_of_zero_le hy
  have ee : ((2 : Int) ^ e) = ((2 ^ e : Nat) : Int) := by simp
  rw [ee] at hx1 hy1 hs ⊢
  rw [← Int.natCast_mul] at hx1 hs ⊢
  have h := bits_or_u64_nat (n * 2 ^ e) m (by omega) (by omega)
  have g : n * 2 ^ e ||| m = n * 2 ^ e + m := by
    have := Nat.two_pow_add_eq_or_of_lt (i := e) (b := m) (by omega) n
    rw [Nat.mul_comm]
    exact this.symm
  rw [g] at h
  exact h.trans (by omega)

theorem Div64_big (h l n : Int) (w : World) (h0 : 1 ≤ h) (h1 : h < n) (n1 : n < 18446744073709551616) (l0 : 0 ≤ l) (l1 : l < 18446744073709551616) :
    Calls Try.prog 95 #[.int .u64 h, .int .u64 l, .int .u64 n] w fun e w' => e = .returned (.tuple #[.int .u64 (V h l / n), .int .u64 (V h l % n)]) ∧ Below w.heap.size w w' := by
  obtain ⟨k1, k2, k3⟩ := Lib.bitLenAux_bounds 64 n.toNat (by omega) (by omega)
  have hL := fun w => Try.bits_LeadingZeros64 n w (by omega) (by omega)
  have hb : Lib.bitLen n.toNat = Lib.bitLenAux 64 n.toNat := rfl
  rw [hb] at hL
  obtain ⟨k, ek⟩ : ∃ k, Lib.bitLenAux 64 n.toNat = k := ⟨_, rfl⟩
  rw [ek] at k1 k2 k3 hL
  clear ek hb
  have k64 : k ≤ 64 := by
    rcases Nat.lt_or_ge 64 k with c | c
    · have := Nat.pow_le_pow_right (show 0 < 2 by omega) (show 64 ≤ k - 1 by omega)
      omega
    · exact c
  obtain ⟨e, he⟩ : ∃ e, e + k = 64 := ⟨64 - k, by omega⟩
  have j2 : (2 : Int) ^ (k - 1) ≤ n := by
    have : ((2 ^ (k - 1) : Nat) : Int) ≤ (n.toNat : Int) := by omega
    rw [Int.toNat_of_nonneg (by omega)] at this
    simpa using this
  have j3 : n < (2 : Int) ^ k := by
    have : (n.toNat : Int) < ((2 ^ k : Nat) : Int) := by omega
    rw [Int.toNat_of_nonneg (by omega)] at this
    simpa using this
  obtain ⟨y1, y2⟩ := norm_bounds k1 he j2 j3
  have hPP := pow_split he
  have hP := pow_pos2 e
  have hP' := pow_pos2 k
  obtain ⟨a1, a2, a3, a4, a5⟩ := shifted (show 0 ≤ h by omega) h1 l0 l1 hP hP' hPP y2
  have t1 : (64 - (k : Int)).toNat = e := by omega
  have t2 : (64 - (64 - (k : Int))).toNat = k := by omega
  have hO := or_pow e h (l / 2 ^ k) (by omega) (by omega) a3 a4 (by omega)
  obtain ⟨P, eP⟩ : ∃ P, (2 : Int) ^ e = P := ⟨_, rfl⟩
  obtain ⟨P', eP'⟩ : ∃ P', (2 : Int) ^ k = P' := ⟨_, rfl⟩
  rw [eP] at y1 y2 hPP hP a1 a2 a4 a5 hO
  rw [eP'] at hPP hP' a3 a4 a5 hO
  have hV : V h l = h * 18446744073709551616 + l := rfl
  rw [← hV] at a5
  have hR : V h l % n * P / P = V h l % n := Int.mul_ediv_cancel _ (by omega)
  obtain ⟨Y, eY⟩ : ∃ Y, n * P = Y := ⟨_, rfl⟩
  obtain ⟨U, eU⟩ : ∃ U, h * P + l / P' = U := ⟨_, rfl⟩
  obtain ⟨M, eM⟩ : ∃ M, l * P % 18446744073709551616 = M := ⟨_, rfl⟩
  rw [eY] at y1 y2 a2
  rw [eU, eM] at a5
  have q1 : 2147483648 ≤ Y / 4294967296 := by omega
  have q2 : Y / 4294967296 ≤ 4294967295 := by omega
  have u1 : U < Y / 4294967296 * 4294967296 + Y % 4294967296 := by omega
  have hq := QI_start q1 q2 (show 0 ≤ Y % 4294967296 by omega) (show Y % 4294967296 ≤ 4294967295 by omega) (show 0 ≤ U by omega) u1 (show 0 ≤ M / 4294967296 by omega) (show M / 4294967296 ≤ 4294967295 by omega)
  have hq5 := hq.2.2.2.2.1
  have hq3 := hq.2.2.1
  have hq0 := Int.mul_nonneg hq.1 (show 0 ≤ Y / 4294967296 by omega)
  refine (Div64_core h l n (64 - (k : Int)) U M Y (h * P) (l / P') _ _ _ _ (U / (Y / 4294967296)) (U / (Y / 4294967296) * (Y / 4294967296)) (U - U / (Y / 4294967296) * (Y / 4294967296)) w h0 h1
    (fun w => (hL w).mono fun e w' ⟨x, y⟩ => ⟨x, y.symm⟩) (by omega) (by omega) ?_ ?_ ?_ ?_ ?_ rfl rfl rfl rfl rfl ?_ ?_ q1 q2 (by omega) (by omega) (by omega) u1 (by omega) (by omega) (by omega) (by omega) hq (V h l / n) (V h l % n * P) (Lib.hid (by omega)) (Lib.hid fun q1 q0 x1 x0 => digits (by omega) hP eY.symm a5 rfl rfl q1 q0 x1 x0)).mono ?_
  · rw [t1, eP, eY]; exact IntWalk.u64_in _ (by omega)
  · rw [t1, eP]; exact IntWalk.u64_in _ (by omega)
  · rw [t2, eP']
  · rw [hO]; exact eU
  · rw [t1, eP, IntKind.wrap_u64]; exact eM
  · exact IntWalk.u64_in _ (by omega)
  · exact IntWalk.u64_in _ (by omega)
  · rintro e' w' ⟨rfl, rfl⟩
    refine ⟨?_, Below.refl _ _⟩
    rw [t1, eP, hR]

theorem Div64_small (l n : Int) (w : World) (n0 : 1 ≤ n) (n1 : n < 18446744073709551616) (l0 : 0 ≤ l) (l1 : l < 18446744073709551616) :
    Calls Try.prog 95 #[.int .u64 0, .int .u64 l, .int .u64 n] w fun e w' => e = .returned (.tuple #[.int .u64 (V 0 l / n), .int .u64 (V 0 l % n)]) ∧ Below w.heap.size w w' := by
  have hV : V 0 l = l := by unfold V; omega
  rw [hV]
  have a1 : 0 ≤ l / n := Int.ediv_nonneg l0 (by omega)
  have a2 : l / n ≤ l := Int.ediv_le_self _ l0
  have hn : (n == 0) = false := by simp; omega
  go_enter Try.func95, Try.ntmps95
  go_wp2
  go_quiet (fail)
  go_wp2
  go_ret2
  exact ⟨rfl, below_drewN (Below.refl _ _) _⟩

theorem Div64_any (h l n : Int) (w : World) (hh : Word h) (hl : Word l) (hn : Word n) (h1 : h < n) :
    Calls Try.prog 95 #[.int .u64 h, .int .u64 l, .int .u64 n] w fun e w' => e = .returned (.tuple #[.int .u64 (V h l / n), .int .u64 (V h l % n)]) ∧ Below w.heap.size w w' := by
  rcases Int.lt_or_eq_of_le hh.1 with h0 | rfl
  · exact Div64_big h l n w (by omega) h1 hn.2 hl.1 hl.2
  · exact Div64_small l n w (by omega) hn.2 hl.1 hl.2

theorem Div_any (h l n : Int) (w : World) (hh : Word h) (hl : Word l) (hn : Word n) :
    Calls Try.prog 74 #[.agg #[.int .u64 h, .int .u64 l], .int .u64 n] w fun e w' => e = .returned (.tuple #[.int .u64 (dQ h l n), .int .u64 (dR h l n), .int .i64 (dE h n)]) ∧ Below w.heap.size w w' := by
  have hD := fun w h1 => Div64_any h l n w hh hl hn h1
  unfold Word at hh hl hn
  obtain ⟨a0, a1⟩ := hh; obtain ⟨b0, b1⟩ := hl; obtain ⟨c0, c1⟩ := hn
  by_cases z : n = 0
  · subst z
    obtain ⟨e1, e2, e3⟩ := d_zero h l
    rw [e1, e2, e3]
    clear e1 e2 e3
    go_enter Try.func74, Try.ntmps74
    go_wp2
    go_ret3
    exact ⟨rfl, up1 _ _⟩
  · have hz : (n == 0) = false := by simp; omega
    by_cases s : n ≤ h
    · obtain ⟨e1, e2, e3⟩ := d_much (l := l) z s
      rw [e1, e2, e3]
      clear e1 e2 e3
      go_enter Try.func74, Try.ntmps74
      go_wp2
      go_ret3
      exact ⟨rfl, up1 _ _⟩
    · obtain ⟨e1, e2, e3⟩ := d_ok (l := l) z (show h < n by omega)
      rw [e1, e2, e3]
      clear e1 e2 e3
      have s' : h < n := by omega
      clear s
      go_enter Try.func74, Try.ntmps74
      go_wp2_with (go_at_call 95; (with_reducible refine (hD _ s').mono ?_); rintro e w1 ⟨rfl, hb1⟩)
      go_ret3
      exact ⟨rfl, (up1 _ _).trans (hb1.mono (by simp))⟩
end Go.Proofs.Ytjbpaapglamilaa
namespace Go.Proofs.Ytjbpaapglamilaa
open Go.RowKit W
set_option linter.unusedVariables false


end Go.Proofs.Ytjbpaapglamilaa
