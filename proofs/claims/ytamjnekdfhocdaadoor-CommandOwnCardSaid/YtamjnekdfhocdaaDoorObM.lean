/- A number's bytes, what may be read from bytes: in plain numbers. No condition. -/
import Derived.Test.YtamjnekdfhocdaaDoorChecked
import Derived.WalkKit
namespace Go.Proofs.YtamjnekdfhocdaaDoor
set_option linter.unusedVariables false
/-- A number's bytes. -/
def numF : Nat → Nat → List UInt8
  | 0, n => [UInt8.ofNat n]
  | f + 1, n => if n < 128 then [UInt8.ofNat n] else UInt8.ofNat (128 + n % 128) :: numF f (n / 128)
theorem numF_eq : ∀ (f g n : Nat), n ≤ f → n ≤ g → numF f n = numF g n
  | 0, 0, n, _, _ => rfl
  | 0, g + 1, n, h, _ => by
    have : n = 0 := by omega
    subst this; rfl
  | f + 1, 0, n, _, h => by
    have : n = 0 := by omega
    subst this; rfl
  | f + 1, g + 1, n, h, k => by
    unfold numF
    split
    · rfl
    · rw [numF_eq f g (n / 128) (by omega) (by omega)]
def numL (n : Nat) : List UInt8 := numF n n
theorem numL_lt {n : Nat} (h : n < 128) : numL n = [UInt8.ofNat n] := by
  unfold numL
  cases n with
  | zero => rfl
  | succ n => unfold numF; rw [if_pos h]
theorem numL_ge {n : Nat} (h : 128 ≤ n) : numL n = UInt8.ofNat (128 + n % 128) :: numL (n / 128) := by
  unfold numL
  cases n with
  | zero => omega
  | succ n =>
    rw [numF, if_neg (by omega), numF_eq n ((n + 1) / 128) _ (by omega) (Nat.le_refl _)]
theorem toNat_lo {n : Nat} (h : n < 128) : (UInt8.ofNat n).toNat = n := by rw [UInt8.toNat_ofNat']; exact Nat.mod_eq_of_lt (by omega)
theorem toNat_hi (n : Nat) : (UInt8.ofNat (128 + n % 128)).toNat = 128 + n % 128 := by rw [UInt8.toNat_ofNat']; exact Nat.mod_eq_of_lt (by omega)
/-- The first byte, and what is behind it. -/
theorem numL_cons (n : Nat) : ∃ b R, numL n = b :: R ∧ b.toNat % 128 = n % 128 ∧ ((n < 128 ∧ b.toNat = n ∧ R = []) ∨ (128 ≤ n ∧ b.toNat = 128 + n % 128 ∧ R = numL (n / 128))) := by
  by_cases h : n < 128
  · exact ⟨_, _, numL_lt h, by rw [toNat_lo h], .inl ⟨h, toNat_lo h, rfl⟩⟩
  · exact ⟨_, _, numL_ge (by omega), by rw [toNat_hi]; omega, .inr ⟨by omega, toNat_hi n, rfl⟩⟩
theorem numL_pos (n : Nat) : 1 ≤ (numL n).length := by
  obtain ⟨b, R, h, _⟩ := numL_cons n
  rw [h]; simp
theorem numL_le : ∀ (k n : Nat), n < 128 ^ (k + 1) → (numL n).length ≤ k + 1
  | 0, n, h => by
    rw [numL_lt (by simpa using h)]; simp
  | k + 1, n, h => by
    by_cases hn : n < 128
    · rw [numL_lt hn]; simp
    · rw [numL_ge (by omega), List.length_cons]
      have := numL_le k (n / 128) (by rw [Nat.pow_succ] at h; omega)
      omega
theorem numL_le10 {n : Nat} (h : n < 18446744073709551616) : (numL n).length ≤ 10 := numL_le 9 n (by omega)
/-- Bytes that begin as a number's do are that one number's. -/
theorem numL_inj : ∀ (n m : Nat) (R S : List UInt8), numL n ++ R = numL m ++ S → n = m ∧ R = S := by
  intro n
  induction n using Nat.strongRecOn with
  | _ n ih =>
    intro m R S h
    obtain ⟨b, P, e1, _, h1⟩ := numL_cons n
    obtain ⟨c, Q, e2, _, h2⟩ := numL_cons m
    rw [e1, e2, List.cons_append, List.cons_append] at h
    injection h with hbc hr
    subst hbc
    rcases h1 with ⟨a1, a2, rfl⟩ | ⟨a1, a2, rfl⟩ <;> rcases h2 with ⟨b1, b2, rfl⟩ | ⟨b1, b2, rfl⟩
    · exact ⟨by omega, by simpa using hr⟩
    · omega
    · omega
    · obtain ⟨k1, k2⟩ := ih (n / 128) (by omega) (m / 128) R S hr
      exact ⟨by omega, k2⟩
/-- No bytes are less than a number's, and begin them. -/
theorem numL_less : ∀ (n m : Nat) (P R : List UInt8), numL n = P ++ R → R ≠ [] → ∀ S, P ≠ numL m ++ S := by
  intro n m P R h hR S hP
  rw [hP, List.append_assoc] at h
  have h' : numL n ++ [] = numL m ++ (S ++ R) := by simpa using h
  have := (numL_inj _ _ _ _ h').2
  cases S with
  | nil => exact hR (by simpa using this.symm)
  | cons a S => simp at this
/-- What is read from bytes as a number, and what is left. -/
noncomputable def rdNum (S : List UInt8) : Option (Nat × List UInt8) := by
  classical exact if h : ∃ p : Nat × List UInt8, p.1 < 18446744073709551616 ∧ S = numL p.1 ++ p.2 then some (Classical.choose h) else none
theorem rdNum_num {n : Nat} (h : n < 18446744073709551616) (R : List UInt8) : rdNum (numL n ++ R) = some (n, R) := by
  unfold rdNum
  have hx : ∃ p : Nat × List UInt8, p.1 < 18446744073709551616 ∧ numL n ++ R = numL p.1 ++ p.2 := ⟨(n, R), h, rfl⟩
  rw [dif_pos hx]
  have hc := (Classical.choose_spec hx).2
  obtain ⟨a, b⟩ := numL_inj _ _ _ _ hc
  congr 1
  exact Prod.ext a.symm b.symm
theorem rdNum_some {S R : List UInt8} {n : Nat} (h : rdNum S = some (n, R)) : n < 18446744073709551616 ∧ S = numL n ++ R := by
  unfold rdNum at h
  split at h
  · rename_i hx
    have hc := Classical.choose_spec hx
    have e := Option.some.inj h
    rw [e] at hc
    exact hc
  · cases h
theorem rdNum_none {S : List UInt8} (h : ∀ n R, n < 18446744073709551616 → S ≠ numL n ++ R) : rdNum S = none := by
  cases hr : rdNum S with
  | none => rfl
  | some p =>
    obtain ⟨n, R⟩ := p
    obtain ⟨a, b⟩ := rdNum_some hr
    exact absurd b (h n R a)
theorem rdNum_nil : rdNum [] = none := rdNum_none (fun n R _ h => by
  have := congrArg List.length h
  have := numL_pos n
  simp at *
  omega)
/-- An eye's state: what is left; whether it has failed. -/
structure Ey where
  left : List UInt8
  bad : Bool
def Ey.fail : Ey := ⟨[], true⟩
/-- What each asking tells, and what it leaves. -/
def byV : List UInt8 → Nat
  | [] => 0
  | b :: _ => b.toNat
def byE (s : Ey) : Ey := match s.left with
  | [] => Ey.fail
  | _ :: R => ⟨R, s.bad⟩
noncomputable def nuV (s : List UInt8) : Nat := match rdNum s with
  | none => 0
  | some (n, _) => n
noncomputable def nuE (s : Ey) : Ey := match rdNum s.left with
  | none => Ey.fail
  | some (_, R) => ⟨R, s.bad⟩
/-- The signed number of a number. -/
def sg (n : Nat) : Int := if n % 2 = 0 then ((n / 2 : Nat) : Int) else -((n / 2 : Nat) : Int) - 1
/-- The number of a signed one. -/
def zg (i : Int) : Nat := if 0 ≤ i then (2 * i).toNat else (2 * (-(i + 1)) + 1).toNat
theorem sg_zg (i : Int) : sg (zg i) = i := by
  unfold sg zg
  split <;> split <;> omega
theorem zg_sg (n : Nat) : zg (sg n) = n := by
  unfold sg zg
  split <;> split <;> omega
theorem zg_lt {i : Int} (h : -9223372036854775808 ≤ i ∧ i < 9223372036854775808) : zg i < 18446744073709551616 := by
  unfold zg
  split <;> omega
theorem sg_lt {n : Nat} (h : n < 18446744073709551616) : -9223372036854775808 ≤ sg n ∧ sg n < 9223372036854775808 := by
  unfold sg
  split <;> omega
def flE (s : Ey) : Ey := if 1 < byV s.left then Ey.fail else byE s
def flV (s : List UInt8) : Bool := byV s == 1
theorem nuV_lt (s : List UInt8) : nuV s < 18446744073709551616 := by
  unfold nuV
  split
  · omega
  · rename_i n R h
    exact (rdNum_some h).1
theorem byV_lt (s : List UInt8) : byV s < 256 := by
  cases s with
  | nil => exact (by decide : (0 : Nat) < 256)
  | cons b R => exact UInt8.toNat_lt b
/-- An eye that has failed has nothing left. -/
def Ey.ok (s : Ey) : Prop := s.bad = true → s.left = []
theorem Ey.ok_fail : Ey.fail.ok := fun _ => rfl
theorem byE_ok {s : Ey} (h : s.ok) : (byE s).ok := by
  unfold byE
  cases hs : s.left with
  | nil => exact Ey.ok_fail
  | cons b R => exact fun hb => by have := h hb; rw [hs] at this; cases this
theorem nuE_ok {s : Ey} (h : s.ok) : (nuE s).ok := by
  unfold nuE
  cases hs : rdNum s.left with
  | none => exact Ey.ok_fail
  | some p => exact fun hb => by have := h hb; rw [this, rdNum_nil] at hs; cases hs
theorem flE_ok {s : Ey} (h : s.ok) : (flE s).ok := by
  unfold flE
  split
  · exact Ey.ok_fail
  · exact byE_ok h
theorem byE_len (s : Ey) : (byE s).left.length ≤ s.left.length := by
  unfold byE
  cases hs : s.left with
  | nil => exact Nat.le_refl _
  | cons b R => simp
theorem nuE_len (s : Ey) : (nuE s).left.length ≤ s.left.length := by
  unfold nuE
  cases hs : rdNum s.left with
  | none => exact Nat.zero_le _
  | some p =>
    obtain ⟨n, R⟩ := p
    rw [(rdNum_some hs).2]; simp
theorem flE_len (s : Ey) : (flE s).left.length ≤ s.left.length := by
  unfold flE
  split
  · exact Nat.zero_le _
  · exact byE_len s
/-! ### A number that is read byte by byte -/
/-- Behind k bytes of it, of the value acc, S is left. -/
structure Mid (S0 : List UInt8) (k acc : Nat) (S : List UInt8) : Prop where
  lo : acc < 128 ^ k
  word : acc < 18446744073709551616
  each : ∀ N R, S0 = numL N ++ R ↔ ∃ m, S = numL m ++ R ∧ N = acc + m * 128 ^ k ∧ (k = 0 ∨ 1 ≤ m)
  many : S0.length = k + S.length
theorem Mid.start (S : List UInt8) : Mid S 0 0 S :=
  ⟨by simp, by omega, fun N R => ⟨fun h => ⟨N, h, by simp, .inl rfl⟩, fun ⟨m, h, e, _⟩ => by rw [e]; simpa using h⟩, by simp⟩
theorem Mid.none {S0 : List UInt8} {k acc : Nat} (h : Mid S0 k acc []) : rdNum S0 = none :=
  rdNum_none fun n R _ e => by
    obtain ⟨m, hm, _⟩ := (h.each n R).1 e
    have := congrArg List.length hm
    have := numL_pos m
    simp at *
    omega
theorem Mid.zero {S0 S : List UInt8} {k acc : Nat} {b : UInt8} (h : Mid S0 k acc (b :: S)) (hk : 0 < k) (hb : b.toNat = 0) : rdNum S0 = .none :=
  rdNum_none fun n R _ e => by
    obtain ⟨m, hm, _, hor⟩ := (h.each n R).1 e
    obtain ⟨c, Q, e2, _, h2⟩ := numL_cons m
    rw [e2, List.cons_append] at hm
    injection hm with hbc _
    subst hbc
    omega
theorem Mid.part {S0 S : List UInt8} {k acc : Nat} {b : UInt8} (h : Mid S0 k acc (b :: S)) {n : Nat} {R : List UInt8} (e : S0 = numL n ++ R) : b.toNat % 128 * 128 ^ k ≤ n := by
  obtain ⟨m, hm, hn, _⟩ := (h.each n R).1 e
  obtain ⟨c, Q, e2, h1, h2⟩ := numL_cons m
  rw [e2, List.cons_append] at hm
  injection hm with hbc _
  subst hbc
  rw [h1, hn]
  exact Nat.le_trans (Nat.mul_le_mul_right _ (Nat.mod_le _ _)) (Nat.le_add_left _ _)
theorem Mid.great {S0 S : List UInt8} {k acc : Nat} {b : UInt8} (h : Mid S0 k acc (b :: S)) (hb : 18446744073709551616 ≤ b.toNat % 128 * 128 ^ k) : rdNum S0 = .none :=
  rdNum_none fun n R hn e => by
    have := h.part e
    omega
theorem pow_big {k : Nat} (h : 10 ≤ k) : 18446744073709551616 ≤ 128 ^ k :=
  Nat.le_trans (by decide) (Nat.pow_le_pow_right (by decide) h)
theorem pow64 (j : Nat) (h : j ≤ 9) : 18446744073709551616 = 128 ^ j * 2 ^ (64 - 7 * j) := by
  have : j = 0 ∨ j = 1 ∨ j = 2 ∨ j = 3 ∨ j = 4 ∨ j = 5 ∨ j = 6 ∨ j = 7 ∨ j = 8 ∨ j = 9 := by omega
  rcases this with rfl | rfl | rfl | rfl | rfl | rfl | rfl | rfl | rfl | rfl <;> decide
/-- What is read behind one byte more is no more than 64 bits. -/
theorem Mid.fits {S0 S : List UInt8} {k acc : Nat} {b : UInt8} (h : Mid S0 k acc (b :: S)) (hb : b.toNat % 128 * 128 ^ k < 18446744073709551616) : acc + b.toNat % 128 * 128 ^ k < 18446744073709551616 := by
  have hw := h.word
  have hl := h.lo
  by_cases hp : b.toNat % 128 = 0
  · rw [hp, Nat.zero_mul]; simpa using hw
  · by_cases hk : 10 ≤ k
    · have := pow_big hk
      have := Nat.mul_le_mul_right (128 ^ k) (show 1 ≤ b.toNat % 128 by omega)
      omega
    · have e := pow64 k (by omega)
      obtain ⟨p, hpp⟩ : ∃ p, b.toNat % 128 = p := ⟨_, rfl⟩
      rw [hpp] at hb ⊢
      obtain ⟨q, hq⟩ : ∃ q, 128 ^ k = q := ⟨_, rfl⟩
      obtain ⟨r, hr⟩ : ∃ r, 2 ^ (64 - 7 * k) = r := ⟨_, rfl⟩
      rw [hq] at hb hl e ⊢
      rw [hr] at e
      rw [e] at hb ⊢
      have hpr : p < r := by
        rw [Nat.mul_comm q r] at hb
        exact Nat.lt_of_mul_lt_mul_right hb
      have : (p + 1) * q ≤ r * q := Nat.mul_le_mul_right q hpr
      rw [Nat.add_mul, Nat.one_mul, Nat.mul_comm r q] at this
      omega
theorem Mid.last {S0 S : List UInt8} {k acc : Nat} {b : UInt8} (h : Mid S0 k acc (b :: S)) (hb : b.toNat < 128) (hz : k = 0 ∨ b.toNat ≠ 0) (hf : b.toNat % 128 * 128 ^ k < 18446744073709551616) : rdNum S0 = some (acc + b.toNat % 128 * 128 ^ k, S) := by
  have e : S0 = numL (acc + b.toNat % 128 * 128 ^ k) ++ S := (h.each _ _).2 ⟨b.toNat, by rw [numL_lt hb, UInt8.ofNat_toNat]; rfl, by rw [Nat.mod_eq_of_lt hb], by omega⟩
  rw [e]
  exact rdNum_num (h.fits hf) S
theorem Mid.next {S0 S : List UInt8} {k acc : Nat} {b : UInt8} (h : Mid S0 k acc (b :: S)) (hb : 128 ≤ b.toNat) (hf : b.toNat % 128 * 128 ^ k < 18446744073709551616) : Mid S0 (k + 1) (acc + b.toNat % 128 * 128 ^ k) S := by
  have hl := h.lo
  have h256 := UInt8.toNat_lt b
  refine ⟨?_, h.fits hf, fun N R => ?_, by rw [h.many]; simp; omega⟩
  · have := Nat.mul_le_mul_right (128 ^ k) (show b.toNat % 128 ≤ 127 by omega)
    rw [Nat.pow_succ]; omega
  · rw [h.each N R]
    constructor
    · rintro ⟨m, hm, hn, hor⟩
      obtain ⟨c, Q, e2, h1, h2⟩ := numL_cons m
      rw [e2, List.cons_append] at hm
      injection hm with hbc hr
      subst hbc
      rcases h2 with ⟨a1, a2, rfl⟩ | ⟨a1, a2, rfl⟩
      · omega
      · refine ⟨m / 128, hr, ?_, .inr (by omega)⟩
        rw [hn, h1, Nat.pow_succ, Nat.add_assoc]
        congr 1
        conv => lhs; rw [← Nat.mod_add_div m 128]
        rw [Nat.add_mul, Nat.mul_comm 128 (m / 128), Nat.mul_assoc, Nat.mul_comm 128 (128 ^ k)]
    · rintro ⟨m, hm, hn, hor⟩
      have hge : 128 ≤ b.toNat % 128 + 128 * m := by omega
      have hdiv : (b.toNat % 128 + 128 * m) / 128 = m := by omega
      have hmod : (b.toNat % 128 + 128 * m) % 128 = b.toNat % 128 := by omega
      refine ⟨b.toNat % 128 + 128 * m, ?_, ?_, .inr (by omega)⟩
      · rw [numL_ge hge, hdiv, hmod, hm, List.cons_append]
        congr 1
        have : 128 + b.toNat % 128 = b.toNat := by omega
        rw [this, UInt8.ofNat_toNat]
      · rw [hn, Nat.add_mul, Nat.add_assoc, Nat.pow_succ, Nat.mul_comm (128 ^ k) 128, ← Nat.mul_assoc, Nat.mul_comm 128 m]
end Go.Proofs.YtamjnekdfhocdaaDoor
