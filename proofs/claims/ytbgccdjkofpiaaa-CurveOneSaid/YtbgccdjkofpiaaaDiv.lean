/- What math/bits.Div64 and the program's own Div answer. Conditions: words. -/
import Derived.Test.YtbgccdjkofpiaaaDiv64
import Derived.Lib.ItoaNum
namespace Go.Proofs.Ytbgccdjkofpiaaa
open Go.RowKit W
set_option linter.unusedVariables false

theorem or_pow (e : Nat) (x y : Int) (hx : 0 ≤ x) (hx1 : x * 2 ^ e < 18446744073709551616) (hy : 0 ≤ y) (hy1 : y < 2 ^ e) (hs : x * 2 ^ e + y < 18446744073709551616) : bits BinOp.or IntKind.u64 (x * 2 ^ e) y = x * 2 ^ e + y := by
  obtain ⟨n, rfl⟩ := Int.eq_ofNat_of_zero_le hx
  obtain ⟨m, rfl⟩ := Int.eq_ofNat_of_zero_le hy
  have ee : ((2 : Int) ^ e) = ((2 ^ e : Nat) : Int) := by simp
  rw [ee] at hx1 hy1 hs ⊢
  rw [← Int.natCast_mul] at hx1 hs ⊢
  have h := bits_or_u64_nat (n * 2 ^ e) m (by omega) (by omega)
  have g : n * 2 ^ e ||| m = n * 2 ^ e + m := by
    have := Nat.two_pow_add_eq_or_of_lt (i := e) (b := m) (by omega) n
    rw [Nat.mul_comm]
    exact this.symm
  rw [g] at h
  exact h.trans (by omega)

theorem Div64_big (h l n : Int) (w : World) (h0 : 1 ≤ h) (h1 : h < n) (n1 : n < 18446744073709551616) (l0 : 0 ≤ l) (l1 : l < 18446744073709551616) :
    Calls Try.prog 60 #[.int .u64 h, .int .u64 l, .int .u64 n] w fun e w' => e = .returned (.tuple #[.int .u64 (V h l / n), .int .u64 (V h l % n)]) ∧ Below w.heap.size w w' := by
  obtain ⟨k1, k2, k3⟩ := Lib.bitLenAux_bounds 64 n.toNat (by omega) (by omega)
  have hL := fun w => Try.bits_LeadingZeros64 n w (by omega) (by omega)
  have hb : Lib.bitLen n.toNat = Lib.bitLenAux 64 n.toNat := rfl
  rw [hb] at hL
  obtain ⟨k, ek⟩ : ∃ k, Lib.bitLenAux 64 n.toNat = k := ⟨_, rfl⟩
  rw [ek] at k1 k2 k3 hL
  clear ek hb
  have k64 : k ≤ 64 := by
    rcases Nat.lt_or_ge 64 k with c | c
    · have := Nat.pow_le_pow_right (show 0 < 2 by omega) (show 64 ≤ k - 1 by omega)
      omega
    · exact c
  obtain ⟨e, he⟩ : ∃ e, e + k = 64 := ⟨64 - k, by omega⟩
  have j2 : (2 : Int) ^ (k - 1) ≤ n := by
    have : ((2 ^ (k - 1) : Nat) : Int) ≤ (n.toNat : Int) := by omega
    rw [Int.toNat_of_nonneg (by omega)] at this
    simpa using this
  have j3 : n < (2 : Int) ^ k := by
    have : (n.toNat : Int) < ((2 ^ k : Nat) : Int) := by omega
    rw [Int.toNat_of_nonneg (by omega)] at this
    simpa using this
  obtain ⟨y1, y2⟩ := norm_bounds k1 he j2 j3
  have hPP := pow_split he
  have hP := pow_pos2 e
  have hP' := pow_pos2 k
  obtain ⟨a1, a2, a3, a4, a5⟩ := shifted (show 0 ≤ h by omega) h1 l0 l1 hP hP' hPP y2
  have t1 : (64 - (k : Int)).toNat = e := by omega
  have t2 : (64 - (64 - (k : Int))).toNat = k := by omega
  have hO := or_pow e h (l / 2 ^ k) (by omega) (by omega) a3 a4 (by omega)
  obtain ⟨P, eP⟩ : ∃ P, (2 : Int) ^ e = P := ⟨_, rfl⟩
  obtain ⟨P', eP'⟩ : ∃ P', (2 : Int) ^ k = P' := ⟨_, rfl⟩
  rw [eP] at y1 y2 hPP hP a1 a2 a4 a5 hO
  rw [eP'] at hPP hP' a3 a4 a5 hO
  have hV : V h l = h * 18446744073709551616 + l := rfl
  rw [← hV] at a5
  have hR : V h l % n * P / P = V h l % n := Int.mul_ediv_cancel _ (by omega)
  obtain ⟨Y, eY⟩ : ∃ Y, n * P = Y := ⟨_, rfl⟩
  obtain ⟨U, eU⟩ : ∃ U, h * P + l / P' = U := ⟨_, rfl⟩
  obtain ⟨M, eM⟩ : ∃ M, l * P % 18446744073709551616 = M := ⟨_, rfl⟩
  rw [eY] at y1 y2 a2
  rw [eU, eM] at a5
  have q1 : 2147483648 ≤ Y / 4294967296 := by omega
  have q2 : Y / 4294967296 ≤ 4294967295 := by omega
  have u1 : U < Y / 4294967296 * 4294967296 + Y % 4294967296 := by omega
  have hq := QI_start q1 q2 (show 0 ≤ Y % 4294967296 by omega) (show Y % 4294967296 ≤ 4294967295 by omega) (show 0 ≤ U by omega) u1 (show 0 ≤ M / 4294967296 by omega) (show M / 4294967296 ≤ 4294967295 by omega)
  have hq5 := hq.2.2.2.2.1
  have hq3 := hq.2.2.1
  have hq0 := Int.mul_nonneg hq.1 (show 0 ≤ Y / 4294967296 by omega)
  refine (Div64_core h l n (64 - (k : Int)) U M Y (h * P) (l / P') _ _ _ _ (U / (Y / 4294967296)) (U / (Y / 4294967296) * (Y / 4294967296)) (U - U / (Y / 4294967296) * (Y / 4294967296)) w h0 h1
    (fun w => (hL w).mono fun e w' ⟨x, y⟩ => ⟨x, y.symm⟩) (by omega) (by omega) ?_ ?_ ?_ ?_ ?_ rfl rfl rfl rfl rfl ?_ ?_ q1 q2 (by omega) (by omega) (by omega) u1 (by omega) (by omega) (by omega) (by omega) hq (V h l / n) (V h l % n * P) (Lib.hid (by omega)) (Lib.hid fun q1 q0 x1 x0 => digits (by omega) hP eY.symm a5 rfl rfl q1 q0 x1 x0)).mono ?_
  · rw [t1, eP, eY]; exact IntWalk.u64_in _ (by omega)
  · rw [t1, eP]; exact IntWalk.u64_in _ (by omega)
  · rw [t2, eP']
  · rw [hO]; exact eU
  · rw [t1, eP, IntKind.wrap_u64]; exact eM
  · exact IntWalk.u64_in _ (by omega)
  · exact IntWalk.u64_in _ (by omega)
  · rintro e' w' ⟨rfl, rfl⟩
    refine ⟨?_, Below.refl _ _⟩
    rw [t1, eP, hR]

theorem Div64_small (l n : Int) (w : World) (n0 : 1 ≤ n) (n1 : n < 18446744073709551616) (l0 : 0 ≤ l) (l1 : l < 18446744073709551616) :
    Calls Try.prog 60 #[.int .u64 0, .int .u64 l, .int .u64 n] w fun e w' => e = .returned (.tuple #[.int .u64 (V 0 l / n), .int .u64 (V 0 l % n)]) ∧ Below w.heap.size w w' := by
  have hV : V 0 l = l := by unfold V; omega
  rw [hV]
  have a1 : 0 ≤ l / n := Int.ediv_nonneg l0 (by omega)
  have a2 : l / n ≤ l := Int.ediv_le_self _ l0
  have hn : (n == 0) = false := by simp; omega
  go_enter Try.func60, Try.ntmps60
  go_wp2
  go_quiet (fail)
  go_wp2
  go_ret2
  exact ⟨rfl, below_drewN (Below.refl _ _) _⟩

theorem Div64_any (h l n : Int) (w : World) (hh : Word h) (hl : Word l) (hn : Word n) (h1 : h < n) :
    Calls Try.prog 60 #[.int .u64 h, .int .u64 l, .int .u64 n] w fun e w' => e = .returned (.tuple #[.int .u64 (V h l / n), .int .u64 (V h l % n)]) ∧ Below w.heap.size w w' := by
  rcases Int.lt_or_eq_of_le hh.1 with h0 | rfl
  · exact Div64_big h l n w (by omega) h1 hn.2 hl.1 hl.2
  · exact Div64_small l n w (by omega) hn.2 hl.1 hl.2

theorem Div_any (h l n : Int) (w : World) (hh : Word h) (hl : Word l) (hn : Word n) :
    Calls Try.prog 56 #[.agg #[.int .u64 h, .int .u64 l], .int .u64 n] w fun e w' => e = .returned (.tuple #[.int .u64 (dQ h l n), .int .u64 (dR h l n), .int .i64 (dE h n)]) ∧ Below w.heap.size w w' := by
  have hD := fun w h1 => Div64_any h l n w hh hl hn h1
  unfold Word at hh hl hn
  obtain ⟨a0, a1⟩ := hh; obtain ⟨b0, b1⟩ := hl; obtain ⟨c0, c1⟩ := hn
  by_cases z : n = 0
  · subst z
    obtain ⟨e1, e2, e3⟩ := d_zero h l
    rw [e1, e2, e3]
    clear e1 e2 e3
    go_enter Try.func56, Try.ntmps56
    go_wp2
    go_ret3
    exact ⟨rfl, up1 _ _⟩
  · have hz : (n == 0) = false := by simp; omega
    by_cases s : n ≤ h
    · obtain ⟨e1, e2, e3⟩ := d_much (l := l) z s
      rw [e1, e2, e3]
      clear e1 e2 e3
      go_enter Try.func56, Try.ntmps56
      go_wp2
      go_ret3
      exact ⟨rfl, up1 _ _⟩
    · obtain ⟨e1, e2, e3⟩ := d_ok (l := l) z (show h < n by omega)
      rw [e1, e2, e3]
      clear e1 e2 e3
      have s' : h < n := by omega
      clear s
      go_enter Try.func56, Try.ntmps56
      go_wp2_with (go_at_call 60; (with_reducible refine (hD _ s').mono ?_); rintro e w1 ⟨rfl, hb1⟩)
      go_ret3
      exact ⟨rfl, (up1 _ _).trans (hb1.mono (by simp))⟩
end Go.Proofs.Ytbgccdjkofpiaaa
