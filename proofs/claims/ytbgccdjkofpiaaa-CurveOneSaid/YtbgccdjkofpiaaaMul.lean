/- What the program's own Mul and Fraction answer. No condition but that words are words. -/
import Derived.Test.YtbgccdjkofpiaaaSum
import Derived.Test.YtbgccdjkofpiaaaMathB
import Derived.Laws.Bits64b
import Derived.BigQuiet
import Derived.Deep.QuietTactic
import Derived.WalkSmall
namespace Go.Proofs.Ytbgccdjkofpiaaa
open Go.RowKit W
set_option linter.unusedVariables false
theorem and_mask (a : Int) (h0 : 0 ≤ a) (h1 : a < 18446744073709551616) : bits BinOp.and IntKind.u64 a 4294967295 = a % 4294967296 := by
  obtain ⟨n, rfl⟩ := Int.eq_ofNat_of_zero_le h0
  have h := bits_and_u64_nat n 4294967295 (by omega) (by omega)
  refine h.trans ?_
  have e : n &&& 4294967295 = n % 4294967296 := Nat.and_two_pow_sub_one_eq_mod n 32
  rw [e]
  omega
theorem or_half (x y : Int) (hx : 0 ≤ x ∧ x ≤ 4294967295) (hy : 0 ≤ y ∧ y ≤ 4294967295) : bits BinOp.or IntKind.u64 (x * 4294967296) y = x * 4294967296 + y := by
  obtain ⟨n, rfl⟩ := Int.eq_ofNat_of_zero_le hx.1
  obtain ⟨m, rfl⟩ := Int.eq_ofNat_of_zero_le hy.1
  have h := bits_or_u64_nat (n * 4294967296) m (by omega) (by omega)
  have e : n * 4294967296 ||| m = n * 4294967296 + m := by
    have := Nat.two_pow_add_eq_or_of_lt (i := 32) (b := m) (by omega) n
    rw [Nat.mul_comm]
    exact this.symm
  rw [e] at h
  exact h.trans (by omega)

theorem up6 (w : World) (o1 o2 o3 o4 o5 o6 : Obj) : Below w.heap.size w ((((((w.alloc o1).alloc o2).alloc o3).alloc o4).alloc o5).alloc o6) :=
  (((up3 w o1 o2 o3).alloc (by simp; omega) _).alloc (by simp; omega) _).alloc (by simp; omega) _

theorem halves_any (a : Int) (w : World) (ha : Word a) :
    Calls Try.prog 55 #[.int .u64 a] w fun e w' => e = .returned (.agg #[.int .u64 (a % 4294967296), .int .u64 (a / 4294967296)]) ∧ ∃ c : Array Value, w' = w.alloc (.cells c 73) := by
  unfold Word at ha
  obtain ⟨a0, a1⟩ := ha
  have hm := and_mask a a0 a1
  go_enter Try.func55, Try.ntmps55
  go_wp2
  exact bodyPost_ret (v := .agg #[.int .u64 (a % 4294967296), .int .u64 (a / 4294967296)]) (by simp [results, Try.results55, go_sem]) rfl ⟨rfl, _, rfl⟩

theorem and_mask_all (x : Int) : bits BinOp.and IntKind.u64 x 4294967295 = x % 4294967296 := by
  have h := and_mask (x % 18446744073709551616) (by omega) (by omega)
  have e : bits BinOp.and IntKind.u64 x 4294967295 = bits BinOp.and IntKind.u64 (x % 18446744073709551616) 4294967295 := by
    have e1 : BitVec.ofInt 64 (x % 18446744073709551616) = BitVec.ofInt 64 x := by
      apply BitVec.eq_of_toNat_eq
      simp only [BitVec.toNat_ofInt]
      omega
    show IntKind.u64.wrap ((BitVec.ofInt 64 x &&& BitVec.ofInt 64 (4294967295 : Int)).toNat : Int) = IntKind.u64.wrap ((BitVec.ofInt 64 (x % 18446744073709551616) &&& BitVec.ofInt 64 (4294967295 : Int)).toNat : Int)
    rw [e1]
  rw [e, h]
  omega

set_option maxHeartbeats 800000 in
theorem Mul_of (a b x0 x1 y0 y1 p c s0 q A a0 a1 r B s1 b1 t u C s2 s3 h3 H l1 L : Int) (w : World)
    (hA : ∀ w, Calls Try.prog 55 #[.int .u64 a] w fun e w' => e = .returned (.agg #[.int .u64 x0, .int .u64 x1]) ∧ ∃ c : Array Value, w' = w.alloc (.cells c 73))
    (hB : ∀ w, Calls Try.prog 55 #[.int .u64 b] w fun e w' => e = .returned (.agg #[.int .u64 y0, .int .u64 y1]) ∧ ∃ c : Array Value, w' = w.alloc (.cells c 73))
    (bp : 0 ≤ p ∧ p ≤ 18446744073709551615) (bA : 0 ≤ A ∧ A ≤ 18446744073709551615) (bB : 0 ≤ B ∧ B ≤ 18446744073709551615) (bC : 0 ≤ C ∧ C ≤ 18446744073709551615)
    (f1 : IntKind.u64.wrap p = p) (f2 : IntKind.u64.wrap q = q) (f3 : IntKind.u64.wrap B = B)
    (g1 : IntKind.u64.wrap (s3 * 4294967296) = h3) (g2 : bits BinOp.or IntKind.u64 h3 s2 = H) (g3 : IntKind.u64.wrap (s1 * 4294967296) = l1) (g4 : bits BinOp.or IntKind.u64 l1 s0 = L)
    (e1 : IntKind.u64.wrap (x0 * y0) = p) (e2 : p / 4294967296 = c) (e3 : p % 4294967296 = s0)
    (e4 : IntKind.u64.wrap (x0 * y1) = q) (e5 : IntKind.u64.wrap (q + c) = A) (e6 : A % 4294967296 = a0) (e7 : A / 4294967296 = a1)
    (e8 : IntKind.u64.wrap (x1 * y0) = r) (e9 : IntKind.u64.wrap (r + a0) = B) (e10 : B % 4294967296 = s1) (e11 : B / 4294967296 = b1)
    (e12 : IntKind.u64.wrap (x1 * y1) = t) (e13 : IntKind.u64.wrap (t + a1) = u) (e14 : IntKind.u64.wrap (u + b1) = C) (e15 : C % 4294967296 = s2) (e16 : C / 4294967296 = s3) :
    Calls Try.prog 41 #[.int .u64 a, .int .u64 b] w fun e w' => e = .returned (.agg #[.int .u64 H, .int .u64 L]) ∧ Below w.heap.size w w' := by
  have hm := and_mask_all
  have hdr : ∀ (w : World) (n : Nat) (a : Addr) (v : Value), (w.drewN n).setCell a v = (w.setCell a v).drewN n := fun _ _ _ _ => rfl
  obtain ⟨bp0, bp1⟩ := bp; obtain ⟨bA0, bA1⟩ := bA; obtain ⟨bB0, bB1⟩ := bB; obtain ⟨bC0, bC1⟩ := bC
  go_enter Try.func41, Try.ntmps41
  go_wp2_with (first
    | (go_at_call 55; (with_reducible refine (hA _).mono ?_); rintro e w1 ⟨rfl, c1, rfl⟩)
    | (go_at_call 55; (with_reducible refine (hB _).mono ?_); rintro e w2 ⟨rfl, c2, rfl⟩))
  refine wp_loop_rounds 3 ?_
  rw [rounds_succ]
  go_wp2
  refine wp_loop_rounds 3 ?_
  rw [rounds_succ]
  go_wp2
  go_quiet (fail)
  go_wp2
  rw [rounds_succ]
  go_wp2
  go_quiet (fail)
  go_wp2
  rw [rounds_succ]
  go_wp2
  rw [rounds_succ]
  go_wp2
  refine wp_loop_rounds 3 ?_
  rw [rounds_succ]
  go_wp2
  go_quiet (fail)
  go_wp2
  rw [rounds_succ]
  go_wp2
  go_quiet (fail)
  go_wp2
  rw [rounds_succ]
  go_wp2
  rw [rounds_succ]
  go_wp2
  exact bodyPost_ret (v := .agg #[.int .u64 H, .int .u64 L]) (by simp [results, Try.results41, go_sem]) rfl ⟨rfl, below_drewN (up6 _ _ _ _ _ _ _) _⟩

theorem Mul_any (a b : Int) (w : World) (ha : Word a) (hb : Word b) :
    Calls Try.prog 41 #[.int .u64 a, .int .u64 b] w fun e w' => e = .returned (.agg #[.int .u64 (xH a b), .int .u64 (xL a b)]) ∧ Below w.heap.size w w' := by
  have hs := mul_split a b
  have hA := fun w => halves_any a w ha
  have hB := fun w => halves_any b w hb
  unfold Word at ha hb
  have hx0 : 0 ≤ a % 4294967296 ∧ a % 4294967296 ≤ 4294967295 := by omega
  have hx1 : 0 ≤ a / 4294967296 ∧ a / 4294967296 ≤ 4294967295 := by omega
  have hy0 : 0 ≤ b % 4294967296 ∧ b % 4294967296 ≤ 4294967295 := by omega
  have hy1 : 0 ≤ b / 4294967296 ∧ b / 4294967296 ≤ 4294967295 := by omega
  obtain ⟨x0, ex0⟩ : ∃ x0, a % 4294967296 = x0 := ⟨_, rfl⟩
  obtain ⟨x1, ex1⟩ : ∃ x1, a / 4294967296 = x1 := ⟨_, rfl⟩
  obtain ⟨y0, ey0⟩ : ∃ y0, b % 4294967296 = y0 := ⟨_, rfl⟩
  obtain ⟨y1, ey1⟩ : ∃ y1, b / 4294967296 = y1 := ⟨_, rfl⟩
  rw [ex0, ex1] at hA
  rw [ey0, ey1] at hB
  rw [ex0, ex1, ey0, ey1] at hs
  rw [ex0] at hx0; rw [ex1] at hx1; rw [ey0] at hy0; rw [ey1] at hy1
  clear ex0 ex1 ey0 ey1 ha hb
  obtain ⟨p0, p1⟩ := half_mul hx0 hy0
  obtain ⟨q0, q1⟩ := half_mul hx0 hy1
  obtain ⟨r0, r1⟩ := half_mul hx1 hy0
  obtain ⟨t0, t1⟩ := half_mul hx1 hy1
  obtain ⟨p, ep⟩ : ∃ p, x0 * y0 = p := ⟨_, rfl⟩
  obtain ⟨q, eq⟩ : ∃ q, x0 * y1 = q := ⟨_, rfl⟩
  obtain ⟨r, er⟩ : ∃ r, x1 * y0 = r := ⟨_, rfl⟩
  obtain ⟨t, et⟩ : ∃ t, x1 * y1 = t := ⟨_, rfl⟩
  rw [ep] at p0 p1 hs; rw [eq] at q0 q1 hs; rw [er] at r0 r1 hs; rw [et] at t0 t1 hs
  obtain ⟨A, eA⟩ : ∃ A, q + p / 4294967296 = A := ⟨_, rfl⟩
  obtain ⟨B, eB⟩ : ∃ B, r + A % 4294967296 = B := ⟨_, rfl⟩
  obtain ⟨C, eC⟩ : ∃ C, t + A / 4294967296 + B / 4294967296 = C := ⟨_, rfl⟩
  have kH : xH a b = C := by unfold xH; omega
  have kL : xL a b = B % 4294967296 * 4294967296 + p % 4294967296 := by unfold xL; omega
  rw [kH, kL]
  exact Mul_of a b x0 x1 y0 y1 p _ _ q A _ _ r B _ _ t (t + A / 4294967296) C _ _ (C / 4294967296 * 4294967296) C (B % 4294967296 * 4294967296) _ w hA hB (by omega) (by omega) (by omega) (by omega)
    (IntWalk.u64_in _ (by omega)) (IntWalk.u64_in _ (by omega)) (IntWalk.u64_in _ (by omega))
    (IntWalk.u64_in _ (by omega)) ((or_half _ _ (by omega) (by omega)).trans (by omega)) (IntWalk.u64_in _ (by omega)) (or_half _ _ (by omega) (by omega))
    (by rw [ep]; exact IntWalk.u64_in _ (by omega)) rfl rfl
    (by rw [eq]; exact IntWalk.u64_in _ (by omega)) (by rw [eA]; exact IntWalk.u64_in _ (by omega)) rfl rfl
    (by rw [er]; exact IntWalk.u64_in _ (by omega)) (by rw [eB]; exact IntWalk.u64_in _ (by omega)) rfl rfl
    (by rw [et]; exact IntWalk.u64_in _ (by omega)) (IntWalk.u64_in _ (by omega)) (by rw [eC]; exact IntWalk.u64_in _ (by omega)) rfl rfl

end Go.Proofs.Ytbgccdjkofpiaaa
