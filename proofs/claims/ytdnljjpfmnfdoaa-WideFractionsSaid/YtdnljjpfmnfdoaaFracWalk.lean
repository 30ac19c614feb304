/- The walk of WideFractions. No condition but that the numbers are of 32 bits. -/
import Derived.Test.YtdnljjpfmnfdoaaAwake
import Derived.WalkKit
import Derived.ProofKit
namespace Go.Proofs.Ytdnljjpfmnfdoaa.wideFractions
open Go.RowKit W
set_option linter.unusedVariables false

theorem word32_of {x : Int} (h : (Lit.int .u32 x).wf = true) : 0 ≤ x ∧ x ≤ 4294967295 := by
  simp [Lit.wf, IntKind.min, IntKind.max, IntKind.bits, IntKind.signed] at h
  omega

theorem qy1' (q Y : Int) : (q + 1) * Y = q * Y + Y := by rw [Int.add_mul, Int.one_mul]

/-- What a call of Fraction answers. -/
def Fr (a b c d z : Int) : Prop := ∀ w, Calls Try.prog 22 #[.int .u64 a, .int .u64 b, .int .u64 c, .int .u64 d] w fun e w' => e = .returned (.int .i64 z) ∧ Below w.heap.size w w'

/-- Which three comparisons go together. -/
def Go3 (xy yx yz xz : Int) : Prop := ((xy = -1 ∧ yx = 1) ∨ (xy = 0 ∧ yx = 0) ∨ (xy = 1 ∧ yx = -1)) ∧ (yz = -1 ∨ yz = 0 ∨ yz = 1) ∧ (xz = -1 ∨ xz = 0 ∨ xz = 1) ∧ ¬ (xy ≤ 0 ∧ yz ≤ 0 ∧ xz > 0) ∧ ¬ (xy = 0 ∧ yz ≠ xz)

set_option maxRecDepth 100000 in
set_option maxHeartbeats 4000000 in
theorem core (p q r s t u n xy yx yz xz : Int) (w : World) (p0 : 0 ≤ p) (p1 : p ≤ 4294967295) (q0 : 1 ≤ q) (q1 : q ≤ 4294967295) (r0 : 0 ≤ r) (r1 : r ≤ 4294967295) (s0 : 1 ≤ s) (s1 : s ≤ 4294967295)
    (t0 : 0 ≤ t) (t1 : t ≤ 4294967295) (u0 : 1 ≤ u) (u1 : u ≤ 4294967295) (n0 : 0 ≤ n) (n1 : n ≤ 4294967295)
    (hG : Go3 xy yx yz xz) (F1 : Fr p q r s xy) (F2 : Fr r s t u yz) (F3 : Fr p q t u xz) (F4 : Fr r s p q yx)
    (F5 : n < 4294967295 → Fr (p * (n + 1)) (q * (n + 1)) p q 0) (F6 : n < 4294967295 → Fr (p * (n + 1)) (q * (n + 1)) r s xy) (F7 : Fr (p + 1) q p q 1) (F8 : Fr (p + 1) (q + 1) (p + 1) q (-1)) :
    Calls Try.prog 8 #[.int .u32 p, .int .u32 q, .int .u32 r, .int .u32 s, .int .u32 t, .int .u32 u, .int .u32 n] w fun e w' => e = .returned (.bool true) ∧ Below w.heap.size w w' := by
  have hB := Below.refl w.heap.size w
  have hq : (q == 0) = false := by simp; omega
  have hs : (s == 0) = false := by simp; omega
  have hu : (u == 0) = false := by simp; omega
  obtain ⟨g1, g2, g3, g4⟩ := hG
  unfold Fr at F1 F2 F3 F4 F5 F6 F7 F8
  by_cases hn : n = 4294967295
  · subst hn
    clear F5 F6 F7 F8
    rcases g1 with ⟨rfl, rfl⟩ | ⟨rfl, rfl⟩ | ⟨rfl, rfl⟩ <;> rcases g2 with rfl | rfl | rfl <;> rcases g3 with rfl | rfl | rfl <;> first
      | exact absurd g4 (by decide)
      | (clear g4
         go_enter Try.func8, Try.ntmps8
         go_wp2_with (first
           | (go_at_call 24; (with_reducible refine (awake_any _).mono ?_); rintro e w1 ⟨rfl, hb1⟩)
           | (go_at_call 22; (with_reducible refine (F1 _).mono ?_); rintro e w2 ⟨rfl, hb2⟩)
           | (go_at_call 22; (with_reducible refine (F2 _).mono ?_); rintro e w3 ⟨rfl, hb3⟩)
           | (go_at_call 22; (with_reducible refine (F3 _).mono ?_); rintro e w4 ⟨rfl, hb4⟩)
           | (go_at_call 22; (with_reducible refine (F4 _).mono ?_); rintro e w5 ⟨rfl, hb5⟩))
         go_ret
         exact ⟨rfl, up (up (up (up hb1 hb2 hb1.size) hb3 (up hb1 hb2 hb1.size).size) hb4 (up (up hb1 hb2 hb1.size) hb3 (up hb1 hb2 hb1.size).size).size) hb5 (up (up (up hb1 hb2 hb1.size) hb3 (up hb1 hb2 hb1.size).size) hb4 (up (up hb1 hb2 hb1.size) hb3 (up hb1 hb2 hb1.size).size).size).size⟩)
  · have F5' := F5 (by omega)
    have F6' := F6 (by omega)
    clear F5 F6
    obtain ⟨x0, x1⟩ := @half_mul p (n + 1) (by omega) (by omega)
    obtain ⟨y0, y1⟩ := @half_mul q (n + 1) (by omega) (by omega)
    have hn' : n + 1 ≤ 4294967295 := by omega
    clear hn
    rcases g1 with ⟨rfl, rfl⟩ | ⟨rfl, rfl⟩ | ⟨rfl, rfl⟩ <;> rcases g2 with rfl | rfl | rfl <;> rcases g3 with rfl | rfl | rfl <;> first
      | exact absurd g4 (by decide)
      | (clear g4
         go_enter Try.func8, Try.ntmps8
         go_wp2_with (first
           | (go_at_call 24; (with_reducible refine (awake_any _).mono ?_); rintro e w1 ⟨rfl, hb1⟩)
           | (go_at_call 22; (with_reducible refine (F1 _).mono ?_); rintro e w2 ⟨rfl, hb2⟩)
           | (go_at_call 22; (with_reducible refine (F2 _).mono ?_); rintro e w3 ⟨rfl, hb3⟩)
           | (go_at_call 22; (with_reducible refine (F3 _).mono ?_); rintro e w4 ⟨rfl, hb4⟩)
           | (go_at_call 22; (with_reducible refine (F4 _).mono ?_); rintro e w5 ⟨rfl, hb5⟩)
           | (go_at_call 22; (with_reducible refine (F5' _).mono ?_); rintro e w6 ⟨rfl, hb6⟩)
           | (go_at_call 22; (with_reducible refine (F6' _).mono ?_); rintro e w7 ⟨rfl, hb7⟩)
           | (go_at_call 22; (with_reducible refine (F7 _).mono ?_); rintro e w8 ⟨rfl, hb8⟩)
           | (go_at_call 22; (with_reducible refine (F8 _).mono ?_); rintro e w9 ⟨rfl, hb9⟩))
         have t2 := up hb1 hb2 hb1.size
         have t3 := up t2 hb3 t2.size
         have t4 := up t3 hb4 t3.size
         have t5 := up t4 hb5 t4.size
         have t6 := up t5 hb6 t5.size
         have t7 := up t6 hb7 t6.size
         have t8 := up t7 hb8 t7.size
         go_ret
         exact ⟨rfl, up t8 hb9 t8.size⟩)

end Go.Proofs.Ytdnljjpfmnfdoaa.wideFractions
