/- What math/bits.Div64 answers where it does not panic: the quotient and the rest. Conditions: words; the high word below the divisor. -/
import Derived.Test.YtbgccdjkofpiaaaShelf
import Derived.Test.YtbgccdjkofpiaaaMul
import Derived.Test.YtbgccdjkofpiaaaDivM
import Derived.Deep.DeepCutAuto
import Derived.Deep.CutBlock
import Derived.LoopTactic
namespace Go.Proofs.Ytbgccdjkofpiaaa
open Go.RowKit W
set_option linter.unusedVariables false
set_option maxRecDepth 100000 in
set_option maxHeartbeats 1000000 in
theorem Div64_core (h l n s U M Y hp lq Y1 Y0 m1 m0 q qq r : Int) (w : World) (h0 : 1 ≤ h) (h1 : h < n)
    (hL : ∀ w, Calls Try.prog 61 #[.int .u64 n] w fun e w' => e = .returned (.int .i64 s) ∧ w = w') (s0 : 0 ≤ s) (s1 : s ≤ 63)
    (e1 : IntKind.u64.wrap (n * 2 ^ s.toNat) = Y) (e2 : IntKind.u64.wrap (h * 2 ^ s.toNat) = hp) (e3 : l / 2 ^ (64 - s).toNat = lq) (e4 : bits BinOp.or IntKind.u64 hp lq = U) (e5 : IntKind.u64.wrap (l * 2 ^ s.toNat) = M)
    (e6 : Y / 4294967296 = Y1) (e7 : Y % 4294967296 = Y0) (e8 : M / 4294967296 = m1) (e9 : M % 4294967296 = m0)
    (e10 : U / Y1 = q) (e11 : IntKind.u64.wrap (q * Y1) = qq) (e12 : IntKind.u64.wrap (U - qq) = r)
    (y1 : 2147483648 ≤ Y1) (y2 : Y1 ≤ 4294967295) (y3 : 0 ≤ Y0) (y4 : Y0 ≤ 4294967295) (u0 : 0 ≤ U) (u1 : U < Y1 * 4294967296 + Y0) (m10 : 0 ≤ m1) (m11 : m1 ≤ 4294967295) (m00 : 0 ≤ m0) (m01 : m0 ≤ 4294967295) (hq : QI U Y1 Y0 m1 (U / Y1) r) (Q R : Int)
    (yy : Hid (Y = Y1 * 4294967296 + Y0)) (hQR : Hid (∀ q1 q0 : Int, QP (U * 4294967296 + m1) Y q1 → QP ((U * 4294967296 + m1 - q1 * Y) * 4294967296 + m0) Y q0 → q1 * 4294967296 + q0 = Q ∧ (U * 4294967296 + m1 - q1 * Y) * 4294967296 + m0 - q0 * Y = R)) :
    Calls Try.prog 60 #[.int .u64 h, .int .u64 l, .int .u64 n] w fun e w' => e = .returned (.tuple #[.int .u64 Q, .int .u64 (R / 2 ^ s.toNat)]) ∧ w = w' := by
  have hm := and_mask_all
  have hh : (h == 0) = false := by simp; omega
  go_enter Try.func60, Try.ntmps60
  go_upto_block 0 with (go_at_call 61; (with_reducible refine (hL _).mono ?_); rintro e w1 ⟨rfl, rfl⟩)
  go_cut [15, 16] from 19 (fun s15 s16 wc => ∃ q1 r1 : Int, s15 = .int .u64 q1 ∧ s16 = .int .u64 r1 ∧ QP (U * 4294967296 + m1) (Y1 * 4294967296 + Y0) q1 ∧ w = wc)
  case first =>
    go_wp2
    go_loop [15, 16] (fun s15 s16 => ∃ q1 r1 : Int, s15 = .int .u64 q1 ∧ s16 = .int .u64 r1 ∧ QI U Y1 Y0 m1 q1 r1) (fun s15 _ => (intOf s15).toNat)
    case atStart => exact ⟨_, _, rfl, rfl, hq⟩
    case round =>
      obtain ⟨q1, r1, rfl, rfl, hI⟩ := hrel
      have HI := Lib.hid hI
      obtain ⟨q10, q11, r10, r11, hI5, hI6⟩ := hI
      clear hI5 hI6
      by_cases T1 : 4294967296 ≤ q1
      · by_cases T3 : 4294967296 ≤ r1 + Y1
        · have hP := Lib.hid (QP_break y1 y2 y3 y4 u0 u1 m10 m11 HI.out (.inl T1) T3)
          clear HI
          go_wp2
          go_meet
          exact ⟨_, _, rfl, rfl, hP.out, rfl⟩
        · have hN := Lib.hid (QI_go y1 y2 y3 y4 u0 u1 m10 m11 HI.out (.inl T1) (by omega))
          clear HI
          go_wp2
          go_round
          case rel => exact ⟨_, _, rfl, rfl, hN.out⟩
          case measure => simp [intOf]; omega
      · obtain ⟨a0, a1⟩ := half_mul (x := q1) (y := Y0) ⟨by omega, by omega⟩ ⟨by omega, by omega⟩
        by_cases T2 : 4294967296 * r1 + m1 < q1 * Y0
        · have T4 : 1 ≤ q1 := (QI_next y1 y2 y3 y4 u0 u1 m10 m11 HI.out (.inr T2)).1
          by_cases T3 : 4294967296 ≤ r1 + Y1
          · have hP := Lib.hid (QP_break y1 y2 y3 y4 u0 u1 m10 m11 HI.out (.inr T2) T3)
            clear HI
            go_wp2
            go_meet
            exact ⟨_, _, rfl, rfl, hP.out, rfl⟩
          · have hN := Lib.hid (QI_go y1 y2 y3 y4 u0 u1 m10 m11 HI.out (.inr T2) (by omega))
            clear HI
            go_wp2
            go_round
            case rel => exact ⟨_, _, rfl, rfl, hN.out⟩
            case measure => simp [intOf]; omega
        · have hP := Lib.hid (QP_done HI.out (by omega) (by omega))
          clear HI
          go_wp2
          go_meet
          exact ⟨_, _, rfl, rfl, hP.out, rfl⟩
  case rest =>
    obtain ⟨q1, r1, rfl, rfl, hP, rfl⟩ := hcut
    have hY := yy.out
    have hP' := Lib.hid hP
    rw [← hY] at hP
    obtain ⟨b0, b1, b2, b3⟩ := hP
    rw [qy1] at b3
    obtain ⟨A, eA⟩ : ∃ A, q1 * Y = A := ⟨_, rfl⟩
    rw [eA] at b2 b3
    obtain ⟨X, eX⟩ : ∃ X, U * 4294967296 + m1 - A = X := ⟨_, rfl⟩
    have x0 : 0 ≤ X := by omega
    have x1 : X < Y1 * 4294967296 + Y0 := by omega
    obtain ⟨z1, f1⟩ : ∃ z, IntKind.u64.wrap (U * 4294967296) = z := ⟨_, rfl⟩
    obtain ⟨z2, f2⟩ : ∃ z, IntKind.u64.wrap (z1 + m1) = z := ⟨_, rfl⟩
    obtain ⟨z3, f3⟩ : ∃ z, IntKind.u64.wrap (q1 * Y) = z := ⟨_, rfl⟩
    have f4 : IntKind.u64.wrap (z2 - z3) = X := by
      rw [← f2, ← f1, ← f3, eA]
      simp only [IntKind.wrap_u64]
      omega
    have HX := Lib.hid eX
    have HA := Lib.hid eA
    have HY := Lib.hid hY
    have hq2 := Lib.hid (QI_start y1 y2 y3 y4 x0 x1 m00 m01)
    obtain ⟨c0, c1, c2, c3, c4, c5⟩ := hq2.out
    obtain ⟨t, f5⟩ : ∃ t, IntKind.u64.wrap (X / Y1 * Y1) = t := ⟨_, rfl⟩
    have f6 : IntKind.u64.wrap (X - t) = X - X / Y1 * Y1 := by
      rw [← f5]
      simp only [IntKind.wrap_u64]
      omega
    clear eX eA hY b2 b3 c4 c5
    go_upto_block 2 with (fail)
    go_cut [18, 16] from 19 (fun s18 s16 wc => ∃ q0 r0 : Int, s18 = .int .u64 q0 ∧ s16 = .int .u64 r0 ∧ QP (X * 4294967296 + m0) (Y1 * 4294967296 + Y0) q0 ∧ w = wc)
    case first =>
      go_wp2
      go_loop [18, 16] (fun s18 s16 => ∃ q0 r0 : Int, s18 = .int .u64 q0 ∧ s16 = .int .u64 r0 ∧ QI X Y1 Y0 m0 q0 r0) (fun s18 _ => (intOf s18).toNat)
      case atStart => exact ⟨_, _, rfl, rfl, hq2.out⟩
      case round =>
        obtain ⟨q0, r0, rfl, rfl, hI⟩ := hrel
        have HI := Lib.hid hI
        obtain ⟨q00, q01, r00, r01, hI5, hI6⟩ := hI
        clear hI5 hI6
        by_cases T1 : 4294967296 ≤ q0
        · by_cases T3 : 4294967296 ≤ r0 + Y1
          · have hP := Lib.hid (QP_break y1 y2 y3 y4 x0 x1 m00 m01 HI.out (.inl T1) T3)
            clear HI
            go_wp2
            go_meet
            exact ⟨_, _, rfl, rfl, hP.out, rfl⟩
          · have hN := Lib.hid (QI_go y1 y2 y3 y4 x0 x1 m00 m01 HI.out (.inl T1) (by omega))
            clear HI
            go_wp2
            go_round
            case rel => exact ⟨_, _, rfl, rfl, hN.out⟩
            case measure => simp [intOf]; omega
        · obtain ⟨a0, a1⟩ := half_mul (x := q0) (y := Y0) ⟨by omega, by omega⟩ ⟨by omega, by omega⟩
          by_cases T2 : 4294967296 * r0 + m0 < q0 * Y0
          · have T4 : 1 ≤ q0 := (QI_next y1 y2 y3 y4 x0 x1 m00 m01 HI.out (.inr T2)).1
            by_cases T3 : 4294967296 ≤ r0 + Y1
            · have hP := Lib.hid (QP_break y1 y2 y3 y4 x0 x1 m00 m01 HI.out (.inr T2) T3)
              clear HI
              go_wp2
              go_meet
              exact ⟨_, _, rfl, rfl, hP.out, rfl⟩
            · have hN := Lib.hid (QI_go y1 y2 y3 y4 x0 x1 m00 m01 HI.out (.inr T2) (by omega))
              clear HI
              go_wp2
              go_round
              case rel => exact ⟨_, _, rfl, rfl, hN.out⟩
              case measure => simp [intOf]; omega
          · have hP := Lib.hid (QP_done HI.out (by omega) (by omega))
            clear HI
            go_wp2
            go_meet
            exact ⟨_, _, rfl, rfl, hP.out, rfl⟩
    case rest =>
      obtain ⟨q0, r0, rfl, rfl, hP2, rfl⟩ := hcut
      have hY := HY.out
      obtain ⟨kQ, kR⟩ := hQR.out q1 q0 (by rw [hY]; exact hP'.out) (by rw [hY, ← hY, HA.out, HX.out, hY]; exact hP2)
      have hP3 := hP2
      rw [← hY] at hP3
      obtain ⟨d0, d1, d2, d3⟩ := hP3
      rw [qy1] at d3
      rw [HA.out, HX.out] at kR
      obtain ⟨B, eB⟩ : ∃ B, q0 * Y = B := ⟨_, rfl⟩
      rw [eB] at d2 d3 kR
      obtain ⟨z4, f7⟩ : ∃ z, IntKind.u64.wrap (X * 4294967296) = z := ⟨_, rfl⟩
      obtain ⟨z5, f8⟩ : ∃ z, IntKind.u64.wrap (z4 + m0) = z := ⟨_, rfl⟩
      obtain ⟨z6, f9⟩ : ∃ z, IntKind.u64.wrap (q0 * Y) = z := ⟨_, rfl⟩
      have r0 : 0 ≤ R := by omega
      have r1 : R < 18446744073709551616 := by omega
      have f10 : IntKind.u64.wrap (z5 - z6) = R := by
        rw [← f8, ← f7, ← f9, eB]
        simp only [IntKind.wrap_u64]
        omega
      clear hP2 eB kR hY d2 d3 hP' HA HX HY hQR yy hq
      go_wp2
      go_ret2
      exact ⟨rfl, rfl⟩
end Go.Proofs.Ytbgccdjkofpiaaa
