/- What the document's own Div answers. Conditions: words. -/
import Derived.Test.YtbgccdjkofpiaaaDivM
import Derived.Test.YtbgccdjkofpiaaaRef
import Derived.LoopTactic
namespace Go.Proofs.Ytbgccdjkofpiaaa
open Go.RowKit W
set_option linter.unusedVariables false

set_option maxHeartbeats 1000000 in
theorem rDiv_ok (h l n : Int) (w : World) (h0 : 0 ≤ h) (h1 : h < n) (l0 : 0 ≤ l) (l1 : l < 18446744073709551616) (n1 : n < 18446744073709551616) :
    Calls Try.prog 58 #[.agg #[.int .u64 h, .int .u64 l], .int .u64 n] w fun e w' => e = .returned (.tuple #[.int .u64 (V h l / n), .int .u64 (V h l % n), .int .i64 0]) ∧ Below w.heap.size w w' := by
  have hz : (n == 0) = false := by simp; omega
  go_enter Try.func58, Try.ntmps58
  go_wp2
  go_loopw [7, 8, 9] (fun s7 s8 s9 wr => ∃ (k : Nat) (r q lo : Int), s7 = .int .u64 r ∧ s8 = .int .u64 q ∧ s9 = .int .i64 k ∧ k ≤ 64 ∧ DI h l n k r q lo ∧ wr = w.alloc (.cells #[.int .u64 h, .int .u64 lo] 54)) (fun _ _ s9 _ => 64 - (intOf s9).toNat)
  case atStart => exact ⟨0, h, 0, l, rfl, rfl, rfl, by omega, DI_start h0 h1 l0 l1, rfl⟩
  case round =>
    obtain ⟨k, r, q, lo, rfl, rfl, rfl, hk, hI, rfl⟩ := hrel
    have HI := Lib.hid hI
    obtain ⟨hI1, r0, r1, lo0, lo1, q0, hI7⟩ := hI
    clear hI1 hI7
    by_cases hlt : k < 64
    · have q1 := DI_q HI.out (by omega)
      have b0 : 0 ≤ lo / 9223372036854775808 := by omega
      have b1 : lo / 9223372036854775808 ≤ 1 := by omega
      have f1 : IntKind.u64.wrap (lo * 2) = lo * 2 - lo / 9223372036854775808 * 18446744073709551616 := by rw [IntKind.wrap_u64]; omega
      obtain ⟨lo2, hlo⟩ : ∃ x, lo * 2 - lo / 9223372036854775808 * 18446744073709551616 = x := ⟨_, rfl⟩
      have l20 : 0 ≤ lo2 := by omega
      have l21 : lo2 < 18446744073709551616 := by omega
      rw [hlo] at f1
      have hY := Lib.hid (fun T => DI_yes HI.out b0 b1 hlo.symm l20 l21 T)
      have hX := Lib.hid (fun T => DI_no HI.out b0 b1 hlo.symm l20 l21 T)
      clear HI hlo
      obtain ⟨b, hb⟩ : ∃ x, lo / 9223372036854775808 = x := ⟨_, rfl⟩
      rw [hb] at b0 b1 hY hX
      by_cases t1 : n - r ≤ r
      · have hN := Lib.hid (hY.out (by omega))
        clear hY hX
        go_wp2
        go_roundw
        case rel => exact ⟨k + 1, _, _, _, rfl, rfl, by go_num, by omega, hN.out, rfl⟩
        case measure => simp [intOf]; omega
      · by_cases t2 : n - r ≤ r + 1
        · by_cases t3 : b = 1
          · subst t3
            have f2 : IntKind.u64.wrap (r - (n - r)) = 18446744073709551615 := by rw [IntKind.wrap_u64]; omega
            have f3 : r - (n - r) + 1 = 0 := by omega
            have hN := Lib.hid (hY.out (by omega))
            rw [f3] at hN
            clear hY hX f3
            go_wp2
            go_roundw
            case rel => exact ⟨k + 1, _, _, _, rfl, rfl, by go_num, by omega, hN.out, rfl⟩
            case measure => simp [intOf]; omega
          · obtain rfl : b = 0 := by omega
            have hN0 := hX.out (by omega)
            rw [Int.add_zero] at hN0
            have hN := Lib.hid hN0
            clear hN0
            clear hY hX
            go_wp2
            go_roundw
            case rel => exact ⟨k + 1, _, _, _, rfl, rfl, by go_num, by omega, hN.out, rfl⟩
            case measure => simp [intOf]; omega
        · have hN := Lib.hid (hX.out (by omega))
          clear hY hX
          go_wp2
          go_roundw
          case rel => exact ⟨k + 1, _, _, _, rfl, rfl, by go_num, by omega, hN.out, rfl⟩
          case measure => simp [intOf]; omega
    · obtain rfl : k = 64 := by omega
      have hE := Lib.hid (DI_end HI.out)
      clear HI
      go_wp2
      go_ret3
      exact ⟨by rw [← hE.out.1, ← hE.out.2]; rfl, up1 _ _⟩

theorem rDiv_any (h l n : Int) (w : World) (hh : Word h) (hl : Word l) (hn : Word n) :
    Calls Try.prog 58 #[.agg #[.int .u64 h, .int .u64 l], .int .u64 n] w fun e w' => e = .returned (.tuple #[.int .u64 (dQ h l n), .int .u64 (dR h l n), .int .i64 (dE h n)]) ∧ Below w.heap.size w w' := by
  have hD := fun w h1 => rDiv_ok h l n w hh.1 h1 hl.1 hl.2 hn.2
  unfold Word at hh hl hn
  obtain ⟨a0, a1⟩ := hh; obtain ⟨b0, b1⟩ := hl; obtain ⟨c0, c1⟩ := hn
  by_cases z : n = 0
  · subst z
    obtain ⟨e1, e2, e3⟩ := d_zero h l
    rw [e1, e2, e3]
    clear e1 e2 e3
    go_enter Try.func58, Try.ntmps58
    go_wp2
    go_ret3
    exact ⟨rfl, up1 _ _⟩
  · have hz : (n == 0) = false := by simp; omega
    by_cases s : n ≤ h
    · obtain ⟨e1, e2, e3⟩ := d_much (l := l) z s
      rw [e1, e2, e3]
      clear e1 e2 e3
      go_enter Try.func58, Try.ntmps58
      go_wp2
      go_ret3
      exact ⟨rfl, up1 _ _⟩
    · obtain ⟨e1, e2, e3⟩ := d_ok (l := l) z (show h < n by omega)
      rw [e1, e2, e3]
      exact hD _ (by omega)
end Go.Proofs.Ytbgccdjkofpiaaa
