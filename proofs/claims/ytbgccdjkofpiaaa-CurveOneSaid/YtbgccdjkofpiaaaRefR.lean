/- When the document's curve reaches an amount: found by halves. No condition but that words are words. -/
import Derived.Test.YtbgccdjkofpiaaaRefW
import Derived.LoopTactic
namespace Go.Proofs.Ytbgccdjkofpiaaa
open Go.RowKit W
set_option linter.unusedVariables false
/-- Between low and high it is reached. -/
def RI (f l r y lo hi : Int) : Prop := 0 ≤ lo ∧ lo ≤ hi ∧ hi ≤ 9223372036854775807 ∧ y ≤ cAt f l r hi ∧ (lo = 0 ∨ cAt f l r (lo - 1) < y)
set_option maxRecDepth 100000 in
set_option maxHeartbeats 1000000 in
theorem kReach_of (f l r y n : Int) (w : World) (hf : Word f) (hl : Word l) (hr : Word r) (hy : Word y) (hn : IsReach f l r y n) :
    Calls Try.prog 26 #[.agg #[.int .u64 f, .int .u64 l, .int .u64 r], .int .u64 y] w fun e w' => e = .returned (.int .u64 n) ∧ Below w.heap.size w w' := by
  have BC := Box.new w 24 #[.int .u64 f, .int .u64 l, .int .u64 r]
  have T := up1 w (.cells #[.int .u64 f, .int .u64 l, .int .u64 r] 24)
  have hA := fun w => kAt_any f l r 9223372036854775807 w hf hl hr ⟨by omega, by omega⟩
  by_cases h : cAt f l r 9223372036854775807 < y
  · have e : n = 9223372036854775808 := hn.unique hf.1 hr.1 (.inl ⟨rfl, h⟩)
    subst e
    obtain ⟨a, ea⟩ : ∃ a, cAt f l r 9223372036854775807 = a := ⟨_, rfl⟩
    rw [ea] at h hA
    clear hn ea
    go_enter Try.func26, Try.ntmps26
    go_wp2_with (go_at_call 24; (with_reducible refine (hA _).mono ?_); rintro e w1 ⟨rfl, hb1⟩)
    go_ret
    exact ⟨rfl, up T hb1 T.size⟩
  · have hu := Lib.hid (fun (m : Int) (hm : IsReach f l r y m) => (hn.unique hf.1 hr.1 hm : n = m))
    have hAt := Lib.hid (fun (t : Int) (w : World) (ht : Word t) => kAt_any f l r t w hf hl hr ht)
    have h0 : y ≤ cAt f l r 9223372036854775807 := by omega
    have hI : RI f l r y 0 9223372036854775807 := ⟨by omega, by omega, by omega, h0, .inl rfl⟩
    obtain ⟨a, ea⟩ : ∃ a, cAt f l r 9223372036854775807 = a := ⟨_, rfl⟩
    rw [ea] at h h0 hA
    clear hn ea hy
    have HI := Lib.hid hI
    clear hI
    go_enter Try.func26, Try.ntmps26
    go_wp2_with (go_at_call 24; (with_reducible refine (hA _).mono ?_); rintro e w1 ⟨rfl, hb1⟩; replace BC := BC.below hb1; replace T := up T hb1 T.size; clear hb1)
    go_loopw [5, 6] (fun s5 s6 wr => ∃ lo hi : Int, s5 = .int .u64 lo ∧ s6 = .int .u64 hi ∧ RI f l r y lo hi ∧ Box wr w.heap.size #[.int .u64 f, .int .u64 l, .int .u64 r] 24 ∧ Below w.heap.size w wr) (fun s5 s6 _ => (intOf s6 - intOf s5).toNat)
    case atStart => exact ⟨0, 9223372036854775807, rfl, rfl, HI.out, BC, T⟩
    case round =>
      clear HI T BC
      obtain ⟨lo, hi, rfl, rfl, hI, BC, T⟩ := hrel
      obtain ⟨c0, c1, c2, c3⟩ := BC.tri
      by_cases hlt : lo < hi
      · obtain ⟨i1, i2, i3, i4, i5⟩ := hI
        have w1 : IntKind.u64.wrap (hi - lo) = hi - lo := IntWalk.u64_in _ (by omega)
        obtain ⟨m, em⟩ : ∃ m, lo + (hi - lo) / 2 = m := ⟨_, rfl⟩
        have w2 : IntKind.u64.wrap (lo + (hi - lo) / 2) = m := by rw [em]; exact IntWalk.u64_in _ (by omega)
        have w3 : IntKind.u64.wrap (m + 1) = m + 1 := IntWalk.u64_in _ (by omega)
        have hM := fun w => hAt.out m w ⟨by omega, by omega⟩
        by_cases t : y ≤ cAt f l r m
        · have hN := Lib.hid (show RI f l r y lo m from ⟨i1, by omega, by omega, t, i5⟩)
          have k1 : m < hi := by omega
          have k2 : lo ≤ m := by omega
          obtain ⟨b, eb⟩ : ∃ b, cAt f l r m = b := ⟨_, rfl⟩
          rw [eb] at hM t
          clear i4 i5 eb em
          go_wp2_with (go_at_call 24; (with_reducible refine (hM _).mono ?_); rintro e wx ⟨rfl, hb1⟩)
          go_roundw
          case rel => exact ⟨lo, m, rfl, rfl, hN.out, BC.below hb1, up T hb1 T.size⟩
          case measure => simp [intOf]; omega
        · have hN := Lib.hid (show RI f l r y (m + 1) hi from ⟨by omega, by omega, i3, i4, .inr (by rw [show m + 1 - 1 = m by omega]; omega)⟩)
          have k1 : m < hi := by omega
          have k2 : lo ≤ m := by omega
          obtain ⟨b, eb⟩ : ∃ b, cAt f l r m = b := ⟨_, rfl⟩
          rw [eb] at hM t
          clear i4 i5 eb em
          go_wp2_with (go_at_call 24; (with_reducible refine (hM _).mono ?_); rintro e wx ⟨rfl, hb1⟩)
          go_roundw
          case rel => exact ⟨m + 1, hi, rfl, rfl, hN.out, BC.below hb1, up T hb1 T.size⟩
          case measure => simp [intOf]; omega
      · have e : n = lo := by
          obtain ⟨i1, i2, i3, i4, i5⟩ := hI
          exact hu.out lo (.inr ⟨i1, by omega, by rw [show lo = hi by omega]; exact i4, i5⟩)
        subst e
        go_wp2
        go_ret
        exact ⟨rfl, T⟩
end Go.Proofs.Ytbgccdjkofpiaaa
