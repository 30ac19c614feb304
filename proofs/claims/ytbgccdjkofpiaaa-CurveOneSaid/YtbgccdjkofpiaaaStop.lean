/- What the program's calls answer that make a word wide and that stop a number, of one word and of two. No condition but that words are words. -/
import Derived.Test.YtbgccdjkofpiaaaRatM
import Derived.Test.YtbgccdjkofpiaaaCmp
import Derived.Test.YtbgccdjkofpiaaaHas
import Derived.Deep.RegionHeld3
namespace Go.Proofs.Ytbgccdjkofpiaaa
open Go.RowKit W
set_option linter.unusedVariables false
theorem word_any (n : Int) (w : World) :
    Calls Try.prog 44 #[.int .u64 n] w fun e w' => e = .returned (.agg #[.int .u64 0, .int .u64 n]) ∧ Below w.heap.size w w' := by
  go_enter Try.func44, Try.ntmps44
  go_wp2
  exact bodyPost_ret (v := .agg #[.int .u64 0, .int .u64 n]) (by simp [results, Try.results44, go_sem]) rfl ⟨rfl, up1 _ _⟩
theorem stop_any (n : Int) (w : World) (hn : Word n) :
    Calls Try.prog 47 #[.int .u64 n, .int .u64 4611686018427387904, .func (.func 48) #[] #[]] w fun e w' => e = .returned (.int .u64 (stp n)) ∧ Below w.heap.size w w' := by
  have hC := fun w => compare_any n 4611686018427387904 w
  by_cases h : 4611686018427387904 < n
  · rw [cmpN_gt h] at hC
    rw [stp_hi h]
    clear h
    go_enter Try.func47, Try.ntmps47
    go_wp2_with (go_at_call 48; (with_reducible refine (hC _).mono ?_); rintro e w' ⟨rfl, rfl⟩)
    go_ret
    exact ⟨rfl, Below.refl _ _⟩
  · have hz : ∃ z, cmpN n 4611686018427387904 = z ∧ decide (0 < z) = false := by
      rcases Int.lt_or_eq_of_le (show n ≤ 4611686018427387904 by omega) with h | h
      · exact ⟨_, cmpN_lt h, rfl⟩
      · exact ⟨_, cmpN_eq h, rfl⟩
    obtain ⟨z, e1, e2⟩ := hz
    rw [e1] at hC
    rw [stp_lo (by omega)]
    clear h e1
    go_enter Try.func47, Try.ntmps47
    go_wp2_with (go_at_call 48; (with_reducible refine (hC _).mono ?_); rintro e w' ⟨rfl, rfl⟩)
    go_ret
    exact ⟨rfl, Below.refl _ _⟩
end Go.Proofs.Ytbgccdjkofpiaaa
