/- What the calls Plus, Minus and Cmp of the document's own answer. No condition but that words are words. -/
import Derived.Test.YtbgccdjkofpiaaaSum
namespace Go.Proofs.Ytbgccdjkofpiaaa
open Go.RowKit W
set_option linter.unusedVariables false

theorem u64_over (n : Int) (h : 18446744073709551616 ≤ n ∧ n < 36893488147419103232) : IntKind.u64.wrap n = n - 18446744073709551616 := by
  simp [IntKind.wrap, IntKind.bits, IntKind.signed]; omega
theorem u64_under (n : Int) (h : -18446744073709551616 ≤ n ∧ n < 0) : IntKind.u64.wrap n = n + 18446744073709551616 := by
  simp [IntKind.wrap, IntKind.bits, IntKind.signed]; omega

theorem rPlus_any (a b c d : Int) (w : World) (ha : Word a) (hb : Word b) (hc : Word c) (hd : Word d) :
    Calls Try.prog 51 #[.agg #[.int .u64 a, .int .u64 b], .agg #[.int .u64 c, .int .u64 d]] w fun e w' =>
      e = .returned (.tuple #[.agg #[.int .u64 (pH a b c d), .int .u64 (pL a b c d)], .int .i64 (pE a b c d)]) ∧ Below w.heap.size w w' := by
  unfold Word at ha hb hc hd
  obtain ⟨a0, a1⟩ := ha; obtain ⟨b0, b1⟩ := hb; obtain ⟨c0, c1⟩ := hc; obtain ⟨d0, d1⟩ := hd
  by_cases s1 : b + d < 18446744073709551616
  · by_cases s2 : a + c < 18446744073709551616
    · obtain ⟨e1, e2, e3⟩ := @pOk a b c d (a + c) (b + d) (by unfold V; omega) (by unfold Word; omega) (by unfold Word; omega)
      rw [e1, e2, e3]
      clear e1 e2 e3
      go_enter Try.func51, Try.ntmps51
      go_wp2
      exact bodyPost_ret (v := .tuple #[.agg #[.int .u64 (a + c), .int .u64 (b + d)], .int .i64 0]) (by simp [results, Try.results51, go_sem]) rfl ⟨rfl, up3 _ _ _ _⟩
    · obtain ⟨e1, e2, e3⟩ := @pNo a b c d (by unfold V; omega)
      rw [e1, e2, e3]
      clear e1 e2 e3
      have w1 := u64_over (a + c) (by omega)
      go_enter Try.func51, Try.ntmps51
      go_wp2
      exact bodyPost_ret (v := .tuple #[.agg #[.int .u64 0, .int .u64 0], .int .i64 10]) (by simp [results, Try.results51, go_sem]) rfl ⟨rfl, up3 _ _ _ _⟩
  · have w0 := u64_over (b + d) (by omega)
    by_cases s2 : a + c < 18446744073709551616
    · by_cases s3 : a + c + 1 < 18446744073709551616
      · obtain ⟨e1, e2, e3⟩ := @pOk a b c d (a + c + 1) (b + d - 18446744073709551616) (by unfold V; omega) (by unfold Word; omega) (by unfold Word; omega)
        rw [e1, e2, e3]
        clear e1 e2 e3
        have h5 : decide (a + c < a) = false := by simp; omega
        have h6 : (a + c + 1 == 0) = false := by simp; omega
        go_enter Try.func51, Try.ntmps51
        go_wp2
        exact bodyPost_ret (v := .tuple #[.agg #[.int .u64 (a + c + 1), .int .u64 (b + d - 18446744073709551616)], .int .i64 0]) (by simp [results, Try.results51, go_sem]) rfl ⟨rfl, up3 _ _ _ _⟩
      · obtain ⟨e1, e2, e3⟩ := @pNo a b c d (by unfold V; omega)
        rw [e1, e2, e3]
        clear e1 e2 e3
        have w1 : IntKind.u64.wrap (a + c + 1) = 0 := by rw [u64_over _ (by omega)]; omega
        go_enter Try.func51, Try.ntmps51
        go_wp2
        exact bodyPost_ret (v := .tuple #[.agg #[.int .u64 0, .int .u64 0], .int .i64 10]) (by simp [results, Try.results51, go_sem]) rfl ⟨rfl, up3 _ _ _ _⟩
    · obtain ⟨e1, e2, e3⟩ := @pNo a b c d (by unfold V; omega)
      rw [e1, e2, e3]
      clear e1 e2 e3
      have w1 := u64_over (a + c) (by omega)
      go_enter Try.func51, Try.ntmps51
      go_wp2
      exact bodyPost_ret (v := .tuple #[.agg #[.int .u64 0, .int .u64 0], .int .i64 10]) (by simp [results, Try.results51, go_sem]) rfl ⟨rfl, up3 _ _ _ _⟩

end Go.Proofs.Ytbgccdjkofpiaaa
