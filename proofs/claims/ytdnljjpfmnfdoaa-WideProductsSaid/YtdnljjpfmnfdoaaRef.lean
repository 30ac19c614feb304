/- What the calls Plus, Minus and Cmp of the document's own answer. No condition but that words are words. -/
import Derived.Test.YtdnljjpfmnfdoaaSum
namespace Go.Proofs.Ytdnljjpfmnfdoaa
open Go.RowKit W
set_option linter.unusedVariables false

theorem u64_over (n : Int) (h : 18446744073709551616 ≤ n ∧ n < 36893488147419103232) : IntKind.u64.wrap n = n - 18446744073709551616 := by
  simp [IntKind.wrap, IntKind.bits, IntKind.signed]; omega
theorem u64_under (n : Int) (h : -18446744073709551616 ≤ n ∧ n < 0) : IntKind.u64.wrap n = n + 18446744073709551616 := by
  simp [IntKind.wrap, IntKind.bits, IntKind.signed]; omega

theorem rPlus_any (a b c d : Int) (w : World) (ha : Word a) (hb : Word b) (hc : Word c) (hd : Word d) :
    Calls Try.prog 11 #[.agg #[.int .u64 a, .int .u64 b], .agg #[.int .u64 c, .int .u64 d]] w fun e w' =>
      e = .returned (.tuple #[.agg #[.int .u64 (pH a b c d), .int .u64 (pL a b c d)], .int .i64 (pE a b c d)]) ∧ Below w.heap.size w w' := by
  unfold Word at ha hb hc hd
  obtain ⟨a0, a1⟩ := ha; obtain ⟨b0, b1⟩ := hb; obtain ⟨c0, c1⟩ := hc; obtain ⟨d0, d1⟩ := hd
  by_cases s1 : b + d < 18446744073709551616
  · by_cases s2 : a + c < 18446744073709551616
    · obtain ⟨e1, e2, e3⟩ := @pOk a b c d (a + c) (b + d) (by unfold V; omega) (by unfold Word; omega) (by unfold Word; omega)
      rw [e1, e2, e3]
      clear e1 e2 e3
      go_enter Try.func11, Try.ntmps11
      go_wp2
      exact bodyPost_ret (v := .tuple #[.agg #[.int .u64 (a + c), .int .u64 (b + d)], .int .i64 0]) (by simp [results, Try.results11, go_sem]) rfl ⟨rfl, up3 _ _ _ _⟩
    · obtain ⟨e1, e2, e3⟩ := @pNo a b c d (by unfold V; omega)
      rw [e1, e2, e3]
      clear e1 e2 e3
      have w1 := u64_over (a + c) (by omega)
      go_enter Try.func11, Try.ntmps11
      go_wp2
      exact bodyPost_ret (v := .tuple #[.agg #[.int .u64 0, .int .u64 0], .int .i64 10]) (by simp [results, Try.results11, go_sem]) rfl ⟨rfl, up3 _ _ _ _⟩
  · have w0 := u64_over (b + d) (by omega)
    by_cases s2 : a + c < 18446744073709551616
    · by_cases s3 : a + c + 1 < 18446744073709551616
      · obtain ⟨e1, e2, e3⟩ := @pOk a b c d (a + c + 1) (b + d - 18446744073709551616) (by unfold V; omega) (by unfold Word; omega) (by unfold Word; omega)
        rw [e1, e2, e3]
        clear e1 e2 e3
        have h5 : decide (a + c < a) = false := by simp; omega
        have h6 : (a + c + 1 == 0) = false := by simp; omega
        go_enter Try.func11, Try.ntmps11
        go_wp2
        exact bodyPost_ret (v := .tuple #[.agg #[.int .u64 (a + c + 1), .int .u64 (b + d - 18446744073709551616)], .int .i64 0]) (by simp [results, Try.results11, go_sem]) rfl ⟨rfl, up3 _ _ _ _⟩
      · obtain ⟨e1, e2, e3⟩ := @pNo a b c d (by unfold V; omega)
        rw [e1, e2, e3]
        clear e1 e2 e3
        have w1 : IntKind.u64.wrap (a + c + 1) = 0 := by rw [u64_over _ (by omega)]; omega
        go_enter Try.func11, Try.ntmps11
        go_wp2
        exact bodyPost_ret (v := .tuple #[.agg #[.int .u64 0, .int .u64 0], .int .i64 10]) (by simp [results, Try.results11, go_sem]) rfl ⟨rfl, up3 _ _ _ _⟩
    · obtain ⟨e1, e2, e3⟩ := @pNo a b c d (by unfold V; omega)
      rw [e1, e2, e3]
      clear e1 e2 e3
      have w1 := u64_over (a + c) (by omega)
      go_enter Try.func11, Try.ntmps11
      go_wp2
      exact bodyPost_ret (v := .tuple #[.agg #[.int .u64 0, .int .u64 0], .int .i64 10]) (by simp [results, Try.results11, go_sem]) rfl ⟨rfl, up3 _ _ _ _⟩

theorem rCmp_any (a b c d : Int) (w : World) (hb : Word b) (hd : Word d) :
    Calls Try.prog 17 #[.agg #[.int .u64 a, .int .u64 b], .agg #[.int .u64 c, .int .u64 d]] w fun e w' => e = .returned (.int .i64 (cmpW a b c d)) ∧ Below w.heap.size w w' := by
  rcases Int.lt_trichotomy a c with h | h | h
  · rw [cmpW_lt (V_lt hb hd (.inl h))]
    go_enter Try.func17, Try.ntmps17
    go_wp2
    go_ret
    exact ⟨rfl, up2 _ _ _⟩
  · subst h
    rcases Int.lt_trichotomy b d with h | h | h
    · rw [cmpW_lt (V_lt hb hd (.inr ⟨rfl, h⟩))]
      go_enter Try.func17, Try.ntmps17
      go_wp2
      go_ret
      exact ⟨rfl, up2 _ _ _⟩
    · subst h
      rw [cmpW_eq rfl]
      go_enter Try.func17, Try.ntmps17
      go_wp2
      go_ret
      exact ⟨rfl, up2 _ _ _⟩
    · rw [cmpW_gt (V_lt hd hb (.inr ⟨rfl, h⟩))]
      have hne : (b == d) = false := by simp; omega
      go_enter Try.func17, Try.ntmps17
      go_wp2
      go_ret
      exact ⟨rfl, up2 _ _ _⟩
  · rw [cmpW_gt (V_lt hd hb (.inl h))]
    have hne : (a == c) = false := by simp; omega
    go_enter Try.func17, Try.ntmps17
    go_wp2
    go_ret
    exact ⟨rfl, up2 _ _ _⟩

theorem upset {w w1 : World} {o1 o2 o3 : Obj} (hb1 : Below (((w.alloc o1).alloc o2).alloc o3).heap.size (((w.alloc o1).alloc o2).alloc o3) w1) (v1 v2 : Value) :
    Below w.heap.size w ((w1.setCell { block := w.heap.size + 1 + 1, off := 0 } v1).setCell { block := w.heap.size + 1 + 1, off := 1 } v2) :=
  (((up3 w o1 o2 o3).trans (hb1.mono (by simp; omega))).setCell (by simp; omega) _).setCell (by simp; omega) _

theorem rMinus_lt (a b c d : Int) (w : World) (h : V a b < V c d) (hk :
  ∀ (w : World), Calls Try.prog 17 #[.agg #[.int .u64 a, .int .u64 b], .agg #[.int .u64 c, .int .u64 d]] w fun e w' => e = .returned (.int .i64 (-1)) ∧ Below w.heap.size w w') :
    Calls Try.prog 13 #[.agg #[.int .u64 a, .int .u64 b], .agg #[.int .u64 c, .int .u64 d]] w fun e w' =>
      e = .returned (.tuple #[.agg #[.int .u64 (mH a b c d), .int .u64 (mL a b c d)], .int .i64 (mE a b c d)]) ∧ Below w.heap.size w w' := by
  obtain ⟨e1, e2, e3⟩ := mNo h
  rw [e1, e2, e3]
  clear e1 e2 e3
  go_enter Try.func13, Try.ntmps13
  go_wp2_with (go_at_call 17; refine (hk _).mono ?_; rintro e w1 ⟨rfl, hb1⟩; obtain ⟨hc1, hf1⟩ := bcell hb1; have hz1 := hb1.size)
  exact bodyPost_ret (v := .tuple #[.agg #[.int .u64 0, .int .u64 0], .int .i64 10]) (by simp [results, Try.results13, go_sem, hc1]) rfl ⟨rfl, upset hb1 _ _⟩

theorem rMinus_ge (k : Int) (hneg : decide (k < 0) = false) (a b c d : Int) (w : World) (ha : Word a) (hb : Word b) (hc : Word c) (hd : Word d) (h : V c d ≤ V a b) (hk :
  ∀ (w : World), Calls Try.prog 17 #[.agg #[.int .u64 a, .int .u64 b], .agg #[.int .u64 c, .int .u64 d]] w fun e w' => e = .returned (.int .i64 k) ∧ Below w.heap.size w w') :
    Calls Try.prog 13 #[.agg #[.int .u64 a, .int .u64 b], .agg #[.int .u64 c, .int .u64 d]] w fun e w' =>
      e = .returned (.tuple #[.agg #[.int .u64 (mH a b c d), .int .u64 (mL a b c d)], .int .i64 (mE a b c d)]) ∧ Below w.heap.size w w' := by
  unfold Word at ha hb hc hd
  obtain ⟨a0, a1⟩ := ha; obtain ⟨b0, b1⟩ := hb; obtain ⟨c0, c1⟩ := hc; obtain ⟨d0, d1⟩ := hd
  by_cases s : b < d
  · have s2 : c + 1 ≤ a := by unfold V at h; omega
    obtain ⟨e1, e2, e3⟩ := @mOk a b c d (a - c - 1) (b - d + 18446744073709551616) (by unfold V; omega) (by unfold Word; omega) (by unfold Word; omega)
    rw [e1, e2, e3]
    clear e1 e2 e3
    have w1 := u64_under (b - d) (by omega)
    go_enter Try.func13, Try.ntmps13
    go_wp2_with (go_at_call 17; refine (hk _).mono ?_; rintro e w1 ⟨rfl, hb1⟩; obtain ⟨hc1, hf1⟩ := bcell hb1; have hz1 := hb1.size)
    exact bodyPost_ret (v := .tuple #[.agg #[.int .u64 (a - c - 1), .int .u64 (b - d + 18446744073709551616)], .int .i64 0]) (by simp [results, Try.results13, go_sem, hc1]) rfl ⟨rfl, upset hb1 _ _⟩
  · have s2 : c ≤ a := by unfold V at h; omega
    obtain ⟨e1, e2, e3⟩ := @mOk a b c d (a - c) (b - d) (by unfold V; omega) (by unfold Word; omega) (by unfold Word; omega)
    rw [e1, e2, e3]
    clear e1 e2 e3
    go_enter Try.func13, Try.ntmps13
    go_wp2_with (go_at_call 17; refine (hk _).mono ?_; rintro e w1 ⟨rfl, hb1⟩; obtain ⟨hc1, hf1⟩ := bcell hb1; have hz1 := hb1.size)
    exact bodyPost_ret (v := .tuple #[.agg #[.int .u64 (a - c), .int .u64 (b - d)], .int .i64 0]) (by simp [results, Try.results13, go_sem, hc1]) rfl ⟨rfl, upset hb1 _ _⟩
theorem rMinus_any (a b c d : Int) (w : World) (ha : Word a) (hb : Word b) (hc : Word c) (hd : Word d) :
    Calls Try.prog 13 #[.agg #[.int .u64 a, .int .u64 b], .agg #[.int .u64 c, .int .u64 d]] w fun e w' =>
      e = .returned (.tuple #[.agg #[.int .u64 (mH a b c d), .int .u64 (mL a b c d)], .int .i64 (mE a b c d)]) ∧ Below w.heap.size w w' := by
  have hk := fun w => rCmp_any a b c d w hb hd
  rcases Int.lt_or_le (V a b) (V c d) with h | h
  · rw [cmpW_lt h] at hk
    exact rMinus_lt a b c d w h hk
  · refine rMinus_ge _ ?_ a b c d w ha hb hc hd h hk
    rcases Int.lt_or_eq_of_le h with h' | h'
    · rw [cmpW_gt h']; rfl
    · rw [cmpW_eq h']; rfl
end Go.Proofs.Ytdnljjpfmnfdoaa
