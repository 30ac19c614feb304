/- What a run has is the least of what all copies have: the walk, with the numbers put in. -/
import Derived.Test.YtdhfblcheoahaaaLeaW
namespace Go.Proofs.Ytdhfblcheoahaaa
open Go.RowKit Go.Shelf W
set_option linter.unusedVariables false
theorem W.one_eq {y f l r d : Int} (hy : 0 ≤ y) (hz : 0 ≤ cW f l r d) : rP (min y 4611686018427387904) (cAt f l r d) = stp (y + cW f l r d) := by
  have e : min y 4611686018427387904 = stp y := by have := stp_or y; omega
  unfold rP cAt
  rw [e, stp_add hy hz]
theorem BentLeast_walk (f l r : Int) (a : Option Addr) (n c : Nat) (xs : Nat → Ac) (t : Int) (w : World) (hf : Word f) (hl : Word l) (hr : Word r) (hI : IsAcs w a n c xs) (hw : ∀ i, (xs i).word) (hcm : c ≤ maxLen) (hnn : a = none → n = 0 ∧ c = 0) (ht : Word t) :
    Calls Try.prog 5 #[.agg #[eU f, eU l, eU r], .slice a n c, eU t] w fun e w' => e = .returned (.bool true) ∧ Below w.heap.size w w' := by
  have hSt := fun w' (T : Below w.heap.size w w') => started_any f l r a n c xs w' hf hl hr hw (hI.below T)
  obtain ⟨X, hXd⟩ : ∃ X : Nat → Int, X = fun i => (xs i).x := ⟨_, rfl⟩
  obtain ⟨Y, hYd⟩ : ∃ Y : Nat → Int, Y = fun i => (xs i).y := ⟨_, rfl⟩
  have hXe : ∀ k, (xs k).x = X k := fun k => by rw [hXd]
  have hYe : ∀ k, (xs k).y = Y k := fun k => by rw [hYd]
  rw [← hXd, ← hYd] at hSt
  have hYw : ∀ k, Word (Y k) := fun k => by rw [← hYe]; exact (hw k).2.1
  clear hXd hYd
  by_cases hc : CvB f l r ∧ n ≤ 40
  · have hS2 : ∀ w', Below w.heap.size w w' → Calls Try.prog 21 #[.agg #[eU f, eU l, eU r], .slice a n c] w' fun e w'' => ∃ B : Nat, e = .returned (.pointer (some ⟨B, 0, none⟩)) ∧ w'.heap.size ≤ B ∧ Rn w'' B f l r X Y n ∧ Below w'.heap.size w' w'' := fun w' T => (hSt w' T).mono fun e w'' h => by
      obtain ⟨h1, h2⟩ := h
      rcases h1 with ⟨_, B, e1, e2, e3⟩ | ⟨h1, _⟩
      · exact ⟨B, e1, e2, e3, h2⟩
      · exact absurd hc h1
    rcases Nat.eq_zero_or_pos n with rfl | hn
    · exact lea_zero f l r a c t w (fun B w => Rn w B f l r X Y 0) (fun B w w' h hb => h.below hb) hS2 (fun B w h => bn_last_none _ w (bn_starts_any _ _ _ _ _ _ _ _ _ h)) (fun B w h => Bn.zero_at _ h)
    · obtain ⟨l0, o0, o1, r0, rf, f1⟩ := hc.1.over
      have hY0 : ∀ k, 0 ≤ Y k := fun k => (hYw k).1
      have hx0 := xS_nn X n
      have hx1 := xS_never X n
      obtain ⟨t0, t1⟩ := ht
      obtain ⟨p0, p1⟩ := hS_bounds (s := f) (o := 0) (X := X) (Y := Y) (by omega) (by omega) hY0 n
      obtain ⟨q0, q1⟩ := hS_bounds (s := r) (o := (f - r) * l) (X := X) (Y := Y) r0 (by omega) hY0 n
      have hd : 0 ≤ max t (xS X n) - xS X n := by omega
      have hle := fun k (hk : k < n) => run_le (X := X) (Y := Y) (d := max t (xS X n) - xS X n) hl.1 r0 rf hY0 hd hk
      obtain ⟨j, hj, ej⟩ := run_ex (X := X) (Y := Y) (n := n) (d := max t (xS X n) - xS X n) hl.1 r0 rf hY0 hd hn
      have ex : ∀ k, xS X n + (max t (xS X n) - xS X n) - xS X (k + 1) = max t (xS X n) - xS X (k + 1) := fun k => by omega
      simp only [ex] at hle ej
      have hk0 : ∀ k, k < n → 0 ≤ max t (xS X n) - xS X (k + 1) ∧ max t (xS X n) - xS X (k + 1) < 18446744073709551616 := fun k hk => by
        have h1 := xS_le X (show k + 1 ≤ n by omega)
        have h2 := xS_nn X (k + 1)
        omega
      have hcw : ∀ k, k < n → 0 ≤ cW f l r (max t (xS X n) - xS X (k + 1)) := fun k hk => cW_nn hf.1 hr.1 hl.1 (hk0 k hk).1
      have mF := Int.mul_nonneg (show 0 ≤ f by omega) hd
      have mR := Int.mul_nonneg r0 hd
      have dw : Word (max t (xS X n) - xS X n) := ⟨hd, by omega⟩
      have wF : Word (rT f (max t (xS X n) - xS X n)) := rT_word hf dw
      have wR : Word (rT r (max t (xS X n) - xS X n)) := rT_word hr dw
      have hv : min (rP (hS f 0 X Y n) (rT f (max t (xS X n) - xS X n))) (rP (hS r ((f - r) * l) X Y n) (rT r (max t (xS X n) - xS X n))) = rA (hS f 0 X Y n) f (hS r ((f - r) * l) X Y n) r (xS X n) t := by
        unfold rP rT rA gA
        rw [stp_plusr p0, stp_plusr q0]
      refine lea_run f l r a n c t w xs (xS X) (fun k => cAt f l r (max t (xS X n) - xS X (k + 1))) (fun k => stp (Y k + cW f l r (max t (xS X n) - xS X (k + 1)))) (max t (xS X n)) _ _ _ (max t (xS X n) - xS X n) _ _ _ _ (fun B w => Rn w B f l r X Y n) (fun B w w' h hb => h.below hb) hn hc.2 hI rfl rfl
        (fun k hk => by rw [hXe, xS_succ]; omega) (u64_same _ dw) (fun k hk => u64_same _ (hk0 k hk)) hle ⟨j, hj, ej.symm⟩ hv hS2 (fun B w h => bn_last_any B _ _ _ _ _ _ _ w h (nat_zero hn))
        (fun B w h => rn_at B f l r t X Y n w hc.1 hY0 hn ⟨t0, t1⟩ h) (fun k hk w => At_any f l r _ w hf hl hr (hk0 k hk)) (fun k hk w => ?_) (fun B w h => bn_lines_any B _ _ _ _ _ _ _ w h (nat_zero hn))
        (fun w => rTimes'_any f _ w hf dw) (fun w => rTimes'_any r _ w hr dw) (fun w => rPlus'_any _ _ w ⟨p0, by omega⟩ wF) (fun w => rPlus'_any _ _ w ⟨q0, by omega⟩ wR)
      have hk' := hk0 k hk
      have hy := hYw k
      have h1 := cAt_nn (F := f) (L := l) (R := r) hf.1 hr.1 hl.1 hk'.1
      have h2 := cAt_le f l r (max t (xS X n) - xS X (k + 1))
      have := rPlus'_any (min (Y k) 4611686018427387904) (cAt f l r (max t (xS X n) - xS X (k + 1))) w ⟨by have := hy.1; omega, by omega⟩ ⟨h1, by omega⟩
      rw [one_eq hy.1 (hcw k hk)] at this
      rw [hYe]
      exact this
  · exact lea_no f l r a n c t w fun w' T => (hSt w' T).mono fun e w'' h => by
      obtain ⟨h1, h2⟩ := h
      rcases h1 with ⟨h1, _⟩ | ⟨_, h1⟩
      · exact absurd h1 hc
      · exact ⟨h1, h2⟩
end Go.Proofs.Ytdhfblcheoahaaa
