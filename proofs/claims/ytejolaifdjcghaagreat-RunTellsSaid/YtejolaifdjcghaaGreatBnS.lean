/- A copy starts; the run behind all starts of a slice. -/
import Derived.Test.YtejolaifdjcghaaGreatBnR
namespace Go.Proofs.YtejolaifdjcghaaGreat
open Go.RowKit Go.Shelf W
set_option linter.unusedVariables false
theorem i64_same (n : Int) (h : 0 ≤ n ∧ n < 9223372036854775808) : IntKind.i64.wrap n = n := by
  simp [IntKind.wrap, IntKind.signed, IntKind.bits]; omega
set_option maxHeartbeats 1000000 in
theorem rn_start (B : Nat) (f l r : Int) (X Y : Nat → Int) (n : Nat) (w : World) (hc : CvB f l r) (hYs : ∀ k, 0 ≤ Y k) (hn : n ≤ 1000) (hX : Word (X n)) (hY : Word (Y n)) (h : Rn w B f l r X Y n) :
    Calls Tryz.prog 78 #[.pointer (some ⟨B, 0, none⟩), eU (X n), eU (Y n)] w fun e w' => e = .returned (.tuple #[]) ∧ Rn w' B f l r X Y (n + 1) ∧ But B w w' := by
  obtain ⟨l0, o0, o1, r0, rf, f1⟩ := hc.over
  have ho : ((f - r) * l == 0) = false := by simp only [beq_eq_false_iff_ne]; omega
  have ow : Word ((f - r) * l) := ⟨by omega, by omega⟩
  have hP := fun w => rPlus'_any (Y n) ((f - r) * l) w hY ow
  unfold Rn at h ⊢
  obtain ⟨X0, X1⟩ := hX
  obtain ⟨Y0, Y1⟩ := hY
  rcases Nat.eq_zero_or_pos n with rfl | hn0
  · have e1 : xS X (0 + 1) = min (X 0) 9223372036854775808 := by rw [xS_succ]; show max _ (0 : Int) = _; omega
    have e2 : hS f 0 X Y (0 + 1) = min (Y 0) 4611686018427387904 := by
      show stp (Y 0 + 0) = _
      rw [Int.add_zero]; have := stp_or (Y 0); omega
    have e3 : hS r ((f - r) * l) X Y (0 + 1) = rP (Y 0) ((f - r) * l) := rfl
    rw [e1, e2, e3]
    exact bn_start_first B _ f _ r _ _ _ _ _ _ _ w h ho rfl rfl hP
  · have hs := xS_step X n
    have hx0 := xS_nn X n
    have hx1 := xS_never X (n + 1)
    obtain ⟨p0, p1⟩ := hS_bounds (s := f) (o := 0) (X := X) (Y := Y) (by omega) (by omega) hYs n
    obtain ⟨q0, q1⟩ := hS_bounds (s := r) (o := (f - r) * l) (X := X) (Y := Y) r0 (by omega) hYs n
    have hdw : Word (xS X (n + 1) - xS X n) := ⟨by omega, by omega⟩
    have hA := fun w => has_any (hS f 0 X Y n) f (xS X (n + 1) - xS X n) w ⟨p0, by omega⟩ hc.1 hdw
    have hB := fun w => has_any (hS r ((f - r) * l) X Y n) r (xS X (n + 1) - xS X n) w ⟨q0, by omega⟩ hc.2.2.1 hdw
    rw [rP_line (by omega) hdw.1 p0] at hA
    rw [rP_line r0 hdw.1 q0] at hB
    have e1 : max (min (X n) 9223372036854775808) (xS X n) = xS X (n + 1) := rfl
    have e2 : min (min (Y n) 4611686018427387904) (stp (hS f 0 X Y n + f * (xS X (n + 1) - xS X n))) = hS f 0 X Y (n + 1) := by
      rw [hS_succ hn0, Int.add_zero]; have := stp_or (Y n); omega
    have e3 : min (rP (Y n) ((f - r) * l)) (stp (hS r ((f - r) * l) X Y n + r * (xS X (n + 1) - xS X n))) = hS r ((f - r) * l) X Y (n + 1) := by
      rw [hS_succ hn0]; rfl
    have ek : IntKind.i64.wrap ((n : Int) + 1) = (n : Int) + 1 := i64_same _ ⟨by omega, by omega⟩
    have en : ((n + 1 : Nat) : Int) = (n : Int) + 1 := by omega
    rw [en]
    exact bn_start_more B _ f _ r _ _ _ _ _ _ _ _ _ _ _ _ _ _ w h ho (by omega) ek rfl rfl e1 (u64_same _ ⟨by omega, by omega⟩) e2 e3 hP hA hB
/-- A run that was just made. -/
theorem rn_new {w : World} {B : Nat} {f l r : Int} (X Y : Nat → Int) (h : Bn w B 0 f 0 r ((f - r) * l) 0 0) : Rn w B f l r X Y 0 := h
end Go.Proofs.YtejolaifdjcghaaGreat
