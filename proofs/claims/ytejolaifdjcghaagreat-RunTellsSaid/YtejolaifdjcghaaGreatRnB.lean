/- Ahead of stage 7: a bent run's two lines tell the least of all copies (IsLst, IsRch over allL), as a sagging one's kept copies do. -/
import Derived.Test.YtejolaifdjcghaaGreatRnK
import Derived.Test.YtejolaifdjcghaaGreatBnM
namespace Go.Proofs.YtejolaifdjcghaaGreat
open Go.RowKit Go.Shelf W
set_option linter.unusedVariables false
theorem stp_cut {y c : Int} (hc : 0 ≤ c) : stp (min y 4611686018427387904 + c) = stp (y + c) := by
  have h1 := stp_or (min y 4611686018427387904 + c); have h2 := stp_or (y + c)
  omega
theorem hv_cpy {F L R t : Int} {X Y : Nat → Int} {n k : Nat} (hL : 0 ≤ L) (hF : 0 ≤ F) (hR : 0 ≤ R) (hk : k < n) (ht : xS X n ≤ t) : stp (hv F L R (cpy X Y k) t) = stp (Y k + cW F L R (xS X n + (t - xS X n) - xS X (k + 1))) := by
  have hx := xS_le X (show k + 1 ≤ n by omega)
  have := cW_nn hF hR hL (show 0 ≤ t - xS X (k + 1) by omega)
  unfold hv cpy
  rw [stp_cut this, show xS X n + (t - xS X n) - xS X (k + 1) = t - xS X (k + 1) by omega]
/-- What two lines have is what the least copy has. -/
theorem gA_lst {F L R t : Int} {X Y : Nat → Int} {n : Nat} (hL : 0 ≤ L) (hR : 0 ≤ R) (hRF : R < F) (hY : ∀ k, 0 ≤ Y k) (hn : 0 < n) (ht : xS X n ≤ t) {v : Int} (hv' : IsLst (fun c => hv F L R c t) (allL X Y n) v) :
    gA (hS F 0 X Y n) F (hS R ((F - R) * L) X Y n) R (t - xS X n) = stp v := by
  obtain ⟨h1, c, hc, e⟩ := hv'
  dsimp only at h1 e
  obtain ⟨k, hk, rfl⟩ := allL_mem hc
  have a1 := run_le (X := X) (Y := Y) (d := t - xS X n) hL hR hRF hY (by omega) hk
  rw [← hv_cpy hL (by omega) hR hk ht, e] at a1
  obtain ⟨j, hj, a2⟩ := run_ex (X := X) (Y := Y) (n := n) (d := t - xS X n) hL hR hRF hY (by omega) hn
  rw [← hv_cpy hL (by omega) hR hj ht] at a2
  have a3 := stp_mono (h1 _ (mem_allL hj))
  omega
/-- All copies have it just if the two lines have. -/
theorem gA_all {F L R t y : Int} {X Y : Nat → Int} {n : Nat} (hL : 0 ≤ L) (hR : 0 ≤ R) (hRF : R < F) (hY : ∀ k, 0 ≤ Y k) (hn : 0 < n) (ht : xS X n ≤ t) :
    (∀ c ∈ allL X Y n, y ≤ stp (hv F L R c t)) ↔ y ≤ gA (hS F 0 X Y n) F (hS R ((F - R) * L) X Y n) R (t - xS X n) := by
  constructor
  · intro h
    obtain ⟨j, hj, a2⟩ := run_ex (X := X) (Y := Y) (n := n) (d := t - xS X n) hL hR hRF hY (by omega) hn
    rw [← hv_cpy hL (by omega) hR hj ht] at a2
    rw [a2]
    exact h _ (mem_allL hj)
  · intro h c hc
    obtain ⟨k, hk, rfl⟩ := allL_mem hc
    have a1 := run_le (X := X) (Y := Y) (d := t - xS X n) hL hR hRF hY (by omega) hk
    rw [← hv_cpy hL (by omega) hR hk ht] at a1
    omega
/-- When the two lines reach it, all copies do. -/
theorem gA_rch {F L R x y m : Int} {X Y : Nat → Int} {n : Nat} (hL : 0 ≤ L) (hR : 0 ≤ R) (hRF : R < F) (hY : ∀ k, 0 ≤ Y k) (hn : 0 < n) (hx : xS X n = x)
    (h : (m = 9223372036854775808 ∧ (x = 9223372036854775808 ∨ gA (hS F 0 X Y n) F (hS R ((F - R) * L) X Y n) R (9223372036854775807 - x) < y)) ∨
      (x ≤ m ∧ m < 9223372036854775808 ∧ y ≤ gA (hS F 0 X Y n) F (hS R ((F - R) * L) X Y n) R (m - x) ∧ (m = x ∨ gA (hS F 0 X Y n) F (hS R ((F - R) * L) X Y n) R (m - 1 - x) < y))) :
    IsRch F L R y x (allL X Y n) m := by
  subst hx
  have hxn := xS_never X n
  have mono : ∀ d e : Int, d ≤ e → gA (hS F 0 X Y n) F (hS R ((F - R) * L) X Y n) R d ≤ gA (hS F 0 X Y n) F (hS R ((F - R) * L) X Y n) R e := fun d e h => gA_mono (by omega) hR h
  rcases h with ⟨rfl, h⟩ | ⟨h0, h1, h2, h3⟩
  · refine ⟨hxn, Int.le_refl _, fun t t0 t1 => ?_⟩
    rw [gA_all hL hR hRF hY hn t0]
    constructor
    · intro hy
      rcases h with h | h
      · omega
      · have := mono (t - xS X n) (9223372036854775807 - xS X n) (by omega)
        omega
    · intro hy
      omega
  · refine ⟨h0, by omega, fun t t0 t1 => ?_⟩
    rw [gA_all hL hR hRF hY hn t0]
    constructor
    · intro hy
      refine Classical.byContradiction fun hno => ?_
      rcases h3 with h3 | h3
      · omega
      · have := mono (t - xS X n) (m - 1 - xS X n) (by omega)
        omega
    · intro hy
      have := mono (m - xS X n) (t - xS X n) (by omega)
      omega
end Go.Proofs.YtejolaifdjcghaaGreat
