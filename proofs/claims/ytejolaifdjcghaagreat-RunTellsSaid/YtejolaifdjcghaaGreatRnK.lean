/- Ahead of stage 7, in plain numbers: runs of either kind told by their copies (IsRch, allL), and E by the shape that it has. -/
import Derived.Test.YtejolaifdjcghaaGreatSgR
namespace Go.Proofs.YtejolaifdjcghaaGreat
open Go.RowKit Go.Shelf W
set_option linter.unusedVariables false
/-- A sagging curve grows by at most Rest a tick. -/
theorem cW_rest {F L R d : Int} (h : F ≤ R) (k : Nat) : cW F L R (d + k) ≤ cW F L R d + R * k := by
  induction k with
  | zero => simp
  | succ k ih =>
    have e : d + ((k + 1 : Nat) : Int) = d + k + 1 := by omega
    rw [e, cW_succ]
    have e2 : R * ((k + 1 : Nat) : Int) = R * k + R := by rw [Int.natCast_add, Int.mul_add]; simp
    rw [e2]
    split <;> omega
/-- E has the curve's own shape, if it is bent, else that of its Rest. -/
def eF (F R : Int) : Int := if R < F then F else 0
def eL (F L R : Int) : Int := if R < F then L else 0
theorem eW_bent {F L R d : Int} (h : R < F) : cW (eF F R) (eL F L R) R d = cW F L R d := by unfold eF eL; rw [if_pos h, if_pos h]
theorem eW_sag {F L R d : Int} (h : F ≤ R) (hd : 0 ≤ d) : cW (eF F R) (eL F L R) R d = R * d := by
  unfold eF eL; rw [if_neg (by omega), if_neg (by omega), cW_straight hd]
/-- What is had at e behind x is at most what E has at s, and the curve's own from there on. -/
theorem run_key {F L R x s e : Int} (hL : 0 ≤ L) (hx : x ≤ s) (hs : s ≤ e) : cW F L R (e - x) ≤ cW (eF F R) (eL F L R) R (s - x) + cW F L R (e - s) := by
  rcases Int.lt_or_le R F with h | h
  · rw [eW_bent h]
    have := cW_bent (F := F) (L := L) (R := R) (s := s - x) (t := e - s) hL (by omega) (by omega) h
    rwa [show s - x + (e - s) = e - x by omega] at this
  · rw [eW_sag h (by omega)]
    have := cW_rest (F := F) (L := L) (R := R) (d := e - s) h (s - x).toNat
    rw [Int.toNat_of_nonneg (by omega), show e - s + (s - x) = e - x by omega] at this
    omega
/-- E is at least what the run has. -/
theorem run_e {F L R d : Int} (hL : 0 ≤ L) (hd : 0 ≤ d) : cW F L R d ≤ cW (eF F R) (eL F L R) R d := by
  have := run_key (F := F) (L := L) (R := R) (x := 0) (s := d) (e := d) hL hd (Int.le_refl _)
  rw [Int.sub_self, cW_zero hL, Int.sub_zero] at this
  omega
theorem allL_le {X Y : Nat → Int} {k n : Nat} (h : k ≤ n) {c : Int × Int} (hc : c ∈ allL X Y k) : c ∈ allL X Y n := by
  obtain ⟨j, hj, e⟩ := allL_mem hc
  unfold allL
  exact List.mem_map.2 ⟨j, List.mem_range.2 (by omega), e⟩
theorem allL_start {X Y : Nat → Int} {n : Nat} {c : Int × Int} (hc : c ∈ allL X Y n) : c.1 ≤ xS X n := by
  obtain ⟨j, hj, e⟩ := allL_mem hc
  subst e
  have := xS_le X (show j + 1 ≤ n by omega)
  exact this
/-- The stage's theorem: what becomes eligible behind s, by some of the copies, and is due by e, by all of them. -/
theorem kept_num {F L R : Int} {X Y : Nat → Int} {k n : Nat} {s e a b mE mT : Int} (hL : 0 ≤ L) (hF : 0 ≤ F) (hR : 0 ≤ R) (hk : k ≤ n) (hs : xS X k ≤ s) (hse : s ≤ e) (he : e < 4611686018427387904) (ha : 0 ≤ a) (hab : a < b)
    (hE : IsRch (eF F R) (eL F L R) R a (xS X k) (allL X Y k) mE) (hsE : s < mE) (hT : IsRch F L R b (xS X n) (allL X Y n) mT) (hTe : mT ≤ e) : b - a ≤ stp (cW F L R (e - s)) := by
  obtain ⟨E1, E2, E3⟩ := hE
  obtain ⟨T1, T2, T3⟩ := hT
  have h1 : ¬ ∀ c ∈ allL X Y k, a ≤ stp (hv (eF F R) (eL F L R) R c s) := fun h => by
    have := (E3 s hs (by omega)).1 h
    omega
  have h2 := (T3 e (by omega) (by omega)).2 hTe
  refine Classical.byContradiction fun hno => h1 fun c hc => ?_
  have h3 := h2 c (allL_le hk hc)
  have hx := allL_start hc
  have key := run_key (F := F) (L := L) (R := R) (x := c.1) (s := s) (e := e) hL (by omega) hse
  have o1 := stp_or (hv F L R c e)
  have o2 := stp_or (hv (eF F R) (eL F L R) R c s)
  have o3 := stp_or (cW F L R (e - s))
  have nn := cW_nn hF hR hL (show 0 ≤ e - s by omega)
  unfold hv at *
  omega
/-- What is reached by the run is reached by E, not later. -/
theorem due_num {F L R y x mE mT : Int} {A : List (Int × Int)} (hL : 0 ≤ L) (hA : ∀ c ∈ A, c.1 ≤ x) (hE : IsRch (eF F R) (eL F L R) R y x A mE) (hT : IsRch F L R y x A mT) : mE ≤ mT := by
  obtain ⟨E1, E2, E3⟩ := hE
  obtain ⟨T1, T2, T3⟩ := hT
  rcases Int.lt_or_le mT 9223372036854775808 with h | h
  · refine (E3 mT T1 h).1 fun c hc => ?_
    have h1 := (T3 mT T1 h).2 (Int.le_refl _) c hc
    have h2 := run_e (F := F) (L := L) (R := R) (d := mT - c.1) hL (by have := hA c hc; omega)
    have h3 := stp_mono (show hv F L R c mT ≤ hv (eF F R) (eL F L R) R c mT by unfold hv; omega)
    omega
  · omega
end Go.Proofs.YtejolaifdjcghaaGreat
