/- A run of a bent curve in plain numbers: what two lines tell of all copies. -/
import Derived.Test.YtejolaifdjcghaaGreatGF
namespace Go.Proofs.YtejolaifdjcghaaGreat
namespace W
set_option linter.unusedVariables false
/-- The last start behind so many copies. -/
def xS (X : Nat → Int) : Nat → Int
  | 0 => 0
  | k + 1 => max (min (X k) 9223372036854775808) (xS X k)
/-- The height of the line of slope s behind so many copies, each of which comes out o above its start. -/
def hS (s o : Int) (X Y : Nat → Int) : Nat → Int
  | 0 => 0
  | k + 1 => if k = 0 then stp (Y 0 + o) else min (stp (Y k + o)) (stp (hS s o X Y k + s * (xS X (k + 1) - xS X k)))
theorem xS_succ (X : Nat → Int) (k : Nat) : xS X (k + 1) = max (min (X k) 9223372036854775808) (xS X k) := rfl
theorem xS_step (X : Nat → Int) (k : Nat) : xS X k ≤ xS X (k + 1) ∧ min (X k) 9223372036854775808 ≤ xS X (k + 1) := by rw [xS_succ]; omega
theorem xS_mono (X : Nat → Int) {j : Nat} : ∀ d : Nat, xS X j ≤ xS X (j + d)
  | 0 => Int.le_refl _
  | d + 1 => Int.le_trans (xS_mono X d) (xS_step X (j + d)).1
theorem xS_le (X : Nat → Int) {j k : Nat} (h : j ≤ k) : xS X j ≤ xS X k := by
  have := xS_mono X (j := j) (k - j)
  rwa [show j + (k - j) = k by omega] at this
theorem xS_nn (X : Nat → Int) (k : Nat) : 0 ≤ xS X k := by
  have := xS_le X (Nat.zero_le k)
  exact this
theorem xS_never (X : Nat → Int) : ∀ k, xS X k ≤ 9223372036854775808
  | 0 => by show (0 : Int) ≤ _; omega
  | k + 1 => by have := xS_never X k; rw [xS_succ]; omega
theorem hS_one {s o : Int} {X Y : Nat → Int} : hS s o X Y 1 = stp (Y 0 + o) := rfl
theorem hS_succ {s o : Int} {X Y : Nat → Int} {k : Nat} (h : 0 < k) : hS s o X Y (k + 1) = min (stp (Y k + o)) (stp (hS s o X Y k + s * (xS X (k + 1) - xS X k))) := by
  show (if k = 0 then _ else _) = _
  rw [if_neg (by omega)]
theorem stp_plus {x y : Int} (hy : 0 ≤ y) : stp (stp x + y) = stp (x + y) := by
  have h1 := stp_or x; have h3 := stp_or (x + y); have h4 := stp_or (stp x + y)
  omega
theorem stp_min (x y : Int) : stp (min x y) = min (stp x) (stp y) := by
  have h1 := stp_or x; have h2 := stp_or y; have h3 := stp_or (min x y)
  omega
theorem hS_bounds {s o : Int} {X Y : Nat → Int} (hs : 0 ≤ s) (ho : 0 ≤ o) (hY : ∀ k, 0 ≤ Y k) : ∀ n, 0 ≤ hS s o X Y n ∧ hS s o X Y n ≤ 4611686018427387904
  | 0 => by show (0 : Int) ≤ 0 ∧ (0 : Int) ≤ _; omega
  | 1 => by
    rw [hS_one]
    have := hY 0
    exact ⟨stp_nn (by omega), stp_le _⟩
  | n + 2 => by
    rw [hS_succ (by omega)]
    have := hY (n + 1)
    have ih := hS_bounds (X := X) hs ho hY (n + 1)
    have hx := (xS_step X (n + 1)).1
    have hm := Int.mul_nonneg hs (show 0 ≤ xS X (n + 1 + 1) - xS X (n + 1) by omega)
    have h1 := stp_nn (show 0 ≤ Y (n + 1) + o by omega)
    have h2 := stp_nn (show 0 ≤ hS s o X Y (n + 1) + s * (xS X (n + 1 + 1) - xS X (n + 1)) by omega)
    have h3 := stp_le (Y (n + 1) + o)
    omega
/-- At most what each copy's own line has there. -/
theorem hS_le {s o : Int} {X Y : Nat → Int} (hs : 0 ≤ s) (ho : 0 ≤ o) (hY : ∀ k, 0 ≤ Y k) : ∀ n k, k < n → hS s o X Y n ≤ stp (Y k + o + s * (xS X n - xS X (k + 1)))
  | 0, k, h => by omega
  | 1, k, h => by
    obtain rfl : k = 0 := by omega
    rw [hS_one, Int.sub_self, Int.mul_zero, Int.add_zero]
    exact Int.le_refl _
  | n + 2, k, h => by
    rw [hS_succ (by omega)]
    rcases Nat.lt_or_ge k (n + 1) with hk | hk
    · have ih := hS_le (X := X) hs ho hY (n + 1) k hk
      have hx := (xS_step X (n + 1)).1
      have hm := Int.mul_nonneg hs (show 0 ≤ xS X (n + 1 + 1) - xS X (n + 1) by omega)
      have e : Y k + o + s * (xS X (n + 1) - xS X (k + 1)) + s * (xS X (n + 1 + 1) - xS X (n + 1)) = Y k + o + s * (xS X (n + 1 + 1) - xS X (k + 1)) := by
        rw [Int.add_assoc (Y k + o), ← Int.mul_add]; congr 2; omega
      have h2 := stp_mono (show hS s o X Y (n + 1) + s * (xS X (n + 1 + 1) - xS X (n + 1)) ≤ stp (Y k + o + s * (xS X (n + 1) - xS X (k + 1))) + s * (xS X (n + 1 + 1) - xS X (n + 1)) by omega)
      rw [stp_plus hm, e] at h2
      exact Int.le_trans (Int.min_le_right _ _) h2
    · obtain rfl : k = n + 1 := by omega
      rw [Int.sub_self, Int.mul_zero, Int.add_zero]
      exact Int.min_le_left _ _
/-- And just what the line of some copy has. -/
theorem hS_ex {s o : Int} {X Y : Nat → Int} (hs : 0 ≤ s) (ho : 0 ≤ o) (hY : ∀ k, 0 ≤ Y k) : ∀ n, 0 < n → ∃ k, k < n ∧ hS s o X Y n = stp (Y k + o + s * (xS X n - xS X (k + 1)))
  | 0, h => by omega
  | 1, h => ⟨0, by omega, by rw [hS_one, Int.sub_self, Int.mul_zero, Int.add_zero]⟩
  | n + 2, h => by
    rw [hS_succ (by omega)]
    obtain ⟨k, hk, e⟩ := hS_ex (X := X) hs ho hY (n + 1) (by omega)
    have hx := (xS_step X (n + 1)).1
    have hm := Int.mul_nonneg hs (show 0 ≤ xS X (n + 1 + 1) - xS X (n + 1) by omega)
    have e2 : Y k + o + s * (xS X (n + 1) - xS X (k + 1)) + s * (xS X (n + 1 + 1) - xS X (n + 1)) = Y k + o + s * (xS X (n + 1 + 1) - xS X (k + 1)) := by
      rw [Int.add_assoc (Y k + o), ← Int.mul_add]; congr 2; omega
    rw [e, stp_plus hm, e2]
    rcases Int.le_total (stp (Y (n + 1) + o)) (stp (Y k + o + s * (xS X (n + 1 + 1) - xS X (k + 1)))) with h1 | h1
    · exact ⟨n + 1, by omega, by rw [Int.min_eq_left h1, Int.sub_self, Int.mul_zero, Int.add_zero]⟩
    · exact ⟨k, by omega, by rw [Int.min_eq_right h1]⟩
/-- What two lines have d ticks behind the last start. -/
def gA (p F q R d : Int) : Int := min (stp (p + F * d)) (stp (q + R * d))
theorem cW_two {F L R t : Int} (hL : 0 ≤ L) (ht : 0 ≤ t) (h : R < F) : cW F L R t = min (F * t) ((F - R) * L + R * t) := by
  rcases cW_burst hL ht h with ⟨h1, h2⟩ | ⟨h1, h2⟩
  · rw [cW_lo (by omega)] at h2 ⊢
    omega
  · rw [h2]
    have h3 := Int.mul_le_mul_of_nonneg_left h1 (show 0 ≤ F - R by omega)
    have e : (F - R) * t = F * t - R * t := Int.sub_mul _ _ _
    omega
theorem run_le {F L R : Int} {X Y : Nat → Int} {n k : Nat} {d : Int} (hL : 0 ≤ L) (hR : 0 ≤ R) (hRF : R < F) (hY : ∀ k, 0 ≤ Y k) (hd : 0 ≤ d) (hk : k < n) :
    gA (hS F 0 X Y n) F (hS R ((F - R) * L) X Y n) R d ≤ stp (Y k + cW F L R (xS X n + d - xS X (k + 1))) := by
  have ho : 0 ≤ (F - R) * L := Int.mul_nonneg (by omega) hL
  have hx := xS_le X (show k + 1 ≤ n by omega)
  rw [cW_two hL (by omega) hRF]
  have a := hS_le (s := F) (o := 0) (X := X) (Y := Y) (by omega) (by omega) hY n k hk
  have b := hS_le (s := R) (o := (F - R) * L) (X := X) (Y := Y) hR ho hY n k hk
  have mF := Int.mul_nonneg (show 0 ≤ F by omega) hd
  have mR := Int.mul_nonneg hR hd
  have a2 := stp_mono (show hS F 0 X Y n + F * d ≤ stp (Y k + 0 + F * (xS X n - xS X (k + 1))) + F * d by omega)
  have b2 := stp_mono (show hS R ((F - R) * L) X Y n + R * d ≤ stp (Y k + (F - R) * L + R * (xS X n - xS X (k + 1))) + R * d by omega)
  rw [stp_plus mF] at a2
  rw [stp_plus mR] at b2
  have e1 : Y k + 0 + F * (xS X n - xS X (k + 1)) + F * d = Y k + F * (xS X n + d - xS X (k + 1)) := by
    rw [Int.add_zero, Int.add_assoc, ← Int.mul_add]; congr 2; omega
  have e2 : Y k + (F - R) * L + R * (xS X n - xS X (k + 1)) + R * d = Y k + ((F - R) * L + R * (xS X n + d - xS X (k + 1))) := by
    rw [Int.add_assoc (Y k + (F - R) * L), ← Int.mul_add, Int.add_assoc]; congr 3; omega
  rw [e1] at a2
  rw [e2] at b2
  have e3 : Y k + min (F * (xS X n + d - xS X (k + 1))) ((F - R) * L + R * (xS X n + d - xS X (k + 1))) = min (Y k + F * (xS X n + d - xS X (k + 1))) (Y k + ((F - R) * L + R * (xS X n + d - xS X (k + 1)))) := by omega
  rw [e3, stp_min]
  unfold gA
  omega
theorem run_ex {F L R : Int} {X Y : Nat → Int} {n : Nat} {d : Int} (hL : 0 ≤ L) (hR : 0 ≤ R) (hRF : R < F) (hY : ∀ k, 0 ≤ Y k) (hd : 0 ≤ d) (hn : 0 < n) :
    ∃ k, k < n ∧ gA (hS F 0 X Y n) F (hS R ((F - R) * L) X Y n) R d = stp (Y k + cW F L R (xS X n + d - xS X (k + 1))) := by
  have ho : 0 ≤ (F - R) * L := Int.mul_nonneg (by omega) hL
  have mF := Int.mul_nonneg (show 0 ≤ F by omega) hd
  have mR := Int.mul_nonneg hR hd
  obtain ⟨i, hi, ei⟩ := hS_ex (s := F) (o := 0) (X := X) (Y := Y) (by omega) (by omega) hY n hn
  obtain ⟨j, hj, ej⟩ := hS_ex (s := R) (o := (F - R) * L) (X := X) (Y := Y) hR ho hY n hn
  have li := run_le (X := X) (Y := Y) hL hR hRF hY hd hi
  have lj := run_le (X := X) (Y := Y) hL hR hRF hY hd hj
  have xi := xS_le X (show i + 1 ≤ n by omega)
  have xj := xS_le X (show j + 1 ≤ n by omega)
  have e1 : Y i + 0 + F * (xS X n - xS X (i + 1)) + F * d = Y i + F * (xS X n + d - xS X (i + 1)) := by
    rw [Int.add_zero, Int.add_assoc, ← Int.mul_add]; congr 2; omega
  have e2 : Y j + (F - R) * L + R * (xS X n - xS X (j + 1)) + R * d = Y j + ((F - R) * L + R * (xS X n + d - xS X (j + 1))) := by
    rw [Int.add_assoc (Y j + (F - R) * L), ← Int.mul_add, Int.add_assoc]; congr 3; omega
  have si := stp_mono (show Y i + cW F L R (xS X n + d - xS X (i + 1)) ≤ Y i + F * (xS X n + d - xS X (i + 1)) by rw [cW_two hL (by omega) hRF]; omega)
  have sj := stp_mono (show Y j + cW F L R (xS X n + d - xS X (j + 1)) ≤ Y j + ((F - R) * L + R * (xS X n + d - xS X (j + 1))) by rw [cW_two hL (by omega) hRF]; omega)
  have gi : stp (hS F 0 X Y n + F * d) = stp (Y i + F * (xS X n + d - xS X (i + 1))) := by rw [ei, stp_plus mF, e1]
  have gj : stp (hS R ((F - R) * L) X Y n + R * d) = stp (Y j + ((F - R) * L + R * (xS X n + d - xS X (j + 1)))) := by rw [ej, stp_plus mR, e2]
  rcases Int.le_total (stp (hS F 0 X Y n + F * d)) (stp (hS R ((F - R) * L) X Y n + R * d)) with h | h
  · refine ⟨i, hi, ?_⟩
    have : gA (hS F 0 X Y n) F (hS R ((F - R) * L) X Y n) R d = stp (hS F 0 X Y n + F * d) := by unfold gA; exact Int.min_eq_left h
    omega
  · refine ⟨j, hj, ?_⟩
    have : gA (hS F 0 X Y n) F (hS R ((F - R) * L) X Y n) R d = stp (hS R ((F - R) * L) X Y n + R * d) := by unfold gA; exact Int.min_eq_right h
    omega
theorem gA_le (p F q R d : Int) : gA p F q R d ≤ 4611686018427387904 := by
  unfold gA; have := stp_le (p + F * d); omega
theorem gA_nn {p F q R d : Int} (hp : 0 ≤ p) (hF : 0 ≤ F) (hq : 0 ≤ q) (hR : 0 ≤ R) (hd : 0 ≤ d) : 0 ≤ gA p F q R d := by
  have mF := Int.mul_nonneg hF hd
  have mR := Int.mul_nonneg hR hd
  have h1 := stp_nn (show 0 ≤ p + F * d by omega)
  have h2 := stp_nn (show 0 ≤ q + R * d by omega)
  unfold gA; omega
theorem gA_mono {p F q R d e : Int} (hF : 0 ≤ F) (hR : 0 ≤ R) (h : d ≤ e) : gA p F q R d ≤ gA p F q R e := by
  have mF := Int.mul_le_mul_of_nonneg_left h hF
  have mR := Int.mul_le_mul_of_nonneg_left h hR
  have h1 := stp_mono (show p + F * d ≤ p + F * e by omega)
  have h2 := stp_mono (show q + R * d ≤ q + R * e by omega)
  unfold gA; omega
theorem gA_mono2 {p F q R p' q' d : Int} (h1 : p ≤ p') (h2 : q ≤ q') : gA p F q R d ≤ gA p' F q' R d := by
  have h1 := stp_mono (show p + F * d ≤ p' + F * d by omega)
  have h2 := stp_mono (show q + R * d ≤ q' + R * d by omega)
  unfold gA; omega
/-- That the ticks stop at Cap takes nothing away. -/
theorem gA_stp {p F q R d : Int} (hp : 0 ≤ p) (hF : 0 ≤ F) (hq : 0 ≤ q) (hR : 0 ≤ R) (hd : 0 ≤ d) : gA p F q R (stp d) = gA p F q R d := by
  have key : ∀ h s : Int, 0 ≤ h → 0 ≤ s → stp (h + s * stp d) = stp (h + s * d) := fun h s hh hs => by
    have m1 := Int.mul_nonneg hs hd
    have m2 := Int.mul_nonneg hs (stp_nn hd)
    have e := stp_mulr hs hd
    rw [Int.add_comm h, Int.add_comm h, ← stp_plus (x := s * stp d) hh, e, stp_plus hh]
  unfold gA
  rw [key p F hp hF, key q R hq hR]
theorem rP_line {h s m : Int} (hs : 0 ≤ s) (hm : 0 ≤ m) (hh : 0 ≤ h) : rP h (cAt 0 0 s m) = stp (h + s * m) := by
  unfold rP cAt
  rw [cW_straight hm, Int.add_comm h, Int.add_comm h, stp_plus hh]
theorem rM_stp {t x : Int} (h : x ≤ t) : rM t x = stp (t - x) := by unfold rM; rw [if_neg (by omega)]
theorem rM_zero {t x : Int} (h : t ≤ x) : rM t x = 0 := by
  unfold rM; split
  · rfl
  · rw [show t - x = 0 by omega]; rfl
end W
end Go.Proofs.YtejolaifdjcghaaGreat
