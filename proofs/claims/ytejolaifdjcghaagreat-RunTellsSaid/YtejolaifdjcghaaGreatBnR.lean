/- A run behind so many starts: what its calls tell, by the starts. -/
import Derived.Test.YtejolaifdjcghaaGreatBnN
import Derived.Test.YtejolaifdjcghaaGreatBnM
namespace Go.Proofs.YtejolaifdjcghaaGreat
open Go.RowKit Go.Shelf W
set_option linter.unusedVariables false
namespace W
/-- What two lines have at a tick, told from the last start x on. -/
def rA (p F q R x t : Int) : Int := gA p F q R (max t x - x)
/-- When a run of two lines has y. -/
def IsRR (p F q R x y r : Int) : Prop :=
  (r = 9223372036854775808 ∧ (x = 9223372036854775808 ∨ gA p F q R (9223372036854775807 - x) < y)) ∨
  (x ≤ r ∧ r < 9223372036854775808 ∧ y ≤ gA p F q R (r - x) ∧ (r = x ∨ gA p F q R (r - 1 - x) < y))
theorem reach_line {p s y a d : Int} (hp : 0 ≤ p) (hs : 0 ≤ s) (hy : y ≤ 4611686018427387904) (ha : IsReach 0 0 s (rM y p) a) (d0 : 0 ≤ d) (d1 : d < 9223372036854775808) : y ≤ stp (p + s * d) ↔ a ≤ d := by
  have m0 := Int.mul_nonneg hs d0
  have hz : rM y p ≤ stp (s * d) ↔ y ≤ stp (p + s * d) := by
    have h1 := stp_or (p + s * d); have h2 := stp_or (s * d)
    unfold rM
    split
    · have := stp_nn m0; omega
    · have h3 := stp_or (y - p); omega
  rw [← hz, show stp (s * d) = cAt 0 0 s d from by unfold cAt; rw [cW_straight d0]]
  rcases ha with ⟨rfl, h⟩ | ⟨a0, a1, a2, a3⟩
  · have := cAt_mono (F := 0) (L := 0) (by omega) hs d0 (show d ≤ 9223372036854775807 by omega)
    omega
  · constructor
    · intro h
      rcases Int.lt_or_le d a with hl | hl
      · rcases a3 with a3 | a3
        · omega
        · have := cAt_mono (F := 0) (L := 0) (by omega) hs d0 (show d ≤ a - 1 by omega); omega
      · exact hl
    · intro h
      have := cAt_mono (F := 0) (L := 0) (by omega) hs a0 h; omega
theorem IsReach.range {F L R y a : Int} (h : IsReach F L R y a) : 0 ≤ a ∧ a ≤ 9223372036854775808 := by
  rcases h with ⟨rfl, _⟩ | ⟨h1, h2, _⟩ <;> omega
theorem run_reach {p F q R x y a b : Int} (hp : 0 ≤ p) (hq : 0 ≤ q) (hF : 0 ≤ F) (hR : 0 ≤ R) (x0 : 0 ≤ x) (x1 : x ≤ 9223372036854775808) (hy : y ≤ 4611686018427387904)
    (ha : IsReach 0 0 F (rM y p) a) (hb : IsReach 0 0 R (rM y q) b) : IsRR p F q R x y (x + min (max a b) (9223372036854775808 - x)) := by
  have ra := ha.range
  have rb := hb.range
  have key : ∀ d, 0 ≤ d → d < 9223372036854775808 → (y ≤ gA p F q R d ↔ max a b ≤ d) := fun d d0 d1 => by
    have h1 := reach_line hp hF hy ha d0 d1
    have h2 := reach_line hq hR hy hb d0 d1
    unfold gA
    omega
  unfold IsRR
  rcases Int.lt_or_le (max a b) (9223372036854775808 - x) with h | h
  · right
    rw [Int.min_eq_left (by omega)]
    have e : x + max a b - x = max a b := by omega
    refine ⟨by omega, by omega, by rw [e]; exact (key _ (by omega) (by omega)).2 (Int.le_refl _), ?_⟩
    rcases Int.lt_or_le 0 (max a b) with h0 | h0
    · right
      have e2 : x + max a b - 1 - x = max a b - 1 := by omega
      rw [e2]
      have := key (max a b - 1) (by omega) (by omega)
      omega
    · left; omega
  · left
    rw [Int.min_eq_right h]
    refine ⟨by omega, ?_⟩
    rcases Int.lt_or_le x 9223372036854775808 with h0 | h0
    · right
      have := key (9223372036854775807 - x) (by omega) (by omega)
      omega
    · left; omega
theorem IsRR.unique {p F q R x y r r' : Int} (hF : 0 ≤ F) (hR : 0 ≤ R) (h : IsRR p F q R x y r) (h' : IsRR p F q R x y r') : r = r' := by
  unfold IsRR at h h'
  rcases h with ⟨rfl, h1⟩ | ⟨a1, a2, a3, a4⟩
  · rcases h' with ⟨rfl, _⟩ | ⟨b1, b2, b3, b4⟩
    · rfl
    · have := gA_mono (p := p) (F := F) (q := q) (R := R) hF hR (show r' - x ≤ 9223372036854775807 - x by omega); omega
  · rcases h' with ⟨rfl, h1⟩ | ⟨b1, b2, b3, b4⟩
    · have := gA_mono (p := p) (F := F) (q := q) (R := R) hF hR (show r - x ≤ 9223372036854775807 - x by omega); omega
    · rcases Int.lt_trichotomy r r' with h | h | h
      · have := gA_mono (p := p) (F := F) (q := q) (R := R) hF hR (show r - x ≤ r' - 1 - x by omega); omega
      · exact h
      · have := gA_mono (p := p) (F := F) (q := q) (R := R) hF hR (show r' - x ≤ r - 1 - x by omega); omega
theorem run_far {p F q R x y : Int} (hy : 4611686018427387904 < y) : IsRR p F q R x y 9223372036854775808 := by
  left
  refine ⟨rfl, .inr ?_⟩
  have := gA_le p F q R (9223372036854775807 - x)
  omega
end W
/-- Block B holds a run of a curve behind n starts. -/
def Rn (w : World) (B : Nat) (f l r : Int) (X Y : Nat → Int) (n : Nat) : Prop := Bn w B (hS f 0 X Y n) f (hS r ((f - r) * l) X Y n) r ((f - r) * l) (xS X n) n
theorem Rn.below {W w : World} {B : Nat} {f l r : Int} {X Y : Nat → Int} {n : Nat} (h : Rn W B f l r X Y n) (hb : Below W.heap.size W w) : Rn w B f l r X Y n := Bn.below h hb
theorem Rn.but {W w : World} {B B' : Nat} {f l r : Int} {X Y : Nat → Int} {n : Nat} (h : Rn W B' f l r X Y n) (hb : But B W w) (hne : B' ≠ B) : Rn w B' f l r X Y n := hb.box h hne
theorem CvB.over {f l r : Int} (h : CvB f l r) : 0 < l ∧ 0 < (f - r) * l ∧ (f - r) * l ≤ 1152921504606846976 ∧ 0 ≤ r ∧ r < f ∧ f ≤ 1048576 := by
  obtain ⟨hf, hl, hr, ⟨m1, m2, m3, m4⟩, hrf⟩ := h
  unfold Word at hf hl hr
  have l0 : 0 < l := by omega
  refine ⟨l0, Int.mul_pos (by omega) l0, ?_, hr.1, hrf, m1⟩
  have := mul_le (show f - r ≤ 1048576 by omega) m3 hl.1 (by omega)
  omega
theorem u64_same (n : Int) (h : 0 ≤ n ∧ n < 18446744073709551616) : IntKind.u64.wrap n = n := by
  simp [IntKind.wrap, IntKind.signed, IntKind.bits]; omega
theorem nat_zero {n : Nat} (h : 0 < n) : (((n : Int)) == 0) = false := by simp; omega
set_option maxHeartbeats 1000000 in
theorem rn_at (B : Nat) (f l r t : Int) (X Y : Nat → Int) (n : Nat) (w : World) (hc : CvB f l r) (hY : ∀ k, 0 ≤ Y k) (hn : 0 < n) (ht : Word t) (h : Rn w B f l r X Y n) :
    Calls Tryz.prog 75 #[.pointer (some ⟨B, 0, none⟩), eU t] w fun e w' => e = .returned (eU (rA (hS f 0 X Y n) f (hS r ((f - r) * l) X Y n) r (xS X n) t)) ∧ Below w.heap.size w w' := by
  obtain ⟨l0, o0, o1, r0, rf, f1⟩ := hc.over
  have hx0 := xS_nn X n
  have hx1 := xS_never X n
  obtain ⟨p0, p1⟩ := hS_bounds (s := f) (o := 0) (X := X) (Y := Y) (by omega) (by omega) hY n
  obtain ⟨q0, q1⟩ := hS_bounds (s := r) (o := (f - r) * l) (X := X) (Y := Y) r0 (by omega) hY n
  unfold rA
  have hm0 : 0 ≤ rM t (xS X n) := rM_nn
  have hm1 : rM t (xS X n) ≤ 4611686018427387904 := rM_le
  have hMw : Word (rM t (xS X n)) := ⟨hm0, by omega⟩
  have fw : Word f := hc.1
  have rw' : Word r := hc.2.2.1
  unfold Rn at h
  have e : gA (hS f 0 X Y n) f (hS r ((f - r) * l) X Y n) r (max t (xS X n) - xS X n) = min (rP (hS f 0 X Y n) (cAt 0 0 f (rM t (xS X n)))) (rP (hS r ((f - r) * l) X Y n) (cAt 0 0 r (rM t (xS X n)))) := by
    rw [rP_line (by omega) hm0 p0, rP_line r0 hm0 q0]
    show _ = gA (hS f 0 X Y n) f (hS r ((f - r) * l) X Y n) r (rM t (xS X n))
    rcases Int.lt_or_le t (xS X n) with hlt | hle
    · rw [rM_zero (by omega), show max t (xS X n) - xS X n = 0 by omega]
    · rw [rM_stp hle, gA_stp p0 (by omega) q0 r0 (by omega), show max t (xS X n) = t by omega]
  rw [e]
  exact bn_at_of B _ f _ r _ _ _ t _ _ w h (nat_zero hn) (fun w => rMinus'_any t (xS X n) w ht ⟨hx0, by omega⟩)
    (fun w => lesser_of _ _ _ _ _ w (fun w => has_any _ f _ w ⟨p0, by omega⟩ fw hMw) (fun w => has_any _ r _ w ⟨q0, by omega⟩ rw' hMw))
set_option maxHeartbeats 1000000 in
theorem rn_reach (f l r y : Int) (X Y : Nat → Int) (n : Nat) (hc : CvB f l r) (hY : ∀ k, 0 ≤ Y k) (hn : 0 < n) (hy : Word y) :
    ∃ v, Word v ∧ IsRR (hS f 0 X Y n) f (hS r ((f - r) * l) X Y n) r (xS X n) y v ∧ ∀ B w, Rn w B f l r X Y n → Calls Tryz.prog 77 #[.pointer (some ⟨B, 0, none⟩), eU y] w fun e w' => e = .returned (eU v) ∧ Below w.heap.size w w' := by
  obtain ⟨l0, o0, o1, r0, rf, f1⟩ := hc.over
  have hx0 := xS_nn X n
  have hx1 := xS_never X n
  obtain ⟨p0, p1⟩ := hS_bounds (s := f) (o := 0) (X := X) (Y := Y) (by omega) (by omega) hY n
  obtain ⟨q0, q1⟩ := hS_bounds (s := r) (o := (f - r) * l) (X := X) (Y := Y) r0 (by omega) hY n
  have fw : Word f := hc.1
  have rw' : Word r := hc.2.2.1
  have z : Word 0 := ⟨by omega, by omega⟩
  by_cases hC : 4611686018427387904 < y
  · refine ⟨9223372036854775808, ⟨by omega, by omega⟩, run_far hC, fun B w h => ?_⟩
    refine (bn_reach_far B _ f _ r _ _ _ y w h (nat_zero hn) hC).mono ?_
    rintro e w' ⟨rfl, rfl⟩
    exact ⟨rfl, Below.refl _ _⟩
  · obtain ⟨a, ha⟩ := reach_ex 0 0 f (rM y (hS f 0 X Y n)) z z fw
    obtain ⟨b, hb⟩ := reach_ex 0 0 r (rM y (hS r ((f - r) * l) X Y n)) z z rw'
    have ra := ha.range
    have rb := hb.range
    have mF : cMay 0 0 f := by unfold cMay; omega
    have mR : cMay 0 0 r := by unfold cMay; omega
    refine ⟨_, ?_, run_reach p0 q0 (by omega) r0 hx0 hx1 (by omega) ha hb, fun B w h => ?_⟩
    · unfold Word; omega
    · refine bn_reach_of B _ f _ r _ _ _ y a b (max a b) (9223372036854775808 - xS X n) (min (max a b) (9223372036854775808 - xS X n)) (xS X n + min (max a b) (9223372036854775808 - xS X n)) w h (nat_zero hn) hC rfl ?_ rfl ?_ (fun w => within_of _ f y _ a w (fun w => rMinus'_any y _ w hy ⟨p0, by omega⟩) (fun w => Reach_is 0 0 f _ a w z z fw ?_ mF ha)) (fun w => within_of _ r y _ b w (fun w => rMinus'_any y _ w hy ⟨q0, by omega⟩) (fun w => Reach_is 0 0 r _ b w z z rw' ?_ mR hb))
      · exact u64_same _ ⟨by omega, by omega⟩
      · exact u64_same _ ⟨by omega, by omega⟩
      · have : 0 ≤ rM y (hS f 0 X Y n) := rM_nn
        have : rM y (hS f 0 X Y n) ≤ 4611686018427387904 := rM_le
        exact ⟨by omega, by omega⟩
      · have : 0 ≤ rM y (hS r ((f - r) * l) X Y n) := rM_nn
        have : rM y (hS r ((f - r) * l) X Y n) ≤ 4611686018427387904 := rM_le
        exact ⟨by omega, by omega⟩
end Go.Proofs.YtejolaifdjcghaaGreat
