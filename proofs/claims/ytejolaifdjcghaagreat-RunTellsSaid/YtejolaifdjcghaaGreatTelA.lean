/- A run and the document's, behind the same starts, tell the same. -/
import Derived.Test.YtejolaifdjcghaaGreatSamX
import Derived.Test.YtejolaifdjcghaaGreatAcs
namespace Go.Proofs.YtejolaifdjcghaaGreat
open Go.RowKit Go.Shelf W
set_option linter.unusedVariables false
set_option maxRecDepth 100000
namespace W
theorem eF_word {F R : Int} (h : Word F) : Word (eF F R) := by unfold eF; split; exact h; exact ⟨by omega, by omega⟩
theorem eL_word {F L R : Int} (h : Word L) : Word (eL F L R) := by unfold eL; split; exact h; exact ⟨by omega, by omega⟩
end W
/-- All of a run lies at m or behind. -/
def RuB (w : World) (m B : Nat) (f l r : Int) (X Y : Nat → Int) (n : Nat) : Prop := ∃ S, (∀ k, S k → m ≤ k ∧ k < w.heap.size) ∧ Ru w S B f l r X Y n
def RdB (w : World) (m B : Nat) (f l r : Int) (X Y : Nat → Int) (n : Nat) : Prop := m ≤ B ∧ ∃ vX vY, Rd w m B f l r X Y n vX vY
section
variable {w W : World} {m m' B Bb Br n : Nat} {f l r : Int} {X Y : Nat → Int}
theorem RuB.below (h : RuB W m B f l r X Y n) (hb : Below W.heap.size W w) : RuB w m B f l r X Y n := by
  obtain ⟨S, h1, h2⟩ := h
  have := hb.size
  exact ⟨S, fun k hk => by have := h1 k hk; omega, h2.below hb⟩
theorem RuB.drew (h : RuB W m B f l r X Y n) : RuB W.drew m B f l r X Y n := h.below (Below.refl _ _).drew
theorem RdB.below (h : RdB W m B f l r X Y n) (hb : Below W.heap.size W w) : RdB w m B f l r X Y n := by
  obtain ⟨h0, vX, vY, h⟩ := h
  exact ⟨h0, vX, vY, h.below hb⟩
theorem RdB.drew (h : RdB W m B f l r X Y n) : RdB W.drew m B f l r X Y n := h.below (Below.refl _ _).drew
theorem RuB.keep (h : RuB W m B f l r X Y n) (hs : W.heap.size ≤ w.heap.size) (hk : ∀ k u t, Box W k u t → t ≠ 22 → t ≠ 63 → t ≠ 54 → Box w k u t) : RuB w m B f l r X Y n := by
  obtain ⟨S, h1, h2⟩ := h
  exact ⟨S, fun k hk => by have := h1 k hk; omega, h2.keep fun k u t b ht => hk k u t b (by rcases ht with rfl | rfl | rfl | rfl <;> decide) (by rcases ht with rfl | rfl | rfl | rfl <;> decide) (by rcases ht with rfl | rfl | rfl | rfl <;> decide)⟩
section
variable (hc : CvR f l r) (hY : ∀ k, 0 ≤ Y k)
include hc hY
theorem same_any (m m' Bb Br n : Nat) (ax ay T N : Int) (w : World) (hn2 : n ≤ 800) (hT : Word T) (hN : Word N) (hR : RuB w m Bb f l r X Y n) (hD : RdB w m' Br f l r X Y n) :
    Calls Tryz.prog 7 #[.pointer (some ⟨Bb, 0, none⟩), .pointer (some ⟨Br, 0, none⟩), .agg #[eU ax, eU ay, eU T, eU N]] w fun e w' => e = .returned (.bool true) ∧ Below w.heap.size w w' := by
  obtain ⟨hf, hl, hr, hm⟩ := id hc
  obtain ⟨hf1, hr1, hl1, _⟩ := id hm
  obtain ⟨S, _, hR⟩ := hR
  obtain ⟨_, vX, vY, hD⟩ := hD
  have z0 : Word 0 := ⟨by omega, by omega⟩
  have hC := fun w' (E : Below w.heap.size w w') => rd_copies w' (hD.below E)
  have hcell : ∀ w', Below w.heap.size w w' → w'.cell? ⟨Br, 0, none⟩ = some (.int .u64 f) ∧ w'.cell? ⟨Br, 1, none⟩ = some (.int .u64 l) ∧ w'.cell? ⟨Br, 2, none⟩ = some (.int .u64 r) := fun w' E => by
    obtain ⟨a, b, c, _, _⟩ := (hD.below E).cells
    exact ⟨a, b, c⟩
  rcases Nat.eq_zero_or_pos n with rfl | hn
  · have hAt : ∀ (q : Int) (w' : World), Below w.heap.size w w' → Calls Tryz.prog 20 #[.pointer (some ⟨Br, 0, none⟩), eU q] w' fun e w'' => e = .returned (eU 0) ∧ Below w'.heap.size w' w'' := fun q w' E =>
      d_at_of q 0 w' (hC w' E) fun B' w' h => by obtain ⟨a', cap', c3'⟩ := h.len; exact c_at_nil B' q a' cap' w' c3'
    have hRe : ∀ (q : Int) (w' : World), Below w.heap.size w w' → Calls Tryz.prog 22 #[.pointer (some ⟨Br, 0, none⟩), eU q] w' fun e w'' => e = .returned (eU (if q = 0 then 0 else 9223372036854775808)) ∧ Below w'.heap.size w' w'' := fun q w' E =>
      d_reach_of q _ w' (hC w' E) fun B' w' h => by obtain ⟨a', cap', c3'⟩ := h.len; exact c_reach_nil B' q a' cap' w' c3'
    exact same_of Bb Br f l r ax ay T N 0 false 0 0 (if N = 0 then 0 else 9223372036854775808) 0 (if N = 0 then 0 else 9223372036854775808) w
      (fun w' E => quietly (ru_last0 S Bb w' (hR.below E))) (fun w' E => d_last w' (by omega) (hD.below E)) (fun w' E => ru_curve S Bb 0 w' (hR.below E)) (fun w' E => quietly (ru_many S Bb 0 w' (hR.below E))) (fun w' E => rd_many w' (hD.below E))
      (fun w' E => ru_at0 S Bb T w' (hR.below E)) (hAt T) (fun w' E => ru_reach0 S Bb N w' (hR.below E)) (hRe N)
      (fun w' E => ru_ahead0 S Bb T w' (hR.below E)) (fun w' E => d_ahead_of T 0 w' (hD.below E) (fun w => bent'_any f l r w) (fun _ w'' E2 => hAt T w'' (up E E2 E.size)) (fun _ B' w' h => by obtain ⟨a', cap', c3'⟩ := h.len; exact c_at_nil B' T a' cap' w' c3'))
      (fun w' E => ru_eligible0 S Bb N w' (hR.below E)) (fun w' E => d_eligible_of N _ w' (hD.below E) (fun w => bent'_any f l r w) (fun _ w'' E2 => hRe N w'' (up E E2 E.size)) (fun _ B' w' h => by obtain ⟨a', cap', c3'⟩ := h.len; exact c_reach_nil B' N a' cap' w' c3'))
      hcell
  · have hx1 := xS_never X n
    have hlen : 0 < (allL X Y n).length := by simp [allL]; exact hn
    have hall := Go.Proofs.YtejolaifdjcghaaGreat.W.allL_le (X := X) (n := n) hY
    obtain ⟨A, hA⟩ := lst_ex (fun k => hv f l r k (max T (xS X n))) hlen
    obtain ⟨C, hC2⟩ := lst_ex (fun k => hv (eF f r) (eL f l r) r k (max T (xS X n))) hlen
    obtain ⟨v, hv1⟩ := rch_ex (F := f) (L := l) (R := r) (y := N) hf hl hr hx1 _ hlen hall
    obtain ⟨u, hu⟩ := rch_ex (F := eF f r) (L := eL f l r) (R := r) (y := N) (eF_word hf) (eL_word hl) hr hx1 _ hlen hall
    have hAt : ∀ (z : Int), IsLst (fun k => hv f l r k (max T (xS X n))) (allL X Y n) z → ∀ (w' : World), Below w.heap.size w w' → Calls Tryz.prog 20 #[.pointer (some ⟨Br, 0, none⟩), eU T] w' fun e w'' => e = .returned (eU (stp z)) ∧ Below w'.heap.size w' w'' := fun z hz w' E =>
      d_at_of T _ w' (hC w' E) fun B' w' h => rc_at ⟨hf.1, hf1⟩ hl ⟨hr.1, hr1⟩ hY m' B' n T z w' hT hn (by omega) hz h
    have hRe : ∀ (z : Int), IsRch f l r N (xS X n) (allL X Y n) z → ∀ (w' : World), Below w.heap.size w w' → Calls Tryz.prog 22 #[.pointer (some ⟨Br, 0, none⟩), eU N] w' fun e w'' => e = .returned (eU z) ∧ Below w'.heap.size w' w'' := fun z hz w' E =>
      d_reach_of N _ w' (hC w' E) fun B' w' h => rc_reach ⟨hf.1, hf1⟩ hl ⟨hr.1, hr1⟩ hY m' B' n N z w' hn (by omega) hz h
    have hla : ∀ w', Below w.heap.size w w' → Calls Tryz.prog 15 #[.pointer (some ⟨Br, 0, none⟩)] w' fun e w'' => e = .returned (.tuple #[eU (xS X n), .bool true]) ∧ Below w'.heap.size w' w'' := fun w' E => by
      have := d_last w' (by omega) (hD.below E)
      rwa [show decide (0 < n) = true from decide_eq_true hn] at this
    exact same_of Bb Br f l r ax ay T N (xS X n) true n (stp A) v (stp C) u w
      (fun w' E => quietly (ru_last S Bb n w' hn (hR.below E))) hla (fun w' E => ru_curve S Bb n w' (hR.below E)) (fun w' E => quietly (ru_many S Bb n w' (hR.below E))) (fun w' E => rd_many w' (hD.below E))
      (fun w' E => ru_at hY S Bb n T A w' hn hn2 hT hA (hR.below E)) (hAt A hA) (fun w' E => ru_reach hY S Bb n N v w' hn hn2 hN hv1 (hR.below E)) (hRe v hv1)
      (fun w' E => ru_ahead hY S Bb n T C w' hn hn2 hT hC2 (hR.below E)) (fun w' E => d_ahead_of T _ w' (hD.below E) (fun w => bent'_any f l r w)
        (fun hb w'' E2 => by
          rw [eF_bent hb, eL_bent hb] at hC2
          exact hAt C hC2 w'' (up E E2 E.size))
        (fun hb B' w' h => by
          rw [eF_sag (by omega), eL_sag (by omega)] at hC2
          exact rc_at ⟨by omega, by omega⟩ z0 ⟨hr.1, hr1⟩ hY m' B' n T C w' hT hn (by omega) hC2 h))
      (fun w' E => ru_eligible hY S Bb n N u w' hn hn2 hN hu (hR.below E)) (fun w' E => d_eligible_of N _ w' (hD.below E) (fun w => bent'_any f l r w)
        (fun hb w'' E2 => by
          rw [eF_bent hb, eL_bent hb] at hu
          exact hRe u hu w'' (up E E2 E.size))
        (fun hb B' w' h => by
          rw [eF_sag (by omega), eL_sag (by omega)] at hu
          exact rc_reach ⟨by omega, by omega⟩ z0 ⟨hr.1, hr1⟩ hY m' B' n N u w' hn (by omega) hu h))
      hcell
omit hc in
theorem tel_start1 (m m' Bb Br n : Nat) (w : World) (hn2 : n ≤ 800) (hm : m ≤ w.heap.size) (hX : Word (X n)) (hYw : Word (Y n)) (hR : RuB w m Bb f l r X Y n) (hD : RdB w m' Br f l r X Y n) :
    Calls Tryz.prog 8 #[.pointer (some ⟨Bb, 0, none⟩), eU (X n), eU (Y n)] w fun e w' => e = .returned (.tuple #[]) ∧ RuB w' m Bb f l r X Y (n + 1) ∧ RdB w' m' Br f l r X Y n ∧ Below m w w' := by
  obtain ⟨S, h1, h2⟩ := hR
  obtain ⟨h0, vX, vY, hD⟩ := hD
  refine (ru_start2 hY w hn2 hX hYw h2).mono ?_
  rintro e w' ⟨e1, e2, e3, e4⟩
  have := e3.size
  exact ⟨e1, ⟨_, fun k hk => by rcases hk with hk | hk; have := h1 k hk; omega; omega, e2⟩, ⟨h0, vX, vY, hD.keep fun k u t b ht => e4 k u t b (by rcases ht with rfl | rfl <;> decide) (by rcases ht with rfl | rfl <;> decide) (by rcases ht with rfl | rfl <;> decide)⟩, e3.below (fun k _ hk => (h1 k hk).1) hm⟩
omit hc hY in
theorem tel_start2 (m m' Bb Br k n : Nat) (w : World) (hn2 : n ≤ 800) (hR : RuB w m Bb f l r X Y k) (hD : RdB w m' Br f l r X Y n) :
    Calls Tryz.prog 9 #[.pointer (some ⟨Br, 0, none⟩), eU (X n), eU (Y n)] w fun e w' => e = .returned (.tuple #[]) ∧ RuB w' m Bb f l r X Y k ∧ RdB w' m' Br f l r X Y (n + 1) ∧ Below m' w w' := by
  obtain ⟨h0, vX, vY, hD⟩ := hD
  refine (d_start w (by omega) h0 hD).mono ?_
  rintro e w' ⟨e1, ⟨uX, uY, e2⟩, e3, e4⟩
  exact ⟨e1, hR.keep e3.size e4, ⟨h0, uX, uY, e2⟩, e3⟩
omit hc hY in
theorem tel_copy (m Bb n : Nat) (w : World) (hn2 : n ≤ 800) (hR : RuB w m Bb f l r X Y n) :
    Calls Tryz.prog 6 #[.pointer (some ⟨Bb, 0, none⟩)] w fun e w' => (∃ P : Nat, e = .returned (.pointer (some ⟨P, 0, none⟩)) ∧ RuB w' w.heap.size P f l r X Y n) ∧ Below w.heap.size w w' := by
  obtain ⟨S, h1, h2⟩ := hR
  refine (ru_copy S Bb n w hn2 h2).mono ?_
  rintro e w' ⟨⟨P, e1, e2⟩, e3⟩
  exact ⟨⟨P, e1, _, fun _ h => h, e2⟩, e3⟩
end
/-- A copy, behind whatever starts. -/
def RuC (w : World) (m B : Nat) (f l r : Int) (n : Nat) : Prop := ∃ X Y : Nat → Int, (∀ k, 0 ≤ Y k) ∧ RuB w m B f l r X Y n
theorem RuC.below (h : RuC W m B f l r n) (hb : Below W.heap.size W w) : RuC w m B f l r n := by
  obtain ⟨X, Y, h1, h2⟩ := h
  exact ⟨X, Y, h1, h2.below hb⟩
theorem tel_other (m B n : Nat) (x y : Int) (w : World) (hn2 : n ≤ 800) (hm : m ≤ w.heap.size) (hx : Word x) (hy : Word y) (hR : RuC w m B f l r n) :
    Calls Tryz.prog 8 #[.pointer (some ⟨B, 0, none⟩), eU x, eU y] w fun e w' => e = .returned (.tuple #[]) ∧ RuC w' m B f l r (n + 1) ∧ Below m w w' := by
  obtain ⟨X, Y, h1, S, h2, h3⟩ := hR
  refine (ru_next h1 x y hx hy hn2 h3).mono ?_
  rintro e w' ⟨e1, e2, e3⟩
  have := e3.size
  exact ⟨e1, ⟨_, _, upd_nn h1 hy.1, _, fun k hk => by rcases hk with hk | hk; have := h2 k hk; omega; omega, e2⟩, e3.below (fun k _ hk => (h2 k hk).1) hm⟩
end
end Go.Proofs.YtejolaifdjcghaaGreat
