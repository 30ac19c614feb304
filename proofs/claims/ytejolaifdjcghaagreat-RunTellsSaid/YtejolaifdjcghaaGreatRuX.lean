/- A run of either kind behind so many starts, as an object: all its calls. -/
import Derived.Test.YtejolaifdjcghaaGreatRuO
import Derived.Test.YtejolaifdjcghaaGreatRnB
import Derived.Test.YtejolaifdjcghaaGreatRch
namespace Go.Proofs.YtejolaifdjcghaaGreat
open Go.RowKit Go.Shelf W
set_option linter.unusedVariables false
set_option maxRecDepth 100000
/-- Where a run may be made of a curve. -/
def CvR (f l r : Int) : Prop := Word f ∧ Word l ∧ Word r ∧ cMay f l r
theorem CvR.kinds {f l r : Int} (h : CvR f l r) : CvB f l r ∨ CvS f l r := by
  obtain ⟨h1, h2, h3, h4⟩ := h
  rcases Int.lt_or_le r f with h | h
  · exact .inl ⟨h1, h2, h3, h4, h⟩
  · exact .inr ⟨h1, h2, h3, h4, h⟩
theorem CvB.any {f l r : Int} (h : CvB f l r) : CvR f l r := ⟨h.1, h.2.1, h.2.2.1, h.2.2.2.1⟩
theorem CvS.any {f l r : Int} (h : CvS f l r) : CvR f l r := ⟨h.1, h.2.1, h.2.2.1, h.2.2.2.1⟩
/-- A kind's value, whose blocks are in S. -/
def KOb (w : World) (S : Nat → Prop) (v : Value) (f l r : Int) (X Y : Nat → Int) (n : Nat) : Prop :=
  (CvB f l r ∧ ∃ Q : Nat, v = kB (some ⟨Q, 0, none⟩) ∧ S Q ∧ Rn w Q f l r X Y n) ∨ (CvS f l r ∧ ∃ Q : Nat, v = kS (some ⟨Q, 0, none⟩) ∧ RgF w S Q f l r X Y n)
/-- Block B holds a run of a curve behind n starts; all of its blocks are in S. -/
def Ru (w : World) (S : Nat → Prop) (B : Nat) (f l r : Int) (X Y : Nat → Int) (n : Nat) : Prop :=
  ∃ v, S B ∧ Box w B #[eU f, eU l, eU r, v] 45 ∧ KOb w (fun k => S k ∧ k ≠ B) v f l r X Y n
section
variable {w W : World} {S T : Nat → Prop} {v : Value} {B : Nat} {f l r : Int} {X Y : Nat → Int} {n : Nat}
theorem KOb.off (h : KOb W S v f l r X Y n) (hb : Off T W w) (hd : ∀ k, S k → ¬ T k) : KOb w S v f l r X Y n := by
  rcases h with ⟨h1, Q, e, hQ, h2⟩ | ⟨h1, Q, e, h2⟩
  · exact .inl ⟨h1, Q, e, hQ, h2.off hb (hd Q hQ)⟩
  · exact .inr ⟨h1, Q, e, h2.off hb hd⟩
theorem KOb.mono (h : KOb w S v f l r X Y n) (hS : ∀ k, S k → T k) : KOb w T v f l r X Y n := by
  rcases h with ⟨h1, Q, e, hQ, h2⟩ | ⟨h1, Q, e, h2⟩
  · exact .inl ⟨h1, Q, e, hS Q hQ, h2⟩
  · exact .inr ⟨h1, Q, e, h2.mono hS⟩
theorem Ru.off (h : Ru W S B f l r X Y n) (hb : Off T W w) (hd : ∀ k, S k → ¬ T k) : Ru w S B f l r X Y n := by
  obtain ⟨v, h1, h2, h3⟩ := h
  exact ⟨v, h1, hb.box h2 (hd B h1), h3.off hb (fun k hk => hd k hk.1)⟩
theorem Ru.below (h : Ru W S B f l r X Y n) (hb : Below W.heap.size W w) : Ru w S B f l r X Y n := h.off (T := fun _ => False) (Off.of hb) (fun _ _ h => h)
theorem Ru.drew (h : Ru W S B f l r X Y n) : Ru W.drew S B f l r X Y n := h.below (Below.refl _ _).drew
theorem Ru.mono (h : Ru w S B f l r X Y n) (hS : ∀ k, S k → T k) : Ru w T B f l r X Y n := by
  obtain ⟨v, h1, h2, h3⟩ := h
  exact ⟨v, hS B h1, h2, h3.mono (fun k hk => ⟨hS k hk.1, hk.2⟩)⟩
theorem Ru.lt (h : Ru w S B f l r X Y n) : B < w.heap.size := by
  obtain ⟨v, h1, h2, h3⟩ := h
  exact h2.lt
theorem Ru.at (h : Ru w S B f l r X Y n) : S B := by
  obtain ⟨v, h1, h2, h3⟩ := h
  exact h1
theorem Ru.cv (h : Ru w S B f l r X Y n) : CvR f l r := by
  obtain ⟨v, h1, h2, h3⟩ := h
  rcases h3 with ⟨h3, _⟩ | ⟨h3, _⟩
  · exact h3.any
  · exact CvS.any h3
end
namespace W
theorem eF_bent {f r : Int} (h : r < f) : eF f r = f := by unfold eF; rw [if_pos h]
theorem eL_bent {f l r : Int} (h : r < f) : eL f l r = l := by unfold eL; rw [if_pos h]
theorem eF_sag {f r : Int} (h : f ≤ r) : eF f r = 0 := by unfold eF; rw [if_neg (by omega)]
theorem eL_sag {f l r : Int} (h : f ≤ r) : eL f l r = 0 := by unfold eL; rw [if_neg (by omega)]
end W
theorem quietly {k : Nat} {args : Array Value} {w : World} {v : Value} (h : Calls Tryz.prog k args w fun e w' => e = .returned v ∧ w = w') : Calls Tryz.prog k args w fun e w' => e = .returned v ∧ Below w.heap.size w w' :=
  h.mono fun e w' h => ⟨h.1, by rw [← h.2]; exact Below.refl _ _⟩
section
variable {f l r : Int} {X Y : Nat → Int} (hY : ∀ k, 0 ≤ Y k)
theorem ru_many (S : Nat → Prop) (B n : Nat) (w : World) (h : Ru w S B f l r X Y n) : Calls Tryz.prog 17 #[.pointer (some ⟨B, 0, none⟩)] w fun e w' => e = .returned (eI n) ∧ w = w' := by
  obtain ⟨v, h1, h2, h3⟩ := h
  rcases h3 with ⟨hc, Q, rfl, hQ, h3⟩ | ⟨hc, Q, rfl, h3⟩
  · exact rB_Starts _ _ n (fun w' => w = w') w (kept_some B f l r _ _ w h2) (bn_starts_any Q _ _ _ _ _ _ _ w h3)
  · obtain ⟨K, h3⟩ := h3.rg
    exact rS_Starts _ _ n (fun w' => w = w') w (kept_some B f l r _ _ w h2) (rg_starts 0 Q n K w h3)
theorem ru_last (S : Nat → Prop) (B n : Nat) (w : World) (hn : 0 < n) (h : Ru w S B f l r X Y n) : Calls Tryz.prog 14 #[.pointer (some ⟨B, 0, none⟩)] w fun e w' => e = .returned (.tuple #[eU (xS X n), .bool true]) ∧ w = w' := by
  obtain ⟨v, h1, h2, h3⟩ := h
  rcases h3 with ⟨hc, Q, rfl, hQ, h3⟩ | ⟨hc, Q, rfl, h3⟩
  · exact rB_Last _ _ _ _ (fun w' => w = w') w (kept_some B f l r _ _ w h2) (bn_last_any Q _ _ _ _ _ _ _ w h3 (nat_zero hn))
  · obtain ⟨K, h3⟩ := h3.rg
    exact rS_Last _ _ _ _ (fun w' => w = w') w (kept_some B f l r _ _ w h2) (rg_last 0 Q n K w hn h3)
theorem ru_last0 (S : Nat → Prop) (B : Nat) (w : World) (h : Ru w S B f l r X Y 0) : Calls Tryz.prog 14 #[.pointer (some ⟨B, 0, none⟩)] w fun e w' => e = .returned (.tuple #[eU 0, .bool false]) ∧ w = w' := by
  obtain ⟨v, h1, h2, h3⟩ := h
  rcases h3 with ⟨hc, Q, rfl, hQ, h3⟩ | ⟨hc, Q, rfl, h3⟩
  · exact rB_Last _ _ _ _ (fun w' => w = w') w (kept_some B f l r _ _ w h2) (bn_last_none _ w (bn_starts_any Q _ _ _ _ _ _ _ w h3))
  · obtain ⟨K, h3⟩ := h3.rg
    exact rS_Last _ _ _ _ (fun w' => w = w') w (kept_some B f l r _ _ w h2) (rg_last0 0 Q K w h3)
theorem ru_at0 (S : Nat → Prop) (B : Nat) (t : Int) (w : World) (h : Ru w S B f l r X Y 0) : Calls Tryz.prog 19 #[.pointer (some ⟨B, 0, none⟩), eU t] w fun e w' => e = .returned (eU 0) ∧ Below w.heap.size w w' := by
  obtain ⟨v, h1, h2, h3⟩ := h
  rcases h3 with ⟨hc, Q, rfl, hQ, h3⟩ | ⟨hc, Q, rfl, h3⟩
  · exact rB_At _ _ _ _ _ w (kept_some B f l r _ _ w h2) (quietly (bn_at_none _ t w (bn_starts_any Q _ _ _ _ _ _ _ w h3)))
  · obtain ⟨K, h3⟩ := h3.rg
    exact rS_At _ _ _ _ _ w (kept_some B f l r _ _ w h2) (quietly (sg_at_none _ t w (rg_kept0 0 Q K w h3)))
theorem ru_ahead0 (S : Nat → Prop) (B : Nat) (t : Int) (w : World) (h : Ru w S B f l r X Y 0) : Calls Tryz.prog 23 #[.pointer (some ⟨B, 0, none⟩), eU t] w fun e w' => e = .returned (eU 0) ∧ Below w.heap.size w w' := by
  obtain ⟨v, h1, h2, h3⟩ := h
  rcases h3 with ⟨hc, Q, rfl, hQ, h3⟩ | ⟨hc, Q, rfl, h3⟩
  · exact rB_early _ _ _ _ w (kept_some B f l r _ _ w h2) (fun w' T => quietly (bn_at_none _ t w' (bn_starts_any Q _ _ _ _ _ _ _ w' (h3.below T))))
  · exact rS_early _ _ _ _ w (kept_some B f l r _ _ w h2) (fun w' T => by
      obtain ⟨K, h3⟩ := (h3.below T).rg
      exact quietly (sg_line_none _ t w' (rg_kept0 0 Q K w' h3)))
theorem bn_reach_no (V : Value) (y : Int) (w : World) (hS : Calls Tryz.prog 79 #[V] w fun e w' => e = .returned (eI 0) ∧ w = w') :
    Calls Tryz.prog 77 #[V, eU y] w fun e w' => e = .returned (eU (if y = 0 then 0 else 9223372036854775808)) ∧ w = w' := by
  by_cases hy : y = 0
  · subst hy; rw [if_pos rfl]
    exact bn_reach_none0 V w hS
  · rw [if_neg hy]
    exact bn_reach_none V y w (by simp only [beq_eq_false_iff_ne]; exact hy) hS
theorem ru_reach0 (S : Nat → Prop) (B : Nat) (y : Int) (w : World) (h : Ru w S B f l r X Y 0) : Calls Tryz.prog 21 #[.pointer (some ⟨B, 0, none⟩), eU y] w fun e w' => e = .returned (eU (if y = 0 then 0 else 9223372036854775808)) ∧ Below w.heap.size w w' := by
  obtain ⟨v, h1, h2, h3⟩ := h
  rcases h3 with ⟨hc, Q, rfl, hQ, h3⟩ | ⟨hc, Q, rfl, h3⟩
  · exact rB_Reach _ _ _ _ _ w (kept_some B f l r _ _ w h2) (quietly (bn_reach_no _ y w (bn_starts_any Q _ _ _ _ _ _ _ w h3)))
  · obtain ⟨K, h3⟩ := h3.rg
    exact rS_Reach _ _ _ _ _ w (kept_some B f l r _ _ w h2) (quietly (sg_reach_none _ y w (rg_kept0 0 Q K w h3)))
theorem ru_eligible0 (S : Nat → Prop) (B : Nat) (y : Int) (w : World) (h : Ru w S B f l r X Y 0) : Calls Tryz.prog 25 #[.pointer (some ⟨B, 0, none⟩), eU y] w fun e w' => e = .returned (eU (if y = 0 then 0 else 9223372036854775808)) ∧ Below w.heap.size w w' := by
  obtain ⟨v, h1, h2, h3⟩ := h
  rcases h3 with ⟨hc, Q, rfl, hQ, h3⟩ | ⟨hc, Q, rfl, h3⟩
  · exact rB_from _ _ _ _ w (kept_some B f l r _ _ w h2) (fun w' T => quietly (bn_reach_no _ y w' (bn_starts_any Q _ _ _ _ _ _ _ w' (h3.below T))))
  · exact rS_from _ _ _ _ w (kept_some B f l r _ _ w h2) (fun w' T => by
      obtain ⟨K, h3⟩ := (h3.below T).rg
      exact quietly (sg_ahead_none _ y w' (rg_kept0 0 Q K w' h3)))
include hY
theorem bn_at_lst (Q n : Nat) (t v : Int) (w : World) (hc : CvB f l r) (hn : 0 < n) (ht : Word t) (hv' : IsLst (fun k => hv f l r k (max t (xS X n))) (allL X Y n) v) (h : Rn w Q f l r X Y n) :
    Calls Tryz.prog 75 #[.pointer (some ⟨Q, 0, none⟩), eU t] w fun e w' => e = .returned (eU (stp v)) ∧ Below w.heap.size w w' := by
  have h1 := rn_at Q f l r t X Y n w hc hY hn ht h
  obtain ⟨l0, o0, o1, r0, rf, f1⟩ := hc.over
  unfold rA at h1
  rw [gA_lst (by omega) r0 rf hY hn (by omega) hv'] at h1
  exact h1
theorem bn_reach_rch (Q n : Nat) (y v : Int) (w : World) (hc : CvB f l r) (hn : 0 < n) (hy : Word y) (hv' : IsRch f l r y (xS X n) (allL X Y n) v) (h : Rn w Q f l r X Y n) :
    Calls Tryz.prog 77 #[.pointer (some ⟨Q, 0, none⟩), eU y] w fun e w' => e = .returned (eU v) ∧ Below w.heap.size w w' := by
  obtain ⟨l0, o0, o1, r0, rf, f1⟩ := hc.over
  obtain ⟨u, hu, h1, h2⟩ := rn_reach f l r y X Y n hc hY hn hy
  have e := (gA_rch (by omega) r0 rf hY hn rfl h1).unique hv'
  subst e
  exact h2 Q w h
theorem ru_at (S : Nat → Prop) (B n : Nat) (t v : Int) (w : World) (hn : 0 < n) (hn2 : n ≤ 800) (ht : Word t) (hv' : IsLst (fun k => hv f l r k (max t (xS X n))) (allL X Y n) v) (h : Ru w S B f l r X Y n) :
    Calls Tryz.prog 19 #[.pointer (some ⟨B, 0, none⟩), eU t] w fun e w' => e = .returned (eU (stp v)) ∧ Below w.heap.size w w' := by
  obtain ⟨u, h1, h2, h3⟩ := h
  rcases h3 with ⟨hc, Q, rfl, hQ, h3⟩ | ⟨hc, Q, rfl, h3⟩
  · exact rB_At _ _ _ _ _ w (kept_some B f l r _ _ w h2) (bn_at_lst hY Q n t v w hc hn ht hv' h3)
  · obtain ⟨K, h3⟩ := h3.rg
    exact rS_At _ _ _ _ _ w (kept_some B f l r _ _ w h2) (rg_at hc hY 0 Q n K t v w hn hn2 ht hv' h3)
theorem ru_ahead (S : Nat → Prop) (B n : Nat) (t v : Int) (w : World) (hn : 0 < n) (hn2 : n ≤ 800) (ht : Word t) (hv' : IsLst (fun k => hv (eF f r) (eL f l r) r k (max t (xS X n))) (allL X Y n) v) (h : Ru w S B f l r X Y n) :
    Calls Tryz.prog 23 #[.pointer (some ⟨B, 0, none⟩), eU t] w fun e w' => e = .returned (eU (stp v)) ∧ Below w.heap.size w w' := by
  obtain ⟨u, h1, h2, h3⟩ := h
  rcases h3 with ⟨hc, Q, rfl, hQ, h3⟩ | ⟨hc, Q, rfl, h3⟩
  · rw [eF_bent hc.2.2.2.2, eL_bent hc.2.2.2.2] at hv'
    exact rB_early _ _ _ _ w (kept_some B f l r _ _ w h2) (fun w' T => bn_at_lst hY Q n t v w' hc hn ht hv' (h3.below T))
  · rw [eF_sag hc.2.2.2.2, eL_sag hc.2.2.2.2] at hv'
    exact rS_early _ _ _ _ w (kept_some B f l r _ _ w h2) (fun w' T => by
      obtain ⟨K, h3⟩ := (h3.below T).rg
      exact rg_line hc hY 0 Q n K t v w' hn hn2 ht hv' h3)
theorem ru_reach (S : Nat → Prop) (B n : Nat) (y v : Int) (w : World) (hn : 0 < n) (hn2 : n ≤ 800) (hy : Word y) (hv' : IsRch f l r y (xS X n) (allL X Y n) v) (h : Ru w S B f l r X Y n) :
    Calls Tryz.prog 21 #[.pointer (some ⟨B, 0, none⟩), eU y] w fun e w' => e = .returned (eU v) ∧ Below w.heap.size w w' := by
  obtain ⟨u, h1, h2, h3⟩ := h
  rcases h3 with ⟨hc, Q, rfl, hQ, h3⟩ | ⟨hc, Q, rfl, h3⟩
  · exact rB_Reach _ _ _ _ _ w (kept_some B f l r _ _ w h2) (bn_reach_rch hY Q n y v w hc hn hy hv' h3)
  · obtain ⟨K, h3⟩ := h3.rg
    exact rS_Reach _ _ _ _ _ w (kept_some B f l r _ _ w h2) (rg_reach hc hY 0 Q n K y v w hn hn2 hy hv' h3)
theorem ru_eligible (S : Nat → Prop) (B n : Nat) (y v : Int) (w : World) (hn : 0 < n) (hn2 : n ≤ 800) (hy : Word y) (hv' : IsRch (eF f r) (eL f l r) r y (xS X n) (allL X Y n) v) (h : Ru w S B f l r X Y n) :
    Calls Tryz.prog 25 #[.pointer (some ⟨B, 0, none⟩), eU y] w fun e w' => e = .returned (eU v) ∧ Below w.heap.size w w' := by
  obtain ⟨u, h1, h2, h3⟩ := h
  rcases h3 with ⟨hc, Q, rfl, hQ, h3⟩ | ⟨hc, Q, rfl, h3⟩
  · rw [eF_bent hc.2.2.2.2, eL_bent hc.2.2.2.2] at hv'
    exact rB_from _ _ _ _ w (kept_some B f l r _ _ w h2) (fun w' T => bn_reach_rch hY Q n y v w' hc hn hy hv' (h3.below T))
  · rw [eF_sag hc.2.2.2.2, eL_sag hc.2.2.2.2] at hv'
    exact rS_from _ _ _ _ w (kept_some B f l r _ _ w h2) (fun w' T => by
      obtain ⟨K, h3⟩ := (h3.below T).rg
      exact rg_ahead hc hY 0 Q n K y v w' hn hn2 hy hv' h3)
theorem ru_start (S : Nat → Prop) (B n : Nat) (w : World) (hn2 : n ≤ 800) (hX : Word (X n)) (hYw : Word (Y n)) (h : Ru w S B f l r X Y n) :
    Calls Tryz.prog 8 #[.pointer (some ⟨B, 0, none⟩), eU (X n), eU (Y n)] w fun e w' => e = .returned (.tuple #[]) ∧ (Ru w' (fun k => S k ∨ (w.heap.size ≤ k ∧ k < w'.heap.size)) B f l r X Y (n + 1) ∧ Off S w w') := by
  obtain ⟨u, h1, h2, h3⟩ := h
  have hlt := h2.lt
  rcases h3 with ⟨hc, Q, rfl, hQ, h3⟩ | ⟨hc, Q, rfl, h3⟩
  · refine (rB_Start _ _ _ _ (fun w' => Rn w' Q f l r X Y (n + 1) ∧ But Q w w') w (kept_some B f l r _ _ w h2) ((rn_start Q f l r X Y n w hc hY (by omega) hX hYw h3).mono fun e w' h => h)).mono ?_
    rintro e w' ⟨rfl, h4, h5⟩
    exact ⟨rfl, ⟨_, .inl h1, h5.box h2 (fun e => hQ.2 e.symm), .inl ⟨hc, Q, rfl, ⟨.inl hQ.1, hQ.2⟩, h4⟩⟩, h5.foot hQ.1⟩
  · refine (rS_Start _ _ _ _ (fun w' => RgF w' (fun k => (S k ∧ k ≠ B) ∨ (w.heap.size ≤ k ∧ k < w'.heap.size)) Q f l r X Y (n + 1) ∧ Off (fun k => S k ∧ k ≠ B) w w') w (kept_some B f l r _ _ w h2) ((rgf_start hc hY _ Q n w hn2 hX hYw h3).mono fun e w' h => h)).mono ?_
    rintro e w' ⟨rfl, h4, h5⟩
    refine ⟨rfl, ⟨_, .inl h1, h5.box h2 (fun h => h.2 rfl), .inr ⟨hc, Q, rfl, h4.mono fun k hk => ?_⟩⟩, h5.mono fun k _ hk => hk.1⟩
    rcases hk with hk | hk
    · exact ⟨.inl hk.1, hk.2⟩
    · exact ⟨.inr hk, by omega⟩
end
/-- A run's own box is laid behind its kind's blocks. -/
theorem KOb.boxed {w1 w' : World} {v : Value} {m B : Nat} {f l r : Int} {X Y : Nat → Int} {n : Nat} (h : KOb w1 (fun k => m ≤ k ∧ k < w1.heap.size) v f l r X Y n) (hm : m ≤ w1.heap.size) (hB : w1.heap.size = B) (hb : Below w1.heap.size w1 w') (hx : Box w' B #[eU f, eU l, eU r, v] 45) :
    Ru w' (fun k => m ≤ k ∧ k < w'.heap.size) B f l r X Y n := by
  have hs := hb.size
  exact ⟨v, ⟨by omega, hx.lt⟩, hx, (h.off (T := fun _ => False) (Off.of hb) (fun _ _ h => h)).mono fun k hk => ⟨⟨hk.1, by omega⟩, by omega⟩⟩
section
variable (B : Nat) (f l r : Int) (P : Nat → World → Prop) (w : World)
set_option maxHeartbeats 1000000 in
theorem run_copy_b (q : Option Addr) (hB : Box w B #[eU f, eU l, eU r, kB q] 45)
    (hC : ∀ w', Below w.heap.size w w' → Calls Tryz.prog 98 #[vB q] w' fun e w'' => ∃ Q : Nat, e = .returned (kB (some ⟨Q, 0, none⟩)) ∧ P Q w'' ∧ Below w'.heap.size w' w'') :
    Calls Tryz.prog 6 #[.pointer (some ⟨B, 0, none⟩)] w fun e w' => ∃ (B' Q : Nat) (w1 : World), e = .returned (.pointer (some ⟨B', 0, none⟩)) ∧ P Q w1 ∧ w1.heap.size = B' ∧ Below w.heap.size w w1 ∧ Below w1.heap.size w1 w' ∧ Box w' B' #[eU f, eU l, eU r, kB (some ⟨Q, 0, none⟩)] 45 := by
  have hKe := fun w' (E : Below w.heap.size w w') => quietly (kept_some B f l r _ _ w' (hB.below E))
  have d := dB_same q
  have n := nB_same q
  have h0 : w.cell? ⟨B, 0, none⟩ = some (.int .u64 f) := hB.cell 0
  have h1 : w.cell? ⟨B, 1, none⟩ = some (.int .u64 l) := hB.cell 1
  have h2 : w.cell? ⟨B, 2, none⟩ = some (.int .u64 r) := hB.cell 2
  have E := Below.refl w.heap.size w
  clear hB
  go_enter Tryz.func6, Tryz.ntmps6
  go_upto_region 3 with fail
  go_region_held3 (fun w' => w'.cell? ⟨B, 0, none⟩ = some (.int .u64 f) ∧ w'.cell? ⟨B, 1, none⟩ = some (.int .u64 l) ∧ w'.cell? ⟨B, 2, none⟩ = some (.int .u64 r))
    (first | exact ⟨h0, h1, h2⟩ | exact ⟨E.cellAt h0, E.cellAt h1, E.cellAt h2⟩ | exact ⟨E.drew.cellAt h0, E.drew.cellAt h1, E.drew.cellAt h2⟩ | exact ⟨(E.alloc E.size _).cellAt h0, (E.alloc E.size _).cellAt h1, (E.alloc E.size _).cellAt h2⟩)
    (first
      | (go_at_call 13; (with_reducible refine (hKe _ (by first | exact E | exact E.drew)).mono ?_); rintro e w1 ⟨rfl, hb⟩; (first | replace hb := undrew hb | replace hb := undrewN hb | skip); replace E := up E hb E.size; clear hb)
      | (go_at_call 98; (with_reducible refine (hC _ (by first | exact E | exact E.drew)).mono ?_); rintro e w2 ⟨Q, rfl, hP, hb⟩; (first | replace hb := undrew hb | replace hb := undrewN hb | skip); replace E := up E hb E.size; clear hb))
  all_goals go_wp2_with fail
  all_goals go_ret
  all_goals exact ⟨_, Q, _, rfl, hP, rfl, E, up1 _ _, Box.new _ _ _⟩
set_option maxHeartbeats 1000000 in
theorem run_copy_s (q : Option Addr) (hB : Box w B #[eU f, eU l, eU r, kS q] 45)
    (hC : ∀ w', Below w.heap.size w w' → Calls Tryz.prog 122 #[vB q] w' fun e w'' => ∃ Q : Nat, e = .returned (kS (some ⟨Q, 0, none⟩)) ∧ P Q w'' ∧ Below w'.heap.size w' w'') :
    Calls Tryz.prog 6 #[.pointer (some ⟨B, 0, none⟩)] w fun e w' => ∃ (B' Q : Nat) (w1 : World), e = .returned (.pointer (some ⟨B', 0, none⟩)) ∧ P Q w1 ∧ w1.heap.size = B' ∧ Below w.heap.size w w1 ∧ Below w1.heap.size w1 w' ∧ Box w' B' #[eU f, eU l, eU r, kS (some ⟨Q, 0, none⟩)] 45 := by
  have hKe := fun w' (E : Below w.heap.size w w') => quietly (kept_some B f l r _ _ w' (hB.below E))
  have d := dS_same q
  have n := nS_same q
  have h0 : w.cell? ⟨B, 0, none⟩ = some (.int .u64 f) := hB.cell 0
  have h1 : w.cell? ⟨B, 1, none⟩ = some (.int .u64 l) := hB.cell 1
  have h2 : w.cell? ⟨B, 2, none⟩ = some (.int .u64 r) := hB.cell 2
  have E := Below.refl w.heap.size w
  clear hB
  go_enter Tryz.func6, Tryz.ntmps6
  go_upto_region 3 with fail
  go_region_held3 (fun w' => w'.cell? ⟨B, 0, none⟩ = some (.int .u64 f) ∧ w'.cell? ⟨B, 1, none⟩ = some (.int .u64 l) ∧ w'.cell? ⟨B, 2, none⟩ = some (.int .u64 r))
    (first | exact ⟨h0, h1, h2⟩ | exact ⟨E.cellAt h0, E.cellAt h1, E.cellAt h2⟩ | exact ⟨E.drew.cellAt h0, E.drew.cellAt h1, E.drew.cellAt h2⟩ | exact ⟨(E.alloc E.size _).cellAt h0, (E.alloc E.size _).cellAt h1, (E.alloc E.size _).cellAt h2⟩)
    (first
      | (go_at_call 13; (with_reducible refine (hKe _ (by first | exact E | exact E.drew)).mono ?_); rintro e w1 ⟨rfl, hb⟩; (first | replace hb := undrew hb | replace hb := undrewN hb | skip); replace E := up E hb E.size; clear hb)
      | (go_at_call 122; (with_reducible refine (hC _ (by first | exact E | exact E.drew)).mono ?_); rintro e w2 ⟨Q, rfl, hP, hb⟩; (first | replace hb := undrew hb | replace hb := undrewN hb | skip); replace E := up E hb E.size; clear hb))
  all_goals go_wp2_with fail
  all_goals go_ret
  all_goals exact ⟨_, Q, _, rfl, hP, rfl, E, up1 _ _, Box.new _ _ _⟩
set_option maxHeartbeats 1000000 in
theorem run_new_b (hB : ∀ w', Below w.heap.size w w' → Calls Tryz.prog 10 #[.agg #[eU f, eU l, eU r]] w' fun e w'' => ∃ Q : Nat, e = .returned (.tuple #[.pointer (some ⟨Q, 0, none⟩), eI 0]) ∧ P Q w'' ∧ Below w'.heap.size w' w'') :
    Calls Tryz.prog 4 #[.agg #[eU f, eU l, eU r]] w fun e w' => ∃ (B' Q : Nat) (w1 : World), e = .returned (.pointer (some ⟨B', 0, none⟩)) ∧ P Q w1 ∧ w1.heap.size = B' ∧ Below w.heap.size w w1 ∧ Below w1.heap.size w1 w' ∧ Box w' B' #[eU f, eU l, eU r, kB (some ⟨Q, 0, none⟩)] 45 := by
  have BC := Box.new w 24 #[eU f, eU l, eU r]
  have T := up1 w (.cells #[eU f, eU l, eU r] 24)
  obtain ⟨c0, c1, c2⟩ := BC.three
  go_enter Tryz.func4, Tryz.ntmps4
  go_wp2_with (go_at_call 10; (with_reducible refine (hB _ T).mono ?_); rintro e w1 ⟨Q, rfl, hP, hb⟩; replace BC := BC.below hb; replace T := up T hb T.size; clear hb c0 c1 c2; obtain ⟨c0, c1, c2⟩ := BC.three)
  go_ret
  exact ⟨_, Q, _, rfl, hP, rfl, T, up1 _ _, Box.new _ _ _⟩
set_option maxHeartbeats 1000000 in
theorem run_new_s (hB : ∀ w', Below w.heap.size w w' → Calls Tryz.prog 10 #[.agg #[eU f, eU l, eU r]] w' fun e w'' => e = .returned (.tuple #[.pointer none, eI 30]) ∧ Below w'.heap.size w' w'')
    (hS : ∀ w', Below w.heap.size w w' → Calls Tryz.prog 11 #[.agg #[eU f, eU l, eU r]] w' fun e w'' => ∃ Q : Nat, e = .returned (.tuple #[.pointer (some ⟨Q, 0, none⟩), eI 0]) ∧ P Q w'' ∧ Below w'.heap.size w' w'') :
    Calls Tryz.prog 4 #[.agg #[eU f, eU l, eU r]] w fun e w' => ∃ (B' Q : Nat) (w1 : World), e = .returned (.pointer (some ⟨B', 0, none⟩)) ∧ P Q w1 ∧ w1.heap.size = B' ∧ Below w.heap.size w w1 ∧ Below w1.heap.size w1 w' ∧ Box w' B' #[eU f, eU l, eU r, kS (some ⟨Q, 0, none⟩)] 45 := by
  have BC := Box.new w 24 #[eU f, eU l, eU r]
  have T := up1 w (.cells #[eU f, eU l, eU r] 24)
  obtain ⟨c0, c1, c2⟩ := BC.three
  go_enter Tryz.func4, Tryz.ntmps4
  go_wp2_with (first
    | (go_at_call 10; (with_reducible refine (hB _ T).mono ?_); rintro e w1 ⟨rfl, hb⟩; replace BC := BC.below hb; replace T := up T hb T.size; clear hb c0 c1 c2; obtain ⟨c0, c1, c2⟩ := BC.three)
    | (go_at_call 11; (with_reducible refine (hS _ T).mono ?_); rintro e w2 ⟨Q, rfl, hP, hb⟩; replace BC := BC.below hb; replace T := up T hb T.size; clear hb c0 c1 c2; obtain ⟨c0, c1, c2⟩ := BC.three))
  go_ret
  exact ⟨_, Q, _, rfl, hP, rfl, T, up1 _ _, Box.new _ _ _⟩
set_option maxHeartbeats 1000000 in
theorem run_new_no (hB : ∀ w', Below w.heap.size w w' → Calls Tryz.prog 10 #[.agg #[eU f, eU l, eU r]] w' fun e w'' => e = .returned (.tuple #[.pointer none, eI 30]) ∧ Below w'.heap.size w' w'')
    (hS : ∀ w', Below w.heap.size w w' → Calls Tryz.prog 11 #[.agg #[eU f, eU l, eU r]] w' fun e w'' => e = .returned (.tuple #[.pointer none, eI 30]) ∧ Below w'.heap.size w' w'') :
    Calls Tryz.prog 4 #[.agg #[eU f, eU l, eU r]] w fun e w' => e = .returned (.pointer none) ∧ Below w.heap.size w w' := by
  have BC := Box.new w 24 #[eU f, eU l, eU r]
  have T := up1 w (.cells #[eU f, eU l, eU r] 24)
  obtain ⟨c0, c1, c2⟩ := BC.three
  go_enter Tryz.func4, Tryz.ntmps4
  go_wp2_with (first
    | (go_at_call 10; (with_reducible refine (hB _ T).mono ?_); rintro e w1 ⟨rfl, hb⟩; replace BC := BC.below hb; replace T := up T hb T.size; clear hb c0 c1 c2; obtain ⟨c0, c1, c2⟩ := BC.three)
    | (go_at_call 11; (with_reducible refine (hS _ T).mono ?_); rintro e w2 ⟨rfl, hb⟩; replace BC := BC.below hb; replace T := up T hb T.size; clear hb c0 c1 c2; obtain ⟨c0, c1, c2⟩ := BC.three))
  go_ret
  exact ⟨rfl, T⟩
end
theorem ru_copy {f l r : Int} {X Y : Nat → Int} (S : Nat → Prop) (B n : Nat) (w : World) (hn2 : n ≤ 800) (h : Ru w S B f l r X Y n) :
    Calls Tryz.prog 6 #[.pointer (some ⟨B, 0, none⟩)] w fun e w' => (∃ B' : Nat, e = .returned (.pointer (some ⟨B', 0, none⟩)) ∧ Ru w' (fun k => w.heap.size ≤ k ∧ k < w'.heap.size) B' f l r X Y n) ∧ Below w.heap.size w w' := by
  obtain ⟨u, h1, h2, h3⟩ := h
  rcases h3 with ⟨hc, Q, rfl, hQ, h3⟩ | ⟨hc, Q, rfl, h3⟩
  · refine (run_copy_b B f l r (fun Q w1 => KOb w1 (fun k => w.heap.size ≤ k ∧ k < w1.heap.size) (kB (some ⟨Q, 0, none⟩)) f l r X Y n) w _ h2 (fun w' T => kB_same _ _ w' fun w2 T2 => (bn_copy_any Q _ _ _ _ _ _ _ w2 ((h3.below T).below T2)).mono fun e w3 h => ?_)).mono ?_
    · obtain ⟨e1, e2, e3⟩ := h
      have := T.size; have := T2.size
      exact ⟨_, e1, .inl ⟨hc, _, rfl, ⟨by omega, Box.lt e2⟩, e2⟩, e3⟩
    · rintro e w' ⟨B', Q', w1, rfl, g1, g2, g3, g4, g5⟩
      exact ⟨⟨B', rfl, g1.boxed g3.size g2 g4 g5⟩, up g3 g4 g3.size⟩
  · refine (run_copy_s B f l r (fun Q w1 => KOb w1 (fun k => w.heap.size ≤ k ∧ k < w1.heap.size) (kS (some ⟨Q, 0, none⟩)) f l r X Y n) w _ h2 (fun w' T => kS_same _ _ w' fun w2 T2 => ?_)).mono ?_
    · obtain ⟨K, h4⟩ := ((h3.below T).below T2).rg
      refine (rg_copy 0 Q n K w2 hn2 h4).mono fun e w3 h => ?_
      obtain ⟨⟨e1, e2⟩, e3⟩ := h
      have := T.size; have := T2.size
      exact ⟨_, e1, .inr ⟨hc, _, rfl, (e2.foot (Nat.le_refl _)).mono fun k hk => ⟨by omega, hk.2⟩⟩, e3⟩
    · rintro e w' ⟨B', Q', w1, rfl, g1, g2, g3, g4, g5⟩
      exact ⟨⟨B', rfl, g1.boxed g3.size g2 g4 g5⟩, up g3 g4 g3.size⟩
theorem ru_new (f l r : Int) (X Y : Nat → Int) (w : World) (hf : Word f) (hl : Word l) (hr : Word r) :
    Calls Tryz.prog 4 #[.agg #[eU f, eU l, eU r]] w fun e w' => ((CvR f l r ∧ ∃ B' : Nat, e = .returned (.pointer (some ⟨B', 0, none⟩)) ∧ Ru w' (fun k => w.heap.size ≤ k ∧ k < w'.heap.size) B' f l r X Y 0) ∨ (¬ CvR f l r ∧ e = .returned (.pointer none))) ∧ Below w.heap.size w w' := by
  have hB := fun w => bn_new_any f l r w hf hl hr
  by_cases hc : CvB f l r
  · refine (run_new_b f l r (fun Q w1 => KOb w1 (fun k => w.heap.size ≤ k ∧ k < w1.heap.size) (kB (some ⟨Q, 0, none⟩)) f l r X Y 0) w (fun w' T => (hB w').mono fun e w'' h => ?_)).mono ?_
    · obtain ⟨h1, h2⟩ := h
      have := T.size
      rcases h1 with ⟨_, Q, e1, e2, e3⟩ | ⟨h1, _⟩
      · exact ⟨Q, e1, .inl ⟨hc, _, rfl, ⟨by omega, Box.lt e3⟩, e3⟩, h2⟩
      · exact absurd hc h1
    · rintro e w' ⟨B', Q', w1, rfl, g1, g2, g3, g4, g5⟩
      exact ⟨.inl ⟨hc.any, B', rfl, g1.boxed g3.size g2 g4 g5⟩, up g3 g4 g3.size⟩
  · have hB2 : ∀ w', Below w.heap.size w w' → Calls Tryz.prog 10 #[.agg #[eU f, eU l, eU r]] w' fun e w'' => e = .returned (.tuple #[.pointer none, eI 30]) ∧ Below w'.heap.size w' w'' := fun w' T => (hB w').mono fun e w'' h => by
      obtain ⟨h1, h2⟩ := h
      rcases h1 with ⟨h1, _⟩ | ⟨_, h1⟩
      · exact absurd h1 hc
      · exact ⟨h1, h2⟩
    by_cases hs : CvS f l r
    · refine (run_new_s f l r (fun Q w1 => KOb w1 (fun k => w.heap.size ≤ k ∧ k < w1.heap.size) (kS (some ⟨Q, 0, none⟩)) f l r X Y 0) w hB2 (fun w' T => (rg_new hs X Y w').mono fun e w'' h => ?_)).mono ?_
      · obtain ⟨⟨Q, e1, e2, e3⟩, h2⟩ := h
        have := T.size
        exact ⟨Q, e1, .inr ⟨hs, _, rfl, (e3.foot e2).mono fun k hk => ⟨by omega, hk.2⟩⟩, h2⟩
      · rintro e w' ⟨B', Q', w1, rfl, g1, g2, g3, g4, g5⟩
        exact ⟨.inl ⟨CvS.any hs, B', rfl, g1.boxed g3.size g2 g4 g5⟩, up g3 g4 g3.size⟩
    · refine (run_new_no f l r w hB2 (fun w' T => rg_new_not w' hf hl hr hs)).mono ?_
      rintro e w' ⟨e1, e2⟩
      exact ⟨.inr ⟨fun h => by rcases h.kinds with h | h <;> contradiction, e1⟩, e2⟩
end Go.Proofs.YtejolaifdjcghaaGreat
