/- The chapter's examples. -/
import Derived.Test.YtejolaifdjcghaaRuC
import Derived.Test.YtejolaifdjcghaaRuS
namespace Go.Proofs.Ytejolaifdjcghaa
open Go.RowKit Go.Shelf W
set_option linter.unusedVariables false
set_option maxRecDepth 100000
def zX (k : Nat) : Int := 0
theorem cvE1 : CvR 1 10 4 := ⟨⟨by omega, by omega⟩, ⟨by omega, by omega⟩, ⟨by omega, by omega⟩, by unfold cMay; omega⟩
theorem cvE2 : CvR 4 10 1 := ⟨⟨by omega, by omega⟩, ⟨by omega, by omega⟩, ⟨by omega, by omega⟩, by unfold cMay; omega⟩
theorem cvE3 : ¬ CvR 1 0 0 := fun h => by have := h.2.2.2; unfold cMay at this; omega
theorem zX_nn (k : Nat) : 0 ≤ zX k := by unfold zX; omega
theorem wI {x : Int} (h : 0 ≤ x ∧ x < 18446744073709551616) : Word x := h
def lstB (V : Int × Int → Int) (A : List (Int × Int)) (v : Int) : Bool := A.all (fun c => decide (v ≤ V c)) && A.any (fun c => decide (V c = v))
theorem lstB_ok {V : Int × Int → Int} {A : List (Int × Int)} {v : Int} (h : lstB V A v = true) : IsLst V A v := by
  unfold lstB at h
  rw [Bool.and_eq_true, List.all_eq_true, List.any_eq_true] at h
  obtain ⟨h1, c, hc, h2⟩ := h
  exact ⟨fun c hc => by simpa using h1 c hc, c, hc, by simpa using h2⟩
theorem z_rch {F L R y m : Int} (hF : 0 ≤ F) (hR : 0 ≤ R) (h0 : 0 ≤ m) (h1 : m ≤ 9223372036854775808)
    (h2 : (allL zX zX 1).all (fun k => decide (y ≤ stp (hv F L R k m))) = true) (h3 : (decide (m = 0) || (allL zX zX 1).any (fun k => decide (stp (hv F L R k (m - 1)) < y))) = true) : IsRch F L R y (xS zX 1) (allL zX zX 1) m := by
  rw [show xS zX 1 = 0 by decide]
  refine IsRch.of hF hR (fun k hk => by have := (W.allL_le zX_nn k hk).2.1; rw [show xS zX 1 = 0 by decide] at this; omega) h0 h1 (fun _ k hk => by simpa using List.all_eq_true.1 h2 k hk) ?_
  rcases Bool.or_eq_true _ _ |>.mp h3 with h | h
  · exact .inl (by simpa using h)
  · obtain ⟨k, hk, h⟩ := List.any_eq_true.1 h
    exact .inr ⟨k, hk, by simpa using h⟩
/-- Both runs of the examples, apart from each other. -/
def Two (w W : World) (B1 B2 n m : Nat) : Prop :=
  ∃ S1 S2 : Nat → Prop, Ru W S1 B1 1 10 4 zX zX n ∧ Ru W S2 B2 4 10 1 zX zX m ∧ (∀ k, S1 k → ¬ S2 k) ∧ (∀ k, S1 k → w.heap.size ≤ k ∧ k < W.heap.size) ∧ (∀ k, S2 k → w.heap.size ≤ k ∧ k < W.heap.size) ∧ Below w.heap.size w W
section
variable {w W W' : World} {B1 B2 n m : Nat}
theorem Two.below (h : Two w W B1 B2 n m) (hb : Below W.heap.size W W') : Two w W' B1 B2 n m := by
  obtain ⟨S1, S2, h1, h2, d, s1, s2, T⟩ := h
  have := hb.size
  exact ⟨S1, S2, h1.below hb, h2.below hb, d, fun k hk => by have := s1 k hk; omega, fun k hk => by have := s2 k hk; omega, up T hb T.size⟩
theorem Two.c1 {K : Nat} {args : Array Value} {v : Value} (h : Two w W B1 B2 n m) (hc : ∀ S, Ru W S B1 1 10 4 zX zX n → Calls Try.prog K args W fun e W' => e = .returned v ∧ Below W.heap.size W W') : Calls Try.prog K args W fun e W' => e = .returned v ∧ Two w W' B1 B2 n m := by
  have h' := h
  obtain ⟨S1, S2, h1, _⟩ := h
  exact (hc S1 h1).mono fun e w' g => ⟨g.1, h'.below g.2⟩
theorem Two.c2 {K : Nat} {args : Array Value} {v : Value} (h : Two w W B1 B2 n m) (hc : ∀ S, Ru W S B2 4 10 1 zX zX m → Calls Try.prog K args W fun e W' => e = .returned v ∧ Below W.heap.size W W') : Calls Try.prog K args W fun e W' => e = .returned v ∧ Two w W' B1 B2 n m := by
  have h' := h
  obtain ⟨S1, S2, _, h2, _⟩ := h
  exact (hc S2 h2).mono fun e w' g => ⟨g.1, h'.below g.2⟩
theorem Two.start1 (h : Two w W B1 B2 n m) (hn : n ≤ 800) : Calls Try.prog 8 #[.pointer (some ⟨B1, 0, none⟩), eU 0, eU 0] W fun e W' => e = .returned (.tuple #[]) ∧ Two w W' B1 B2 (n + 1) m := by
  obtain ⟨S1, S2, h1, h2, d, s1, s2, T⟩ := h
  have z : Word 0 := ⟨by omega, by omega⟩
  refine (ru_start zX_nn S1 B1 n W hn z z h1).mono ?_
  rintro e W' ⟨e1, e2, e3⟩
  have := e3.size
  have := T.size
  refine ⟨e1, _, S2, e2, h2.off e3 (fun k h2 h1 => d k h1 h2), fun k hk h2 => ?_, fun k hk => ?_, fun k hk => by have := s2 k hk; omega, T.trans (e3.below (fun k _ hk => (s1 k hk).1) T.size)⟩
  · rcases hk with hk | hk
    · exact d k hk h2
    · have := s2 k h2; omega
  · rcases hk with hk | hk
    · have := s1 k hk; omega
    · omega
theorem Two.start2 (h : Two w W B1 B2 n m) (hn : m ≤ 800) : Calls Try.prog 8 #[.pointer (some ⟨B2, 0, none⟩), eU 0, eU 0] W fun e W' => e = .returned (.tuple #[]) ∧ Two w W' B1 B2 n (m + 1) := by
  obtain ⟨S1, S2, h1, h2, d, s1, s2, T⟩ := h
  have z : Word 0 := ⟨by omega, by omega⟩
  refine (ru_start zX_nn S2 B2 m W hn z z h2).mono ?_
  rintro e W' ⟨e1, e2, e3⟩
  have := e3.size
  have := T.size
  refine ⟨e1, S1, _, h1.off e3 d, e2, fun k h1 hk => ?_, fun k hk => by have := s1 k hk; omega, fun k hk => ?_, T.trans (e3.below (fun k _ hk => (s2 k hk).1) T.size)⟩
  · rcases hk with hk | hk
    · exact d k h1 hk
    · have := s1 k h1; omega
  · rcases hk with hk | hk
    · have := s2 k hk; omega
    · omega
theorem Two.new (T : Below w.heap.size w W) (h1 : Ru W (fun k => w.heap.size ≤ k ∧ k < W.heap.size) B1 1 10 4 zX zX 0) : Calls Try.prog 20 #[.agg #[eU 4, eU 10, eU 1]] W fun e W' => ∃ B2 : Nat, e = .returned (.pointer (some ⟨B2, 0, none⟩)) ∧ Two w W' B1 B2 0 0 := by
  refine (ru_new 4 10 1 zX zX W (wI (by omega)) (wI (by omega)) (wI (by omega))).mono ?_
  rintro e W' ⟨h | ⟨h, _⟩, hb⟩
  · obtain ⟨_, B2, e1, e2⟩ := h
    have := T.size
    have := hb.size
    exact ⟨B2, e1, _, _, h1.below hb, e2, fun k _ _ => by omega, fun k hk => by omega, fun k hk => by omega, up T hb T.size⟩
  · exact absurd cvE2 h
end
theorem fieldRest (x y z : Int) (w : World) : (Instr.field 27 (.agg #[.int .u64 x, .int .u64 y, .int .u64 z]) 2).run Try.prog w = .ok (.int .u64 z) w := by rfl
set_option maxHeartbeats 8000000 in
theorem awake_any (w : World) : Calls Try.prog 17 #[] w fun e w' => e = .returned (.bool true) ∧ Below w.heap.size w w' := by
  have hN1 : ∀ w, Calls Try.prog 20 #[.agg #[eU 1, eU 10, eU 4]] w fun e w' => (∃ B : Nat, e = .returned (.pointer (some ⟨B, 0, none⟩)) ∧ Ru w' (fun k => w.heap.size ≤ k ∧ k < w'.heap.size) B 1 10 4 zX zX 0) ∧ Below w.heap.size w w' := fun w =>
    (ru_new 1 10 4 zX zX w (wI (by omega)) (wI (by omega)) (wI (by omega))).mono fun e w' ⟨h, hb⟩ => ⟨by
      rcases h with ⟨_, h⟩ | ⟨h, _⟩
      · exact h
      · exact absurd cvE1 h, hb⟩
  have hN3 : ∀ w, Calls Try.prog 20 #[.agg #[eU 1, eU 0, eU 0]] w fun e w' => e = .returned (.pointer none) ∧ Below w.heap.size w w' := fun w =>
    (ru_new 1 0 0 zX zX w (wI (by omega)) (wI (by omega)) (wI (by omega))).mono fun e w' ⟨h, hb⟩ => ⟨by
      rcases h with ⟨h, _⟩ | ⟨_, h⟩
      · exact absurd h cvE3
      · exact h, hb⟩
  have w0 : Word 0 := wI (by omega)
  have hR1 : ∀ W B1 B2, Two w W B1 B2 0 0 → Calls Try.prog 10 #[.pointer (some ⟨B1, 0, none⟩), eU 1] W fun e W' => e = .returned (eU 9223372036854775808) ∧ Two w W' B1 B2 0 0 := fun W B1 B2 h => h.c1 fun S g => by
    have := ru_reach0 S B1 1 W g
    rwa [if_neg (by omega)] at this
  have hR2 : ∀ W B1 B2, Two w W B1 B2 0 0 → Calls Try.prog 10 #[.pointer (some ⟨B1, 0, none⟩), eU 0] W fun e W' => e = .returned (eU 0) ∧ Two w W' B1 B2 0 0 := fun W B1 B2 h => h.c1 fun S g => by
    have := ru_reach0 S B1 0 W g
    rwa [if_pos rfl] at this
  have hS1 : ∀ W B1 B2, Two w W B1 B2 0 0 → Calls Try.prog 8 #[.pointer (some ⟨B1, 0, none⟩), eU 0, eU 0] W fun e W' => e = .returned (.tuple #[]) ∧ Two w W' B1 B2 1 0 := fun W B1 B2 h => h.start1 (by omega)
  have hS2 : ∀ W B1 B2, Two w W B1 B2 1 0 → Calls Try.prog 8 #[.pointer (some ⟨B2, 0, none⟩), eU 0, eU 0] W fun e W' => e = .returned (.tuple #[]) ∧ Two w W' B1 B2 1 1 := fun W B1 B2 h => h.start2 (by omega)
  have hA1 : ∀ W B1 B2, Two w W B1 B2 1 1 → Calls Try.prog 10 #[.pointer (some ⟨B1, 0, none⟩), eU 18] W fun e W' => e = .returned (eU 12) ∧ Two w W' B1 B2 1 1 := fun W B1 B2 h => h.c1 fun S g =>
    ru_reach zX_nn S B1 1 18 12 W (by omega) (by omega) (wI (by omega)) (z_rch (by omega) (by omega) (by omega) (by omega) (by decide) (by decide)) g
  have hA2 : ∀ W B1 B2, Two w W B1 B2 1 1 → Calls Try.prog 11 #[.pointer (some ⟨B1, 0, none⟩), eU 18] W fun e W' => e = .returned (eU 5) ∧ Two w W' B1 B2 1 1 := fun W B1 B2 h => h.c1 fun S g =>
    ru_eligible zX_nn S B1 1 18 5 W (by omega) (by omega) (wI (by omega)) (z_rch (by decide) (by omega) (by omega) (by omega) (by decide) (by decide)) g
  have hA3 : ∀ W B1 B2, Two w W B1 B2 1 1 → Calls Try.prog 13 #[.pointer (some ⟨B1, 0, none⟩), eU 12] W fun e W' => e = .returned (eU 18) ∧ Two w W' B1 B2 1 1 := fun W B1 B2 h => h.c1 fun S g =>
    ru_at zX_nn S B1 1 12 18 W (by omega) (by omega) (wI (by omega)) (lstB_ok (by decide)) g
  have hA4 : ∀ W B1 B2, Two w W B1 B2 1 1 → Calls Try.prog 14 #[.pointer (some ⟨B1, 0, none⟩), eU 4] W fun e W' => e = .returned (eU 16) ∧ Two w W' B1 B2 1 1 := fun W B1 B2 h => h.c1 fun S g =>
    ru_ahead zX_nn S B1 1 4 16 W (by omega) (by omega) (wI (by omega)) (lstB_ok (by decide)) g
  have hB1 : ∀ W B1 B2, Two w W B1 B2 1 1 → Calls Try.prog 10 #[.pointer (some ⟨B2, 0, none⟩), eU 18] W fun e W' => e = .returned (eU 5) ∧ Two w W' B1 B2 1 1 := fun W B1 B2 h => h.c2 fun S g =>
    ru_reach zX_nn S B2 1 18 5 W (by omega) (by omega) (wI (by omega)) (z_rch (by omega) (by omega) (by omega) (by omega) (by decide) (by decide)) g
  have hB2 : ∀ W B1 B2, Two w W B1 B2 1 1 → Calls Try.prog 11 #[.pointer (some ⟨B2, 0, none⟩), eU 18] W fun e W' => e = .returned (eU 5) ∧ Two w W' B1 B2 1 1 := fun W B1 B2 h => h.c2 fun S g =>
    ru_eligible zX_nn S B2 1 18 5 W (by omega) (by omega) (wI (by omega)) (z_rch (by decide) (by omega) (by omega) (by omega) (by decide) (by decide)) g
  have hB3 : ∀ W B1 B2, Two w W B1 B2 1 1 → Calls Try.prog 14 #[.pointer (some ⟨B2, 0, none⟩), eU 4] W fun e W' => e = .returned (eU 16) ∧ Two w W' B1 B2 1 1 := fun W B1 B2 h => h.c2 fun S g =>
    ru_ahead zX_nn S B2 1 4 16 W (by omega) (by omega) (wI (by omega)) (lstB_ok (by decide)) g
  have hM : ∀ W B1 B2, Two w W B1 B2 1 1 → Calls Try.prog 15 #[.pointer (some ⟨B1, 0, none⟩)] W fun e W' => e = .returned (eI 1) ∧ Two w W' B1 B2 1 1 := fun W B1 B2 h => h.c1 fun S g => quietly (ru_many S B1 1 W g)
  have hC : ∀ W B1 B2, Two w W B1 B2 1 1 → Calls Try.prog 12 #[.pointer (some ⟨B1, 0, none⟩)] W fun e W' => e = .returned (.agg #[eU 1, eU 10, eU 4]) ∧ Two w W' B1 B2 1 1 := fun W B1 B2 h => h.c1 fun S g => ru_curve S B1 1 W g
  have fr := fieldRest 1 10 4
  go_enter Try.func17, Try.ntmps17
  go_wp2_with (first
    | (go_at_call 20; (with_reducible refine (hN1 _).mono ?_); rintro e w1 ⟨⟨B1, rfl, h1⟩, T⟩)
    | (go_at_call 20; (with_reducible refine (Two.new T h1).mono ?_); rintro e w2 ⟨B2, rfl, D⟩; clear T h1)
    | (go_at_call 20; (with_reducible refine (hN3 _).mono ?_); rintro e w3 ⟨rfl, hb⟩; replace D := D.below hb; clear hb)
    | (go_at_call 10; (with_reducible refine (hR1 _ _ _ D).mono ?_); rintro e w4 ⟨rfl, D'⟩; clear D; have D := D'; clear D')
    | (go_at_call 10; (with_reducible refine (hR2 _ _ _ D).mono ?_); rintro e w5 ⟨rfl, D'⟩; clear D; have D := D'; clear D')
    | (go_at_call 8; (with_reducible refine (hS1 _ _ _ D).mono ?_); rintro e w6 ⟨rfl, D'⟩; clear D; have D := D'; clear D')
    | (go_at_call 8; (with_reducible refine (hS2 _ _ _ D).mono ?_); rintro e w7 ⟨rfl, D'⟩; clear D; have D := D'; clear D')
    | (go_at_call 10; (with_reducible refine (hA1 _ _ _ D).mono ?_); rintro e w8 ⟨rfl, D'⟩; clear D; have D := D'; clear D')
    | (go_at_call 11; (with_reducible refine (hA2 _ _ _ D).mono ?_); rintro e w9 ⟨rfl, D'⟩; clear D; have D := D'; clear D')
    | (go_at_call 13; (with_reducible refine (hA3 _ _ _ D).mono ?_); rintro e w10 ⟨rfl, D'⟩; clear D; have D := D'; clear D')
    | (go_at_call 14; (with_reducible refine (hA4 _ _ _ D).mono ?_); rintro e w11 ⟨rfl, D'⟩; clear D; have D := D'; clear D')
    | (go_at_call 10; (with_reducible refine (hB1 _ _ _ D).mono ?_); rintro e w12 ⟨rfl, D'⟩; clear D; have D := D'; clear D')
    | (go_at_call 11; (with_reducible refine (hB2 _ _ _ D).mono ?_); rintro e w13 ⟨rfl, D'⟩; clear D; have D := D'; clear D')
    | (go_at_call 14; (with_reducible refine (hB3 _ _ _ D).mono ?_); rintro e w14 ⟨rfl, D'⟩; clear D; have D := D'; clear D')
    | (go_at_call 15; (with_reducible refine (hM _ _ _ D).mono ?_); rintro e w15 ⟨rfl, D'⟩; clear D; have D := D'; clear D')
    | (go_at_call 12; (with_reducible refine (hC _ _ _ D).mono ?_); rintro e w16 ⟨rfl, D'⟩; clear D; have D := D'; clear D'))
  go_ret
  exact ⟨rfl, D.choose_spec.choose_spec.2.2.2.2.2⟩
end Go.Proofs.Ytejolaifdjcghaa
