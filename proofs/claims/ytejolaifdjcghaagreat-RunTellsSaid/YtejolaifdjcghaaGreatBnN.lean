/- A run of a bent curve is made. -/
import Derived.Test.YtejolaifdjcghaaGreatBnP
namespace Go.Proofs.YtejolaifdjcghaaGreat
open Go.RowKit Go.Shelf W
set_option linter.unusedVariables false
theorem Tri.one (w : World) (o : Obj) (x y z : Int) : Tri ((w.alloc (.cells #[.int .u64 x, .int .u64 y, .int .u64 z] 24)).alloc o).drew w.heap.size x y z := (Tri.new w x y z 24).alloc o
theorem Tri.two (w : World) (o : Obj) (x y z : Int) : Tri ((w.alloc o).alloc (.cells #[.int .u64 x, .int .u64 y, .int .u64 z] 24)).drew (w.heap.size + 1) x y z := by
  have h := Tri.new (w.alloc o) x y z 24
  rw [World.size_alloc] at h
  exact h
theorem mayB_cMayB {f l r : Int} : mayB f l r = true ↔ cMay f l r := by
  unfold mayB cMay
  rw [decide_eq_true_iff]
set_option maxRecDepth 100000 in
set_option maxHeartbeats 4000000 in
theorem bn_new_ok (f l r o : Int) (w : World)
    (hB : ∀ w, Calls Tryz.prog 29 #[.agg #[eU f, eU l, eU r]] w fun e w' => e = .returned (.tuple #[eU o, .bool true]) ∧ Below w.heap.size w w')
    (hM : ∀ w, Calls Tryz.prog 30 #[.agg #[eU f, eU l, eU r]] w fun e w' => e = .returned (.bool true) ∧ Below w.heap.size w w') :
    Calls Tryz.prog 10 #[.agg #[eU f, eU l, eU r]] w fun e w' => ∃ B : Nat, e = .returned (.tuple #[.pointer (some ⟨B, 0, none⟩), eI 0]) ∧ w.heap.size ≤ B ∧ Bn w' B 0 f 0 r o 0 0 ∧ Below w.heap.size w w' := by
  have BC := Box.new w 24 #[eU f, eU l, eU r]
  have T := up1 w (.cells #[eU f, eU l, eU r] 24)
  go_enter Tryz.func10, Tryz.ntmps10
  go_upto_region 4 with (first
    | (go_at_call 29; (with_reducible refine (hB _).mono ?_); rintro e w1 ⟨rfl, hb⟩; replace BC := BC.below hb; replace T := up T hb T.size; clear hb; obtain ⟨c0, c1, c2, c3⟩ := BC.tri)
    | (go_at_call 30; (with_reducible refine (hM _).mono ?_); rintro e w2 ⟨rfl, hb⟩; replace BC := BC.below hb; replace T := up T hb T.size; clear hb c0 c1 c2 c3; obtain ⟨c0, c1, c2, c3⟩ := BC.tri))
  have hs := T.size
  go_cut [6, 7] from 8 (fun s6 s7 wx => ∃ P Q : Nat, s6 = .pointer (some ⟨P, 0, none⟩) ∧ s7 = .pointer (some ⟨Q, 0, none⟩) ∧ Tri wx P 0 0 f ∧ Tri wx Q 0 0 r ∧ Below w.heap.size w wx)
  case first =>
    go_region
    all_goals go_wp2_with fail
    all_goals go_meet
    all_goals first
      | exact ⟨_, _, rfl, rfl, Tri.one _ _ _ _ _, Tri.two _ _ _ _ _, ((T.alloc hs _).alloc (by simp; omega) _).drew⟩
      | exact ⟨_, _, rfl, rfl, Tri.two _ _ _ _ _, Tri.one _ _ _ _ _, ((T.alloc hs _).alloc (by simp; omega) _).drew⟩
  case rest =>
    obtain ⟨P, Q, rfl, rfl, hP, hQ, T2⟩ := hcut
    obtain ⟨_, p0, p1, p2⟩ := hP
    obtain ⟨_, q0, q1, q2⟩ := hQ
    clear hB hM BC T c0 c1 c2 c3 hs
    have hz := T2.size
    go_wp2
    go_ret2
    exact ⟨_, rfl, hz, Bn.new _ _ _ _ _ _ _ _, T2.alloc hz _⟩
set_option maxHeartbeats 1000000 in
theorem bn_new_not (f l r o : Int) (w : World)
    (hB : ∀ w, Calls Tryz.prog 29 #[.agg #[eU f, eU l, eU r]] w fun e w' => e = .returned (.tuple #[eU o, .bool false]) ∧ Below w.heap.size w w') :
    Calls Tryz.prog 10 #[.agg #[eU f, eU l, eU r]] w fun e w' => e = .returned (.tuple #[.pointer none, eI 30]) ∧ Below w.heap.size w w' := by
  have BC := Box.new w 24 #[eU f, eU l, eU r]
  have T := up1 w (.cells #[eU f, eU l, eU r] 24)
  go_enter Tryz.func10, Tryz.ntmps10
  go_wp2_with (go_at_call 29; (with_reducible refine (hB _).mono ?_); rintro e w1 ⟨rfl, hb⟩; replace BC := BC.below hb; replace T := up T hb T.size; clear hb; obtain ⟨c0, c1, c2, c3⟩ := BC.tri)
  go_ret2
  exact ⟨rfl, T⟩
set_option maxHeartbeats 1000000 in
theorem bn_new_may (f l r o : Int) (w : World)
    (hB : ∀ w, Calls Tryz.prog 29 #[.agg #[eU f, eU l, eU r]] w fun e w' => e = .returned (.tuple #[eU o, .bool true]) ∧ Below w.heap.size w w')
    (hM : ∀ w, Calls Tryz.prog 30 #[.agg #[eU f, eU l, eU r]] w fun e w' => e = .returned (.bool false) ∧ Below w.heap.size w w') :
    Calls Tryz.prog 10 #[.agg #[eU f, eU l, eU r]] w fun e w' => e = .returned (.tuple #[.pointer none, eI 30]) ∧ Below w.heap.size w w' := by
  have BC := Box.new w 24 #[eU f, eU l, eU r]
  have T := up1 w (.cells #[eU f, eU l, eU r] 24)
  go_enter Tryz.func10, Tryz.ntmps10
  go_wp2_with (first
    | (go_at_call 29; (with_reducible refine (hB _).mono ?_); rintro e w1 ⟨rfl, hb⟩; replace BC := BC.below hb; replace T := up T hb T.size; clear hb; obtain ⟨c0, c1, c2, c3⟩ := BC.tri)
    | (go_at_call 30; (with_reducible refine (hM _).mono ?_); rintro e w2 ⟨rfl, hb⟩; replace BC := BC.below hb; replace T := up T hb T.size; clear hb c0 c1 c2 c3; obtain ⟨c0, c1, c2, c3⟩ := BC.tri))
  go_ret2
  exact ⟨rfl, T⟩
/-- Where a run may be made of a curve. -/
def CvB (f l r : Int) : Prop := Word f ∧ Word l ∧ Word r ∧ cMay f l r ∧ r < f
theorem bn_new_any (f l r : Int) (w : World) (hf : Word f) (hl : Word l) (hr : Word r) :
    Calls Tryz.prog 10 #[.agg #[eU f, eU l, eU r]] w fun e w' =>
      ((CvB f l r ∧ ∃ B : Nat, e = .returned (.tuple #[.pointer (some ⟨B, 0, none⟩), eI 0]) ∧ w.heap.size ≤ B ∧ Bn w' B 0 f 0 r ((f - r) * l) 0 0) ∨ (¬ CvB f l r ∧ e = .returned (.tuple #[.pointer none, eI 30]))) ∧ Below w.heap.size w w' := by
  have hB := fun w => burst_any f l r w hf hl hr
  have hM := fun w => may_any f l r w hf hl hr
  by_cases h : r < f
  · rw [show decide (r < f) = true from decide_eq_true h] at hB
    by_cases m : cMay f l r
    · rw [mayB_cMayB.2 m] at hM
      have hc : CvB f l r := ⟨hf, hl, hr, m, h⟩
      have e : buO f l r = (f - r) * l := by
        unfold buO
        rw [if_pos h]
        unfold rT
        obtain ⟨m1, m2, m3, _⟩ := m
        have := mul_le (show f - r ≤ 1048576 by have := hr.1; omega) m3 hl.1 (by omega)
        exact stp_lo (by omega)
      rw [e] at hB
      refine (bn_new_ok f l r _ w hB hM).mono ?_
      rintro e w' ⟨B, rfl, h1, h2, h3⟩
      exact ⟨.inl ⟨hc, B, rfl, h1, h2⟩, h3⟩
    · have m' : mayB f l r = false := by
        cases hh : mayB f l r
        · rfl
        · exact absurd (mayB_cMayB.1 hh) m
      rw [m'] at hM
      refine (bn_new_may f l r _ w hB hM).mono ?_
      rintro e w' ⟨rfl, h3⟩
      exact ⟨.inr ⟨fun hc => m hc.2.2.2.1, rfl⟩, h3⟩
  · rw [show decide (r < f) = false from decide_eq_false h] at hB
    refine (bn_new_not f l r _ w hB).mono ?_
    rintro e w' ⟨rfl, h3⟩
    exact ⟨.inr ⟨fun hc => h hc.2.2.2.2, rfl⟩, h3⟩
end Go.Proofs.YtejolaifdjcghaaGreat
