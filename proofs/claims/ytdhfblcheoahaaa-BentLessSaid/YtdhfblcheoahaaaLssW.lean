/- Each copy more makes nothing more: the walk of the statement. -/
import Derived.Test.YtdhfblcheoahaaaShoW
import Derived.Test.YtdhfblcheoahaaaNonW
namespace Go.Proofs.Ytdhfblcheoahaaa
open Go.RowKit Go.Shelf W
set_option linter.unusedVariables false
set_option maxRecDepth 100000
/-- A thing at a block, which stays whatever happens elsewhere. -/
structure Ob (R : Nat → World → Prop) : Prop where
  lt : ∀ B w, R B w → B < w.heap.size
  but : ∀ B B' w w', R B w → But B' w w' → B ≠ B' → R B w'
  below : ∀ B w w', R B w → Below w.heap.size w w' → R B w'
theorem Rn.ob (f l r : Int) (X Y : Nat → Int) (n : Nat) : Ob (fun B w => Rn w B f l r X Y n) := ⟨fun B w h => Bn.lt h, fun B B' w w' h hb hne => h.but hb hne, fun B w w' h hb => h.below hb⟩
section
variable (f l r : Int) (a : Option Addr) (n c : Nat) (aX aY aT aN t : Int) (w : World)
set_option maxHeartbeats 1000000 in
theorem less_no (hS : ∀ w', Below w.heap.size w w' → Calls Try.prog 21 #[.agg #[eU f, eU l, eU r], .slice a n c] w' fun e w'' => e = .returned (.pointer none) ∧ Below w'.heap.size w' w'') :
    Calls Try.prog 6 #[.agg #[eU f, eU l, eU r], .slice a n c, .agg #[eU aX, eU aY, eU aT, eU aN], eU t] w fun e w' => e = .returned (.bool true) ∧ Below w.heap.size w w' := by
  have BC := (Box.new w 24 #[eU f, eU l, eU r]).alloc (.cells #[eU aX, eU aY, eU aT, eU aN] 36)
  have BA := Box.new (w.alloc (.cells #[eU f, eU l, eU r] 24)) 36 #[eU aX, eU aY, eU aT, eU aN]
  have T := up2 w (.cells #[eU f, eU l, eU r] 24) (.cells #[eU aX, eU aY, eU aT, eU aN] 36)
  simp only [World.size_alloc] at BA
  go_enter Try.func6, Try.ntmps6
  go_wp2_with (first
    | (go_at_call 20; (with_reducible refine (awake_any _).mono ?_); rintro e w1 ⟨rfl, hb⟩; replace BC := BC.below hb; replace BA := BA.below hb; replace T := up T hb T.size; clear hb; obtain ⟨c0, c1, c2, c3⟩ := BC.tri; obtain ⟨d0, d1, d2, d3⟩ := BA.four)
    | (go_at_call 21; (with_reducible refine (hS _ T).mono ?_); rintro e w2 ⟨rfl, hb⟩; replace T := up T hb T.size; clear hb))
  go_ret
  exact ⟨rfl, T⟩
set_option maxHeartbeats 1000000 in
theorem less_zero (hS : ∀ w', Below w.heap.size w w' → Calls Try.prog 21 #[.agg #[eU f, eU l, eU r], .slice a 0 c] w' fun e w'' => ∃ B : Nat, e = .returned (.pointer (some ⟨B, 0, none⟩)) ∧ Below w'.heap.size w' w'') :
    Calls Try.prog 6 #[.agg #[eU f, eU l, eU r], .slice a 0 c, .agg #[eU aX, eU aY, eU aT, eU aN], eU t] w fun e w' => e = .returned (.bool true) ∧ Below w.heap.size w w' := by
  have BC := (Box.new w 24 #[eU f, eU l, eU r]).alloc (.cells #[eU aX, eU aY, eU aT, eU aN] 36)
  have BA := Box.new (w.alloc (.cells #[eU f, eU l, eU r] 24)) 36 #[eU aX, eU aY, eU aT, eU aN]
  have T := up2 w (.cells #[eU f, eU l, eU r] 24) (.cells #[eU aX, eU aY, eU aT, eU aN] 36)
  simp only [World.size_alloc] at BA
  go_enter Try.func6, Try.ntmps6
  go_wp2_with (first
    | (go_at_call 20; (with_reducible refine (awake_any _).mono ?_); rintro e w1 ⟨rfl, hb⟩; replace BC := BC.below hb; replace BA := BA.below hb; replace T := up T hb T.size; clear hb; obtain ⟨c0, c1, c2, c3⟩ := BC.tri; obtain ⟨d0, d1, d2, d3⟩ := BA.four)
    | (go_at_call 21; (with_reducible refine (hS _ T).mono ?_); rintro e w2 ⟨B, rfl, hb⟩; replace T := up T hb T.size; clear hb))
  go_ret
  exact ⟨rfl, T⟩
set_option maxHeartbeats 1000000 in
theorem less_far (x : Int) (R0 : Nat → World → Prop) (o0 : Ob R0) (hn : ((n : Int) == 0) = false)
    (hS : ∀ w', Below w.heap.size w w' → Calls Try.prog 21 #[.agg #[eU f, eU l, eU r], .slice a n c] w' fun e w'' => ∃ B : Nat, e = .returned (.pointer (some ⟨B, 0, none⟩)) ∧ w'.heap.size ≤ B ∧ R0 B w'' ∧ Below w'.heap.size w' w'')
    (hL : ∀ B w, R0 B w → Calls Try.prog 15 #[.pointer (some ⟨B, 0, none⟩)] w fun e w' => e = .returned (.tuple #[eU x, .bool true]) ∧ w = w')
    (h : Hid ((4611686018427387904 : Int) ≤ aX ∨ (4611686018427387904 : Int) ≤ t)) :
    Calls Try.prog 6 #[.agg #[eU f, eU l, eU r], .slice a n c, .agg #[eU aX, eU aY, eU aT, eU aN], eU t] w fun e w' => e = .returned (.bool true) ∧ Below w.heap.size w w' := by
  have BC := (Box.new w 24 #[eU f, eU l, eU r]).alloc (.cells #[eU aX, eU aY, eU aT, eU aN] 36)
  have BA := Box.new (w.alloc (.cells #[eU f, eU l, eU r] 24)) 36 #[eU aX, eU aY, eU aT, eU aN]
  have T := up2 w (.cells #[eU f, eU l, eU r] 24) (.cells #[eU aX, eU aY, eU aT, eU aN] 36)
  simp only [World.size_alloc] at BA
  by_cases hx : (4611686018427387904 : Int) ≤ aX
  · go_enter Try.func6, Try.ntmps6
    go_wp2_with (first
    | (go_at_call 20; (with_reducible refine (awake_any _).mono ?_); rintro e w1 ⟨rfl, hb⟩; replace BC := BC.below hb; replace BA := BA.below hb; replace T := up T hb T.size; clear hb; obtain ⟨c0, c1, c2, c3⟩ := BC.tri; obtain ⟨d0, d1, d2, d3⟩ := BA.four)
    | (go_at_call 21; (with_reducible refine (hS _ T).mono ?_); rintro e w2 ⟨B, rfl, hB, h0, hb⟩; have k0 := Nat.lt_of_lt_of_le BA.lt hB; clear hB; replace BC := BC.below hb; replace BA := BA.below hb; replace T := up T hb T.size; clear hb c0 c1 c2 c3 d0 d1 d2 d3; obtain ⟨c0, c1, c2, c3⟩ := BC.tri; obtain ⟨d0, d1, d2, d3⟩ := BA.four)
    | (go_at_call 15; (with_reducible refine (hL _ _ h0).mono ?_); rintro e w3 ⟨rfl, rfl⟩))
    go_ret
    exact ⟨rfl, T⟩
  · have ht : (4611686018427387904 : Int) ≤ t := h.out.resolve_left hx
    have hx' : decide ((4611686018427387904 : Int) ≤ aX) = false := decide_eq_false hx
    go_enter Try.func6, Try.ntmps6
    go_wp2_with (first
    | (go_at_call 20; (with_reducible refine (awake_any _).mono ?_); rintro e w1 ⟨rfl, hb⟩; replace BC := BC.below hb; replace BA := BA.below hb; replace T := up T hb T.size; clear hb; obtain ⟨c0, c1, c2, c3⟩ := BC.tri; obtain ⟨d0, d1, d2, d3⟩ := BA.four)
    | (go_at_call 21; (with_reducible refine (hS _ T).mono ?_); rintro e w2 ⟨B, rfl, hB, h0, hb⟩; have k0 := Nat.lt_of_lt_of_le BA.lt hB; clear hB; replace BC := BC.below hb; replace BA := BA.below hb; replace T := up T hb T.size; clear hb c0 c1 c2 c3 d0 d1 d2 d3; obtain ⟨c0, c1, c2, c3⟩ := BC.tri; obtain ⟨d0, d1, d2, d3⟩ := BA.four)
    | (go_at_call 15; (with_reducible refine (hL _ _ h0).mono ?_); rintro e w3 ⟨rfl, rfl⟩))
    go_ret
    exact ⟨rfl, T⟩
set_option maxHeartbeats 8000000 in
theorem less_run (x X2 m a0 a1 a4 v k1 k2 : Int) (R0 R1 R2 R3 : Nat → World → Prop) (o0 : Ob R0) (o1 : Ob R1) (o2 : Ob R2) (o3 : Ob R3) (hn : ((n : Int) == 0) = false)
    (hX : decide ((4611686018427387904 : Int) ≤ aX) = false) (hT : decide ((4611686018427387904 : Int) ≤ t) = false) (hX2 : max aX x = X2) (hm : max t X2 = m) (hk : IntKind.i64.wrap (k1 + 1) = k2) (h10 : ¬ a0 < a1) (h40 : a4 ≤ a0)
    (hS : ∀ w', Below w.heap.size w w' → Calls Try.prog 21 #[.agg #[eU f, eU l, eU r], .slice a n c] w' fun e w'' => ∃ B : Nat, e = .returned (.pointer (some ⟨B, 0, none⟩)) ∧ w'.heap.size ≤ B ∧ R0 B w'' ∧ Below w'.heap.size w' w'')
    (hL : ∀ B w, R0 B w → Calls Try.prog 15 #[.pointer (some ⟨B, 0, none⟩)] w fun e w' => e = .returned (.tuple #[eU x, .bool true]) ∧ w = w')
    (hC0 : ∀ B w, R0 B w → Calls Try.prog 11 #[.pointer (some ⟨B, 0, none⟩)] w fun e w' => ∃ P : Nat, e = .returned (.pointer (some ⟨P, 0, none⟩)) ∧ w.heap.size ≤ P ∧ R0 P w' ∧ Below w.heap.size w w')
    (hC1 : ∀ B w, R1 B w → Calls Try.prog 11 #[.pointer (some ⟨B, 0, none⟩)] w fun e w' => ∃ P : Nat, e = .returned (.pointer (some ⟨P, 0, none⟩)) ∧ w.heap.size ≤ P ∧ R1 P w' ∧ Below w.heap.size w w')
    (hS1 : ∀ B w, R0 B w → Calls Try.prog 13 #[.pointer (some ⟨B, 0, none⟩), eU aX, eU aY] w fun e w' => e = .returned (.tuple #[]) ∧ R1 B w' ∧ But B w w')
    (hS2 : ∀ B w, R1 B w → Calls Try.prog 13 #[.pointer (some ⟨B, 0, none⟩), eU aX, eU aY] w fun e w' => e = .returned (.tuple #[]) ∧ R2 B w' ∧ But B w w')
    (hS3 : ∀ B w, R0 B w → Calls Try.prog 13 #[.pointer (some ⟨B, 0, none⟩), eU X2, eU v] w fun e w' => e = .returned (.tuple #[]) ∧ R3 B w' ∧ But B w w')
    (hA0 : ∀ B w, R0 B w → Calls Try.prog 18 #[.pointer (some ⟨B, 0, none⟩), eU m] w fun e w' => e = .returned (eU a0) ∧ Below w.heap.size w w')
    (hA1 : ∀ B w, R1 B w → Calls Try.prog 18 #[.pointer (some ⟨B, 0, none⟩), eU m] w fun e w' => e = .returned (eU a1) ∧ Below w.heap.size w w')
    (hA2 : ∀ B w, R2 B w → Calls Try.prog 18 #[.pointer (some ⟨B, 0, none⟩), eU m] w fun e w' => e = .returned (eU a1) ∧ Below w.heap.size w w')
    (hK1 : ∀ B w, R1 B w → Calls Try.prog 19 #[.pointer (some ⟨B, 0, none⟩)] w fun e w' => e = .returned (eI k1) ∧ w = w')
    (hK2 : ∀ B w, R2 B w → Calls Try.prog 19 #[.pointer (some ⟨B, 0, none⟩)] w fun e w' => e = .returned (eI k2) ∧ w = w')
    (hV : ∀ B w, R0 B w → Calls Try.prog 18 #[.pointer (some ⟨B, 0, none⟩), eU X2] w fun e w' => e = .returned (eU v) ∧ Below w.heap.size w w')
    (hA3 : ∀ B w, R3 B w → Calls Try.prog 18 #[.pointer (some ⟨B, 0, none⟩), eU X2] w fun e w' => e = .returned (eU v) ∧ Below w.heap.size w w')
    (hA4 : ∀ B w, R3 B w → Calls Try.prog 18 #[.pointer (some ⟨B, 0, none⟩), eU m] w fun e w' => e = .returned (eU a4) ∧ Below w.heap.size w w') :
    Calls Try.prog 6 #[.agg #[eU f, eU l, eU r], .slice a n c, .agg #[eU aX, eU aY, eU aT, eU aN], eU t] w fun e w' => e = .returned (.bool true) ∧ Below w.heap.size w w' := by
  have BC := (Box.new w 24 #[eU f, eU l, eU r]).alloc (.cells #[eU aX, eU aY, eU aT, eU aN] 36)
  have BA := Box.new (w.alloc (.cells #[eU f, eU l, eU r] 24)) 36 #[eU aX, eU aY, eU aT, eU aN]
  have T := up2 w (.cells #[eU f, eU l, eU r] 24) (.cells #[eU aX, eU aY, eU aT, eU aN] 36)
  simp only [World.size_alloc] at BA
  go_enter Try.func6, Try.ntmps6
  go_upto_region 17 with (first
    | (go_at_call 20; (with_reducible refine (awake_any _).mono ?_); rintro e w1 ⟨rfl, hb⟩; replace BC := BC.below hb; replace BA := BA.below hb; replace T := up T hb T.size; clear hb; obtain ⟨c0, c1, c2, c3⟩ := BC.tri; obtain ⟨d0, d1, d2, d3⟩ := BA.four)
    | (go_at_call 21; (with_reducible refine (hS _ T).mono ?_); rintro e w2 ⟨B, rfl, hB, h0, hb⟩; have k0 := Nat.lt_of_lt_of_le BA.lt hB; clear hB; replace BC := BC.below hb; replace BA := BA.below hb; replace T := up T hb T.size; clear hb c0 c1 c2 c3 d0 d1 d2 d3; obtain ⟨c0, c1, c2, c3⟩ := BC.tri; obtain ⟨d0, d1, d2, d3⟩ := BA.four)
    | (go_at_call 15; (with_reducible refine (hL _ _ h0).mono ?_); rintro e w3 ⟨rfl, rfl⟩)
    | (go_at_call 11; (with_reducible refine (hC0 _ _ h0).mono ?_); rintro e w11 ⟨P1, rfl, hP, g1, hb⟩; have l1 := Nat.lt_of_lt_of_le (o0.lt _ _ h0) hP; have kA1 := Nat.lt_of_lt_of_le BA.lt hP; have nA1 := Nat.ne_of_lt kA1; have nC1 := Nat.ne_of_lt (Nat.lt_trans (Nat.lt_succ_self _) kA1); have hW1 := Nat.le_of_lt (Nat.lt_trans (Nat.lt_succ_self _) kA1); clear hP; replace BC := BC.below hb; replace BA := BA.below hb; replace h0 := o0.below _ _ _ h0 hb; replace T := up T hb T.size; clear hb c0 c1 c2 c3 d0 d1 d2 d3; obtain ⟨c0, c1, c2, c3⟩ := BC.tri; obtain ⟨d0, d1, d2, d3⟩ := BA.four)
    | (go_at_call 13; (with_reducible refine (hS1 _ _ g1).mono ?_); rintro e w12 ⟨rfl, h1, hb⟩; replace BC := hb.box BC (nC1); replace BA := hb.box BA (nA1); replace h0 := o0.but _ _ _ _ h0 hb (Nat.ne_of_lt l1); replace T := hb.up T hW1; clear hb c0 c1 c2 c3 d0 d1 d2 d3; obtain ⟨c0, c1, c2, c3⟩ := BC.tri; obtain ⟨d0, d1, d2, d3⟩ := BA.four; clear g1)
    | (go_at_call 11; (with_reducible refine (hC1 _ _ h1).mono ?_); rintro e w13 ⟨P2, rfl, hP, g2, hb⟩; have l2 := Nat.lt_of_lt_of_le (o1.lt _ _ h1) hP; have l02 := Nat.lt_of_lt_of_le (o0.lt _ _ h0) hP; have kA2 := Nat.lt_of_lt_of_le BA.lt hP; have nA2 := Nat.ne_of_lt kA2; have nC2 := Nat.ne_of_lt (Nat.lt_trans (Nat.lt_succ_self _) kA2); have hW2 := Nat.le_of_lt (Nat.lt_trans (Nat.lt_succ_self _) kA2); clear hP; replace BC := BC.below hb; replace BA := BA.below hb; replace h0 := o0.below _ _ _ h0 hb; replace h1 := o1.below _ _ _ h1 hb; replace T := up T hb T.size; clear hb c0 c1 c2 c3 d0 d1 d2 d3; obtain ⟨c0, c1, c2, c3⟩ := BC.tri; obtain ⟨d0, d1, d2, d3⟩ := BA.four)
    | (go_at_call 13; (with_reducible refine (hS2 _ _ g2).mono ?_); rintro e w14 ⟨rfl, h2, hb⟩; replace BC := hb.box BC (nC2); replace BA := hb.box BA (nA2); replace h0 := o0.but _ _ _ _ h0 hb (Nat.ne_of_lt l02); replace h1 := o1.but _ _ _ _ h1 hb (Nat.ne_of_lt l2); replace T := hb.up T hW2; clear hb c0 c1 c2 c3 d0 d1 d2 d3; obtain ⟨c0, c1, c2, c3⟩ := BC.tri; obtain ⟨d0, d1, d2, d3⟩ := BA.four; clear g2)
    | (go_at_call 18; (with_reducible refine (hA1 _ _ h1).mono ?_); rintro e w15 ⟨rfl, hb⟩; replace BC := BC.below hb; replace BA := BA.below hb; replace h0 := o0.below _ _ _ h0 hb; replace h1 := o1.below _ _ _ h1 hb; replace h2 := o2.below _ _ _ h2 hb; replace T := up T hb T.size; clear hb c0 c1 c2 c3 d0 d1 d2 d3; obtain ⟨c0, c1, c2, c3⟩ := BC.tri; obtain ⟨d0, d1, d2, d3⟩ := BA.four)
    | (go_at_call 18; (with_reducible refine (hA0 _ _ h0).mono ?_); rintro e w16 ⟨rfl, hb⟩; replace BC := BC.below hb; replace BA := BA.below hb; replace h0 := o0.below _ _ _ h0 hb; replace h1 := o1.below _ _ _ h1 hb; replace h2 := o2.below _ _ _ h2 hb; replace T := up T hb T.size; clear hb c0 c1 c2 c3 d0 d1 d2 d3; obtain ⟨c0, c1, c2, c3⟩ := BC.tri; obtain ⟨d0, d1, d2, d3⟩ := BA.four)
    | (go_at_call 18; (with_reducible refine (hA2 _ _ h2).mono ?_); rintro e w17 ⟨rfl, hb⟩; replace BC := BC.below hb; replace BA := BA.below hb; replace h0 := o0.below _ _ _ h0 hb; replace h1 := o1.below _ _ _ h1 hb; replace h2 := o2.below _ _ _ h2 hb; replace T := up T hb T.size; clear hb c0 c1 c2 c3 d0 d1 d2 d3; obtain ⟨c0, c1, c2, c3⟩ := BC.tri; obtain ⟨d0, d1, d2, d3⟩ := BA.four)
    | (go_at_call 19; (with_reducible refine (hK2 _ _ h2).mono ?_); rintro e w18 ⟨rfl, rfl⟩)
    | (go_at_call 19; (with_reducible refine (hK1 _ _ h1).mono ?_); rintro e w19 ⟨rfl, rfl⟩))
  go_upto_region 19 with (first
    | (go_at_call 11; (with_reducible refine (hC0 _ _ h0).mono ?_); rintro e w20 ⟨P3, rfl, hP, g3, hb⟩; have l3 := Nat.lt_of_lt_of_le (o0.lt _ _ h0) hP; have l13 := Nat.lt_of_lt_of_le (o1.lt _ _ h1) hP; have l23 := Nat.lt_of_lt_of_le (o2.lt _ _ h2) hP; have kA3 := Nat.lt_of_lt_of_le BA.lt hP; have nA3 := Nat.ne_of_lt kA3; have nC3 := Nat.ne_of_lt (Nat.lt_trans (Nat.lt_succ_self _) kA3); have hW3 := Nat.le_of_lt (Nat.lt_trans (Nat.lt_succ_self _) kA3); clear hP; replace BC := BC.below hb; replace BA := BA.below hb; replace h0 := o0.below _ _ _ h0 hb; replace h1 := o1.below _ _ _ h1 hb; replace h2 := o2.below _ _ _ h2 hb; replace T := up T hb T.size; clear hb c0 c1 c2 c3 d0 d1 d2 d3; obtain ⟨c0, c1, c2, c3⟩ := BC.tri; obtain ⟨d0, d1, d2, d3⟩ := BA.four)
    | (go_at_call 18; (with_reducible refine (hV _ _ h0).mono ?_); rintro e w21 ⟨rfl, hb⟩; replace BC := BC.below hb; replace BA := BA.below hb; replace h0 := o0.below _ _ _ h0 hb; replace h1 := o1.below _ _ _ h1 hb; replace h2 := o2.below _ _ _ h2 hb; replace g3 := o0.below _ _ _ g3 hb; replace T := up T hb T.size; clear hb c0 c1 c2 c3 d0 d1 d2 d3; obtain ⟨c0, c1, c2, c3⟩ := BC.tri; obtain ⟨d0, d1, d2, d3⟩ := BA.four)
    | (go_at_call 13; (with_reducible refine (hS3 _ _ g3).mono ?_); rintro e w22 ⟨rfl, h3, hb⟩; replace BC := hb.box BC (nC3); replace BA := hb.box BA (nA3); replace h0 := o0.but _ _ _ _ h0 hb (Nat.ne_of_lt l3); replace h1 := o1.but _ _ _ _ h1 hb (Nat.ne_of_lt l13); replace h2 := o2.but _ _ _ _ h2 hb (Nat.ne_of_lt l23); replace T := hb.up T hW3; clear hb c0 c1 c2 c3 d0 d1 d2 d3; obtain ⟨c0, c1, c2, c3⟩ := BC.tri; obtain ⟨d0, d1, d2, d3⟩ := BA.four; clear g3))
  go_wp2_with (first
    | (go_at_call 18; (with_reducible refine (hA3 _ _ h3).mono ?_); rintro e w23 ⟨rfl, hb⟩; replace BC := BC.below hb; replace BA := BA.below hb; replace h0 := o0.below _ _ _ h0 hb; replace h1 := o1.below _ _ _ h1 hb; replace h2 := o2.below _ _ _ h2 hb; replace h3 := o3.below _ _ _ h3 hb; replace T := up T hb T.size; clear hb c0 c1 c2 c3 d0 d1 d2 d3; obtain ⟨c0, c1, c2, c3⟩ := BC.tri; obtain ⟨d0, d1, d2, d3⟩ := BA.four)
    | (go_at_call 18; (with_reducible refine (hV _ _ h0).mono ?_); rintro e w24 ⟨rfl, hb⟩; replace BC := BC.below hb; replace BA := BA.below hb; replace h0 := o0.below _ _ _ h0 hb; replace h1 := o1.below _ _ _ h1 hb; replace h2 := o2.below _ _ _ h2 hb; replace h3 := o3.below _ _ _ h3 hb; replace T := up T hb T.size; clear hb c0 c1 c2 c3 d0 d1 d2 d3; obtain ⟨c0, c1, c2, c3⟩ := BC.tri; obtain ⟨d0, d1, d2, d3⟩ := BA.four)
    | (go_at_call 18; (with_reducible refine (hA4 _ _ h3).mono ?_); rintro e w25 ⟨rfl, hb⟩; replace BC := BC.below hb; replace BA := BA.below hb; replace h0 := o0.below _ _ _ h0 hb; replace h1 := o1.below _ _ _ h1 hb; replace h2 := o2.below _ _ _ h2 hb; replace h3 := o3.below _ _ _ h3 hb; replace T := up T hb T.size; clear hb c0 c1 c2 c3 d0 d1 d2 d3; obtain ⟨c0, c1, c2, c3⟩ := BC.tri; obtain ⟨d0, d1, d2, d3⟩ := BA.four)
    | (go_at_call 18; (with_reducible refine (hA0 _ _ h0).mono ?_); rintro e w26 ⟨rfl, hb⟩; replace BC := BC.below hb; replace BA := BA.below hb; replace h0 := o0.below _ _ _ h0 hb; replace h1 := o1.below _ _ _ h1 hb; replace h2 := o2.below _ _ _ h2 hb; replace h3 := o3.below _ _ _ h3 hb; replace T := up T hb T.size; clear hb c0 c1 c2 c3 d0 d1 d2 d3; obtain ⟨c0, c1, c2, c3⟩ := BC.tri; obtain ⟨d0, d1, d2, d3⟩ := BA.four))
  go_ret
  exact ⟨rfl, T⟩
end
namespace W
theorem xS_congr {X X' : Nat → Int} : ∀ n, (∀ k, k < n → X k = X' k) → xS X n = xS X' n
  | 0, _ => rfl
  | n + 1, h => by rw [xS_succ, xS_succ, h n (by omega), xS_congr n (fun k hk => h k (by omega))]
theorem hS_congr {s o : Int} {X X' Y Y' : Nat → Int} : ∀ n, (∀ k, k < n → X k = X' k) → (∀ k, k < n → Y k = Y' k) → hS s o X Y n = hS s o X' Y' n
  | 0, _, _ => rfl
  | 1, h, g => by rw [hS_one, hS_one, g 0 (by omega)]
  | n + 2, h, g => by
    rw [hS_succ (k := n + 1) (by omega), hS_succ (k := n + 1) (by omega), hS_congr (n + 1) (fun k hk => h k (by omega)) (fun k hk => g k (by omega)), g (n + 1) (by omega), xS_congr (n + 1 + 1) (fun k hk => h k (by omega)), xS_congr (n + 1) (fun k hk => h k (by omega))]
/-- The starts, and others behind them. -/
def ext (X : Nat → Int) (n : Nat) (v : Int) (k : Nat) : Int := if k < n then X k else v
theorem ext_lt {X : Nat → Int} {n : Nat} {v : Int} {k : Nat} (h : k < n) : ext X n v k = X k := if_pos h
theorem ext_ge {X : Nat → Int} {n : Nat} {v : Int} {k : Nat} (h : n ≤ k) : ext X n v k = v := if_neg (by omega)
theorem step_le {p q p' q' F R d e : Int} (hF : 0 ≤ F) (hR : 0 ≤ R) (he : 0 ≤ e) (hp : p' ≤ stp (p + F * d)) (hq : q' ≤ stp (q + R * d)) : gA p' F q' R e ≤ gA p F q R (d + e) := by
  have mF := Int.mul_nonneg hF he
  have mR := Int.mul_nonneg hR he
  have h1 := stp_mono (show p' + F * e ≤ stp (p + F * d) + F * e by omega)
  have h2 := stp_mono (show q' + R * e ≤ stp (q + R * d) + R * e by omega)
  rw [stp_plus mF, Int.add_assoc, ← Int.mul_add] at h1
  rw [stp_plus mR, Int.add_assoc, ← Int.mul_add] at h2
  unfold gA
  omega
theorem on_same {p q F R d o : Int} (hp : 0 ≤ p) (hq : 0 ≤ q) (hF : 0 ≤ F) (hR : 0 ≤ R) (hd : 0 ≤ d) (ho : 0 ≤ o) :
    gA (min (stp (gA p F q R d + 0)) (stp (p + F * d))) F (min (stp (gA p F q R d + o)) (stp (q + R * d))) R 0 = gA p F q R d := by
  have h0 := gA_nn hp hF hq hR hd
  have h1 := gA_le p F q R d
  have h2 : gA p F q R d ≤ stp (p + F * d) := by unfold gA; omega
  have h3 : gA p F q R d ≤ stp (q + R * d) := by unfold gA; omega
  have h4 := stp_or (gA p F q R d + o)
  have e1 : stp (gA p F q R d + 0) = gA p F q R d := by rw [Int.add_zero]; exact stp_lo h1
  have e2 : min (stp (gA p F q R d + 0)) (stp (p + F * d)) = gA p F q R d := by omega
  rw [e2]
  show min (stp (gA p F q R d + F * 0)) (stp (min (stp (gA p F q R d + o)) (stp (q + R * d)) + R * 0)) = _
  rw [Int.mul_zero, Int.mul_zero, Int.add_zero, Int.add_zero, stp_lo h1]
  have h5 := stp_or (min (stp (gA p F q R d + o)) (stp (q + R * d)))
  omega
end W
theorem rn_congr {w : World} {B : Nat} {f l r : Int} {X X' Y Y' : Nat → Int} {n : Nat} (h : Rn w B f l r X Y n) (hX : ∀ k, k < n → X k = X' k) (hY : ∀ k, k < n → Y k = Y' k) : Rn w B f l r X' Y' n := by
  unfold Rn at h ⊢
  rwa [← hS_congr n hX hY, ← hS_congr n hX hY, ← xS_congr n hX]
theorem BentLess_walk (f l r : Int) (a : Option Addr) (n c : Nat) (xs : Nat → Ac) (aX aY aT aN t : Int) (w : World) (hf : Word f) (hl : Word l) (hr : Word r) (hI : IsAcs w a n c xs) (hw : ∀ i, (xs i).word) (hcm : c ≤ maxLen) (hnn : a = none → n = 0 ∧ c = 0)
    (haX : Word aX) (haY : Word aY) (haT : Word aT) (haN : Word aN) (ht : Word t) :
    Calls Try.prog 6 #[.agg #[eU f, eU l, eU r], .slice a n c, .agg #[eU aX, eU aY, eU aT, eU aN], eU t] w fun e w' => e = .returned (.bool true) ∧ Below w.heap.size w w' := by
  have hSt := fun w' (T : Below w.heap.size w w') => started_any f l r a n c xs w' hf hl hr hw (hI.below T)
  obtain ⟨X, hXd⟩ : ∃ X : Nat → Int, X = fun i => (xs i).x := ⟨_, rfl⟩
  obtain ⟨Y, hYd⟩ : ∃ Y : Nat → Int, Y = fun i => (xs i).y := ⟨_, rfl⟩
  rw [← hXd, ← hYd] at hSt
  have hXw : ∀ k, Word (X k) := fun k => by rw [hXd]; exact (hw k).1
  have hYw : ∀ k, Word (Y k) := fun k => by rw [hYd]; exact (hw k).2.1
  clear hXd hYd
  by_cases hc : CvB f l r ∧ n ≤ 40
  · have hS2 : ∀ w', Below w.heap.size w w' → Calls Try.prog 21 #[.agg #[eU f, eU l, eU r], .slice a n c] w' fun e w'' => ∃ B : Nat, e = .returned (.pointer (some ⟨B, 0, none⟩)) ∧ w'.heap.size ≤ B ∧ Rn w'' B f l r X Y n ∧ Below w'.heap.size w' w'' := fun w' T => (hSt w' T).mono fun e w'' h => by
      obtain ⟨h1, h2⟩ := h
      rcases h1 with ⟨_, B, e1, e2, e3⟩ | ⟨h1, _⟩
      · exact ⟨B, e1, e2, e3, h2⟩
      · exact absurd hc h1
    rcases Nat.eq_zero_or_pos n with rfl | hn
    · exact less_zero f l r a c aX aY aT aN t w fun w' T => (hS2 w' T).mono fun e w'' h => by obtain ⟨B, e1, _, _, h2⟩ := h; exact ⟨B, e1, h2⟩
    · have hLs : ∀ B w, Rn w B f l r X Y n → Calls Try.prog 15 #[.pointer (some ⟨B, 0, none⟩)] w fun e w' => e = .returned (.tuple #[eU (xS X n), .bool true]) ∧ w = w' := fun B w h => bn_last_any B _ _ _ _ _ _ _ w h (nat_zero hn)
      by_cases hfar : (4611686018427387904 : Int) ≤ aX ∨ (4611686018427387904 : Int) ≤ t
      · exact less_far f l r a n c aX aY aT aN t w _ _ (Rn.ob f l r X Y n) (nat_zero hn) hS2 hLs (Lib.hid hfar)
      · obtain ⟨l0, o0, o1, r0, rf, f1⟩ := hc.1.over
        have hY0 : ∀ k, 0 ≤ Y k := fun k => (hYw k).1
        have hx0 := xS_nn X n
        have hx1 := xS_never X n
        obtain ⟨aX0, aX1⟩ := haX
        obtain ⟨aY0, aY1⟩ := haY
        obtain ⟨t0, t1⟩ := ht
        obtain ⟨x, ex⟩ : ∃ x, x = xS X n := ⟨_, rfl⟩
        obtain ⟨p, ep⟩ : ∃ p, p = hS f 0 X Y n := ⟨_, rfl⟩
        obtain ⟨q, eq⟩ : ∃ q, q = hS r ((f - r) * l) X Y n := ⟨_, rfl⟩
        obtain ⟨o, eo⟩ : ∃ o, o = (f - r) * l := ⟨_, rfl⟩
        obtain ⟨p0, p1⟩ := hS_bounds (s := f) (o := 0) (X := X) (Y := Y) (by omega) (by omega) hY0 n
        obtain ⟨q0, q1⟩ := hS_bounds (s := r) (o := (f - r) * l) (X := X) (Y := Y) r0 (by omega) hY0 n
        rw [← ep] at p0 p1
        rw [← eq] at q0 q1
        have hA := fun (X Y : Nat → Int) (k : Nat) (hk : 0 < k) (hY : ∀ k, 0 ≤ Y k) t (ht : Word t) (B : Nat) w h => rn_at B f l r t X Y k w hc.1 hY hk ht h
        -- the copy more
        have c1 : ∀ k, k < n → X k = ext X n aX k := fun k hk => (ext_lt hk).symm
        have c2 : ∀ k, k < n → Y k = ext Y n aY k := fun k hk => (ext_lt hk).symm
        have w1 : ∀ k, 0 ≤ ext Y n aY k := fun k => by unfold ext; split; exact hY0 k; exact aY0
        have g1 : xS (ext X n aX) n = x := by rw [ex]; exact (xS_congr n c1).symm
        have g2 : xS (ext X n aX) (n + 1) = max aX x := by rw [xS_succ, g1, ext_ge (Nat.le_refl n)]; omega
        have g3 : xS (ext X n aX) (n + 1 + 1) = max aX x := by rw [xS_succ, g2, ext_ge (Nat.le_succ n)]; omega
        have g4 : ∀ s o, hS s o (ext X n aX) (ext Y n aY) n = hS s o X Y n := fun s o => (hS_congr n c1 c2).symm
        have g5 : ∀ s o, hS s o (ext X n aX) (ext Y n aY) (n + 1) = min (stp (aY + o)) (stp (hS s o X Y n + s * (max aX x - x))) := fun s o => by rw [hS_succ hn, g4, g2, g1, ext_ge (Nat.le_refl n)]
        have g6 : ∀ s o, 0 ≤ s → 0 ≤ o → hS s o (ext X n aX) (ext Y n aY) (n + 1 + 1) = hS s o (ext X n aX) (ext Y n aY) (n + 1) := fun s o hs ho => by
          rw [hS_succ (by omega), g3, g2, ext_ge (Nat.le_succ n), Int.sub_self, Int.mul_zero, Int.add_zero]
          have h1 := hS_bounds (X := ext X n aX) hs ho w1 (n + 1)
          rw [stp_lo h1.2, g5]
          have := stp_or (aY + o)
          omega
        -- the copy from what it has
        obtain ⟨v, ev⟩ : ∃ v, v = gA p f q r (max aX x - x) := ⟨_, rfl⟩
        have v0 : 0 ≤ v := by rw [ev]; exact gA_nn p0 (by omega) q0 r0 (by omega)
        have v1 : v ≤ 4611686018427387904 := by rw [ev]; exact gA_le _ _ _ _ _
        have d1 : ∀ k, k < n → X k = ext X n (max aX x) k := fun k hk => (ext_lt hk).symm
        have d2 : ∀ k, k < n → Y k = ext Y n v k := fun k hk => (ext_lt hk).symm
        have w3 : ∀ k, 0 ≤ ext Y n v k := fun k => by unfold ext; split; exact hY0 k; exact v0
        have m1 : xS (ext X n (max aX x)) n = x := by rw [ex]; exact (xS_congr n (by rw [← ex]; exact d1)).symm
        have m2 : xS (ext X n (max aX x)) (n + 1) = max aX x := by rw [xS_succ, m1, ext_ge (Nat.le_refl n)]; omega
        have m5 : ∀ s o, hS s o (ext X n (max aX x)) (ext Y n v) (n + 1) = min (stp (v + o)) (stp (hS s o X Y n + s * (max aX x - x))) := fun s o => by rw [hS_succ hn, (hS_congr n d1 d2).symm, m2, m1, ext_ge (Nat.le_refl n)]
        have hm0 : max aX x ≤ max t (max aX x) := by omega
        -- what they have
        have hA0 := hA X Y n hn hY0 (max t (max aX x)) ⟨by omega, by omega⟩
        have hV := hA X Y n hn hY0 (max aX x) ⟨by omega, by omega⟩
        have hA1 := hA (ext X n aX) (ext Y n aY) (n + 1) (by omega) w1 (max t (max aX x)) ⟨by omega, by omega⟩
        have hA2 := hA (ext X n aX) (ext Y n aY) (n + 1 + 1) (by omega) w1 (max t (max aX x)) ⟨by omega, by omega⟩
        have hA3 := hA (ext X n (max aX x)) (ext Y n v) (n + 1) (by omega) w3 (max aX x) ⟨by omega, by omega⟩
        have hA4 := hA (ext X n (max aX x)) (ext Y n v) (n + 1) (by omega) w3 (max t (max aX x)) ⟨by omega, by omega⟩
        rw [g3, g6 f 0 (by omega) (by omega), g6 r _ r0 (by omega), ← g2] at hA2
        unfold rA at hA0 hA1 hA2 hA3 hA4 hV
        rw [← ep, ← eq, ← ex] at hA0 hV
        rw [g2, g5, g5, ← ep, ← eq] at hA1 hA2
        rw [m2, m5, m5, ← ep, ← eq] at hA3 hA4
        rw [show max (max aX x) x = max aX x by omega, ← ev] at hV
        rw [show max (max t (max aX x)) x - x = (max aX x - x) + (max t (max aX x) - max aX x) by omega] at hA0
        rw [show max (max t (max aX x)) (max aX x) = max t (max aX x) by omega] at hA1 hA2 hA4
        rw [show max (max aX x) (max aX x) - max aX x = 0 by omega, show gA (min (stp (v + 0)) (stp (p + f * (max aX x - x)))) f (min (stp (v + (f - r) * l)) (stp (q + r * (max aX x - x)))) r 0 = v from by rw [ev]; exact on_same p0 q0 (by omega) r0 (by omega) (by omega)] at hA3
        have i1 := step_le (p := p) (q := q) (p' := min (stp (aY + 0)) (stp (p + f * (max aX x - x)))) (q' := min (stp (aY + (f - r) * l)) (stp (q + r * (max aX x - x)))) (F := f) (R := r) (d := max aX x - x) (e := max t (max aX x) - max aX x) (by omega) r0 (by omega) (by omega) (by omega)
        have i4 := step_le (p := p) (q := q) (p' := min (stp (v + 0)) (stp (p + f * (max aX x - x)))) (q' := min (stp (v + (f - r) * l)) (stp (q + r * (max aX x - x)))) (F := f) (R := r) (d := max aX x - x) (e := max t (max aX x) - max aX x) (by omega) r0 (by omega) (by omega) (by omega)
        have hX2 : max aX (xS X n) = max aX x := by rw [ex]
        have cp : ∀ X Y k B w, Rn w B f l r X Y k → Calls Try.prog 11 #[.pointer (some ⟨B, 0, none⟩)] w fun e w' => ∃ P : Nat, e = .returned (.pointer (some ⟨P, 0, none⟩)) ∧ w.heap.size ≤ P ∧ Rn w' P f l r X Y k ∧ Below w.heap.size w w' := fun X Y k B w h =>
          (bn_copy_any B _ _ _ _ _ _ _ w h).mono fun e w' g => by obtain ⟨e1, e2, e3⟩ := g; exact ⟨_, e1, Nat.le_refl _, e2, e3⟩
        have s1 : ∀ B w, Rn w B f l r X Y n → Calls Try.prog 13 #[.pointer (some ⟨B, 0, none⟩), eU aX, eU aY] w fun e w' => e = .returned (.tuple #[]) ∧ Rn w' B f l r (ext X n aX) (ext Y n aY) (n + 1) ∧ But B w w' := fun B w h => by
          have := rn_start B f l r (ext X n aX) (ext Y n aY) n w hc.1 w1 (by omega) (by rw [ext_ge (Nat.le_refl n)]; exact ⟨aX0, aX1⟩) (by rw [ext_ge (Nat.le_refl n)]; exact ⟨aY0, aY1⟩) (rn_congr h c1 c2)
          rwa [ext_ge (Nat.le_refl n), ext_ge (Nat.le_refl n)] at this
        have s2 : ∀ B w, Rn w B f l r (ext X n aX) (ext Y n aY) (n + 1) → Calls Try.prog 13 #[.pointer (some ⟨B, 0, none⟩), eU aX, eU aY] w fun e w' => e = .returned (.tuple #[]) ∧ Rn w' B f l r (ext X n aX) (ext Y n aY) (n + 1 + 1) ∧ But B w w' := fun B w h => by
          have := rn_start B f l r (ext X n aX) (ext Y n aY) (n + 1) w hc.1 w1 (by omega) (by rw [ext_ge (Nat.le_succ n)]; exact ⟨aX0, aX1⟩) (by rw [ext_ge (Nat.le_succ n)]; exact ⟨aY0, aY1⟩) h
          rwa [ext_ge (Nat.le_succ n), ext_ge (Nat.le_succ n)] at this
        have s3 : ∀ B w, Rn w B f l r X Y n → Calls Try.prog 13 #[.pointer (some ⟨B, 0, none⟩), eU (max aX x), eU v] w fun e w' => e = .returned (.tuple #[]) ∧ Rn w' B f l r (ext X n (max aX x)) (ext Y n v) (n + 1) ∧ But B w w' := fun B w h => by
          have := rn_start B f l r (ext X n (max aX x)) (ext Y n v) n w hc.1 w3 (by omega) (by rw [ext_ge (Nat.le_refl n)]; exact ⟨by omega, by omega⟩) (by rw [ext_ge (Nat.le_refl n)]; exact ⟨v0, by omega⟩) (rn_congr h d1 d2)
          rwa [ext_ge (Nat.le_refl n), ext_ge (Nat.le_refl n)] at this
        have hk : IntKind.i64.wrap (((n + 1 : Nat) : Int) + 1) = ((n + 1 + 1 : Nat) : Int) := by rw [i64_same _ ⟨by omega, by omega⟩]; omega
        exact less_run f l r a n c aX aY aT aN t w _ _ _ _ _ _ _ _ _ _ _ _ _ (Rn.ob f l r X Y n) (Rn.ob f l r (ext X n aX) (ext Y n aY) (n + 1)) (Rn.ob f l r (ext X n aX) (ext Y n aY) (n + 1 + 1)) (Rn.ob f l r (ext X n (max aX x)) (ext Y n v) (n + 1)) (nat_zero hn)
          (decide_eq_false (by omega)) (decide_eq_false (by omega)) hX2 rfl hk (Int.not_lt.2 i1) i4 hS2 hLs (cp _ _ _) (cp _ _ _) s1 s2 s3 hA0 hA1 hA2 (fun B w h => bn_starts_any B _ _ _ _ _ _ _ w h) (fun B w h => bn_starts_any B _ _ _ _ _ _ _ w h) hV hA3 hA4
  · exact less_no f l r a n c aX aY aT aN t w fun w' T => (hSt w' T).mono fun e w'' h => by
      obtain ⟨h1, h2⟩ := h
      rcases h1 with ⟨h1, _⟩ | ⟨_, h1⟩
      · exact absurd h1 hc
      · exact ⟨h1, h2⟩
end Go.Proofs.Ytdhfblcheoahaaa
