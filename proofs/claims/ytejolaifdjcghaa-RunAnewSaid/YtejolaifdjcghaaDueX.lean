/- Eligible is at most Reach; E is at least what the run has; both are reached, and not a tick ahead: the walk of the statement. -/
import Derived.Test.YtejolaifdjcghaaRuA
import Derived.Test.YtejolaifdjcghaaRuE
namespace Go.Proofs.Ytejolaifdjcghaa
open Go.RowKit Go.Shelf W
set_option linter.unusedVariables false
set_option maxRecDepth 100000
section
variable (f l r : Int) (a : Option Addr) (n c : Nat) (y t : Int) (w : World)
set_option maxHeartbeats 2000000 in
theorem due_no (hS : ∀ w', Below w.heap.size w w' → Calls Try.prog 18 #[.agg #[eU f, eU l, eU r], .slice a n c] w' fun e w'' => e = .returned (.pointer none) ∧ Below w'.heap.size w' w'') :
    Calls Try.prog 5 #[.agg #[eU f, eU l, eU r], .slice a n c, eU y, eU t] w fun e w' => e = .returned (.bool true) ∧ Below w.heap.size w w' := by
  have BC := Box.new w 27 #[eU f, eU l, eU r]
  have T := up1 w (.cells #[eU f, eU l, eU r] 27)
  go_enter Try.func5, Try.ntmps5
  go_wp2_with (first
    | (go_at_call 17; (with_reducible refine (awake_any _).mono ?_); rintro e w1 ⟨rfl, hb⟩; replace BC := BC.below hb; replace T := up T hb T.size; clear hb; obtain ⟨c0, c1, c2⟩ := BC.three)
    | (go_at_call 18; (with_reducible refine (hS _ T).mono ?_); rintro e w2 ⟨rfl, hb⟩; replace T := up T hb T.size; clear hb))
  go_ret
  exact ⟨rfl, T⟩
set_option maxHeartbeats 2000000 in
theorem due_out (hS : ∀ w', Below w.heap.size w w' → Calls Try.prog 18 #[.agg #[eU f, eU l, eU r], .slice a n c] w' fun e w'' => (∃ B : Nat, e = .returned (.pointer (some ⟨B, 0, none⟩))) ∧ Below w'.heap.size w' w'') (h : n = 0 ∨ (0 < n ∧ 4611686018427387904 ≤ t)) :
    Calls Try.prog 5 #[.agg #[eU f, eU l, eU r], .slice a n c, eU y, eU t] w fun e w' => e = .returned (.bool true) ∧ Below w.heap.size w w' := by
  have BC := Box.new w 27 #[eU f, eU l, eU r]
  have T := up1 w (.cells #[eU f, eU l, eU r] 27)
  rcases h with rfl | ⟨h1, h2⟩
  · go_enter Try.func5, Try.ntmps5
    go_wp2_with (first
      | (go_at_call 17; (with_reducible refine (awake_any _).mono ?_); rintro e w1 ⟨rfl, hb⟩; replace BC := BC.below hb; replace T := up T hb T.size; clear hb; obtain ⟨c0, c1, c2⟩ := BC.three)
      | (go_at_call 18; (with_reducible refine (hS _ T).mono ?_); rintro e w2 ⟨⟨B, rfl⟩, hb⟩; replace T := up T hb T.size; clear hb))
    go_ret
    exact ⟨rfl, T⟩
  · have hn : ((n : Int) == 0) = false := by simp only [beq_eq_false_iff_ne]; omega
    clear h1
    go_enter Try.func5, Try.ntmps5
    go_wp2_with (first
      | (go_at_call 17; (with_reducible refine (awake_any _).mono ?_); rintro e w1 ⟨rfl, hb⟩; replace BC := BC.below hb; replace T := up T hb T.size; clear hb; obtain ⟨c0, c1, c2⟩ := BC.three)
      | (go_at_call 18; (with_reducible refine (hS _ T).mono ?_); rintro e w2 ⟨⟨B, rfl⟩, hb⟩; replace T := up T hb T.size; clear hb))
    go_ret
    exact ⟨rfl, T⟩
set_option maxHeartbeats 4000000 in
theorem due_run (x v v1 a2 a3 u u1 b2 b3 p q : Int) (R : Nat → World → Prop) (hRb : ∀ B w w', R B w → Below w.heap.size w w' → R B w') (hn : ((n : Int) == 0) = false) (ht : ¬ (4611686018427387904 : Int) ≤ t)
    (hS : ∀ w', Below w.heap.size w w' → Calls Try.prog 18 #[.agg #[eU f, eU l, eU r], .slice a n c] w' fun e w'' => ∃ B : Nat, e = .returned (.pointer (some ⟨B, 0, none⟩)) ∧ R B w'' ∧ Below w'.heap.size w' w'')
    (hL : ∀ B w, R B w → Calls Try.prog 9 #[.pointer (some ⟨B, 0, none⟩)] w fun e w' => e = .returned (.tuple #[eU x, .bool true]) ∧ w = w')
    (hEl : ∀ B w, R B w → Calls Try.prog 11 #[.pointer (some ⟨B, 0, none⟩), eU y] w fun e w' => e = .returned (eU u) ∧ Below w.heap.size w w')
    (hRe : ∀ B w, R B w → Calls Try.prog 10 #[.pointer (some ⟨B, 0, none⟩), eU y] w fun e w' => e = .returned (eU v) ∧ Below w.heap.size w w')
    (hAh : ∀ B w, R B w → Calls Try.prog 14 #[.pointer (some ⟨B, 0, none⟩), eU t] w fun e w' => e = .returned (eU p) ∧ Below w.heap.size w w')
    (hAt : ∀ B w, R B w → Calls Try.prog 13 #[.pointer (some ⟨B, 0, none⟩), eU t] w fun e w' => e = .returned (eU q) ∧ Below w.heap.size w w')
    (hB2 : ∀ B w, R B w → Calls Try.prog 14 #[.pointer (some ⟨B, 0, none⟩), eU u] w fun e w' => e = .returned (eU b2) ∧ Below w.heap.size w w')
    (hu1 : IntKind.u64.wrap (u - 1) = u1)
    (hB3 : ∀ B w, R B w → Calls Try.prog 14 #[.pointer (some ⟨B, 0, none⟩), eU u1] w fun e w' => e = .returned (eU b3) ∧ Below w.heap.size w w')
    (hA2 : ∀ B w, R B w → Calls Try.prog 13 #[.pointer (some ⟨B, 0, none⟩), eU v] w fun e w' => e = .returned (eU a2) ∧ Below w.heap.size w w')
    (hv1 : IntKind.u64.wrap (v - 1) = v1)
    (hA3 : ∀ B w, R B w → Calls Try.prog 13 #[.pointer (some ⟨B, 0, none⟩), eU v1] w fun e w' => e = .returned (eU a3) ∧ Below w.heap.size w w')
    (huv : ¬ v < u) (hpq : ¬ p < q) (hvx : ¬ v < x) (g : u < 9223372036854775808 → ¬ b2 < y ∧ (x < u → ¬ y ≤ b3)) (h : v = 9223372036854775808 ∨ (v < 9223372036854775808 ∧ y ≤ a2 ∧ (v = x ∨ a3 < y))) :
    Calls Try.prog 5 #[.agg #[eU f, eU l, eU r], .slice a n c, eU y, eU t] w fun e w' => e = .returned (.bool true) ∧ Below w.heap.size w w' := by
  have BC := Box.new w 27 #[eU f, eU l, eU r]
  have T := up1 w (.cells #[eU f, eU l, eU r] 27)
  have gh := Lib.hid g
  have hh := Lib.hid h
  clear g h
  go_enter Try.func5, Try.ntmps5
  go_upto_region 10 with (first
    | (go_at_call 17; (with_reducible refine (awake_any _).mono ?_); rintro e w1 ⟨rfl, hb⟩; replace BC := BC.below hb; replace T := up T hb T.size; clear hb; obtain ⟨c0, c1, c2⟩ := BC.three)
    | (go_at_call 18; (with_reducible refine (hS _ T).mono ?_); rintro e w2 ⟨B, rfl, hR, hb⟩; replace T := up T hb T.size; clear hb)
    | (go_at_call 9; (with_reducible refine (hL _ _ hR).mono ?_); rintro e w3 ⟨rfl, rfl⟩)
    | (go_at_call 11; (with_reducible refine (hEl _ _ hR).mono ?_); rintro e w4 ⟨rfl, hb⟩; replace hR := hRb _ _ _ hR hb; replace T := up T hb T.size; clear hb)
    | (go_at_call 10; (with_reducible refine (hRe _ _ hR).mono ?_); rintro e w4 ⟨rfl, hb⟩; replace hR := hRb _ _ _ hR hb; replace T := up T hb T.size; clear hb)
    | (go_at_call 14; (with_reducible refine (hAh _ _ hR).mono ?_); rintro e w4 ⟨rfl, hb⟩; replace hR := hRb _ _ _ hR hb; replace T := up T hb T.size; clear hb)
    | (go_at_call 13; (with_reducible refine (hAt _ _ hR).mono ?_); rintro e w4 ⟨rfl, hb⟩; replace hR := hRb _ _ _ hR hb; replace T := up T hb T.size; clear hb))
  clear hS hL hEl hRe hAh hAt BC c0 c1 c2
  go_cut [79] (fun s79 wx => s79 = .bool false ∧ R B wx ∧ Below w.heap.size w wx)
  case first =>
    have g := gh.out
    clear gh hh hA2 hA3
    by_cases hu : u < 9223372036854775808
    · obtain ⟨g1, g2⟩ := g hu
      clear g
      by_cases hx : x < u
      · have g3 := g2 hx
        clear g2
        go_wp2_with (first
          | (go_at_call 14; (with_reducible refine (hB2 _ _ hR).mono ?_); rintro e w5 ⟨rfl, hb⟩; replace hR := hRb _ _ _ hR hb; replace T := up T hb T.size; clear hb)
          | (go_at_call 14; (with_reducible refine (hB3 _ _ hR).mono ?_); rintro e w6 ⟨rfl, hb⟩; replace hR := hRb _ _ _ hR hb; replace T := up T hb T.size; clear hb))
        all_goals go_meet
        all_goals exact ⟨by first | rfl | (simp; omega), hR, T⟩
      · clear g2
        go_wp2_with (go_at_call 14; (with_reducible refine (hB2 _ _ hR).mono ?_); rintro e w5 ⟨rfl, hb⟩; replace hR := hRb _ _ _ hR hb; replace T := up T hb T.size; clear hb)
        all_goals go_meet
        all_goals exact ⟨by first | rfl | (simp; omega), hR, T⟩
    · clear g
      go_wp2_with fail
      all_goals go_meet
      all_goals exact ⟨by first | rfl | (simp; omega), hR, T⟩
  case rest =>
    obtain ⟨rfl, hR, T⟩ := hcut
    have h := hh.out
    clear gh hh hB2 hB3 huv hpq hvx
    by_cases hv : v = 9223372036854775808
    · subst hv
      clear h
      go_wp2_with fail
      go_ret
      exact ⟨rfl, T⟩
    · have h2 : y ≤ a2 ∧ (v = x ∨ a3 < y) := by
        rcases h with h | ⟨_, h⟩
        · exact absurd h hv
        · exact h
      have n1 : (v == 9223372036854775808) = false := by simp only [beq_eq_false_iff_ne]; exact hv
      obtain ⟨q2, q4⟩ := h2
      clear h hv
      by_cases hx : v = x
      · subst hx
        clear q4
        go_wp2_with (go_at_call 13; (with_reducible refine (hA2 _ _ hR).mono ?_); rintro e w5 ⟨rfl, hb⟩; replace hR := hRb _ _ _ hR hb; replace T := up T hb T.size; clear hb)
        go_ret
        exact ⟨rfl, T⟩
      · have n4 : a3 < y := q4.resolve_left hx
        have n5 : (v == x) = false := by simp only [beq_eq_false_iff_ne]; exact hx
        clear q4 hx
        go_wp2_with (first
          | (go_at_call 13; (with_reducible refine (hA2 _ _ hR).mono ?_); rintro e w5 ⟨rfl, hb⟩; replace hR := hRb _ _ _ hR hb; replace T := up T hb T.size; clear hb)
          | (go_at_call 13; (with_reducible refine (hA3 _ _ hR).mono ?_); rintro e w6 ⟨rfl, hb⟩; replace hR := hRb _ _ _ hR hb; replace T := up T hb T.size; clear hb))
        go_ret
        exact ⟨rfl, T⟩
end
namespace W
theorem lst_all {F L R x t v y : Int} {A : List (Int × Int)} (h : IsLst (fun k => hv F L R k (max t x)) A v) (ht : x ≤ t) : (∀ k ∈ A, y ≤ stp (hv F L R k t)) ↔ y ≤ stp v := by
  obtain ⟨p1, c, hc, p2⟩ := h
  rw [show max t x = t by omega] at p1 p2
  constructor
  · intro q
    have p2 : hv F L R c t = v := p2
    rw [← p2]
    exact q c hc
  · intro q k hk
    exact Int.le_trans q (stp_mono (p1 k hk))
/-- What a tick that is told says of what is there then, and a tick ahead. -/
theorem IsRch.there {F L R y x m a2 : Int} {A : List (Int × Int)} (h : IsRch F L R y x A m) (hm : m < 9223372036854775808) (g : IsLst (fun k => hv F L R k (max m x)) A a2) : y ≤ stp a2 :=
  (lst_all g h.1).1 ((h.2.2 m h.1 hm).2 (Int.le_refl _))
theorem IsRch.ahead {F L R y x m a3 : Int} {A : List (Int × Int)} (h : IsRch F L R y x A m) (hx : x < m) (g : IsLst (fun k => hv F L R k (max (m - 1) x)) A a3) : stp a3 < y := by
  obtain ⟨h1, h2, h3⟩ := h
  have := mt (h3 (m - 1) (by omega) (by omega)).1 (by omega)
  have := mt (lst_all g (by omega)).2 this
  omega
/-- E is at least what the run has. -/
theorem lst_e {F L R x t p q : Int} {A : List (Int × Int)} (hL : 0 ≤ L) (hA : ∀ c ∈ A, c.1 ≤ x) (hp : IsLst (fun k => hv (eF F R) (eL F L R) R k (max t x)) A p) (hq : IsLst (fun k => hv F L R k (max t x)) A q) : stp q ≤ stp p := by
  obtain ⟨p1, c, hc, p2⟩ := hp
  obtain ⟨q1, _⟩ := hq
  have p2 : hv (eF F R) (eL F L R) R c (max t x) = p := p2
  have q1 : q ≤ hv F L R c (max t x) := q1 c hc
  have := run_e (F := F) (L := L) (R := R) (d := max t x - c.1) hL (by have := hA c hc; omega)
  refine stp_mono ?_
  unfold hv at *
  omega
theorem u64_back {n : Int} (h : 0 ≤ n ∧ n ≤ 9223372036854775808) : ∃ m, IntKind.u64.wrap (n - 1) = m ∧ Word m ∧ (0 < n → m = n - 1) := by
  rcases Int.lt_or_le 0 n with h0 | h0
  · exact ⟨_, u64_id (n - 1) ⟨by omega, by omega⟩, ⟨by omega, by omega⟩, fun _ => rfl⟩
  · obtain rfl : n = 0 := by omega
    exact ⟨18446744073709551615, by decide, ⟨by omega, by omega⟩, fun h => by omega⟩
theorem eF_word {F R : Int} (h : Word F) : Word (eF F R) := by unfold eF; split; exact h; exact ⟨by omega, by omega⟩
theorem eL_word {F L R : Int} (h : Word L) : Word (eL F L R) := by unfold eL; split; exact h; exact ⟨by omega, by omega⟩
end W
theorem RunDue_walk (f l r : Int) (a : Option Addr) (n c : Nat) (xs : Nat → Ac) (y t : Int) (w : World) (hf : Word f) (hl : Word l) (hr : Word r) (hI : IsAcs w a n c xs) (hw : ∀ i, (xs i).word) (hcm : c ≤ maxLen) (hnn : a = none → n = 0 ∧ c = 0) (hy : Word y) (ht : Word t) :
    Calls Try.prog 5 #[.agg #[eU f, eU l, eU r], .slice a n c, eU y, eU t] w fun e w' => e = .returned (.bool true) ∧ Below w.heap.size w w' := by
  have hS := fun w' (T : Below w.heap.size w w') => started_any f l r a n c xs w' hf hl hr hw (hI.below T)
  by_cases hc : CvR f l r ∧ n ≤ 40
  · have hS2 : ∀ w', Below w.heap.size w w' → Calls Try.prog 18 #[.agg #[eU f, eU l, eU r], .slice a n c] w' fun e w'' => ∃ B : Nat, e = .returned (.pointer (some ⟨B, 0, none⟩)) ∧ (∃ S, Ru w'' S B f l r (fun i => (xs i).x) (fun i => (xs i).y) n) ∧ Below w'.heap.size w' w'' := fun w' T => (hS w' T).mono fun e w'' h => by
      obtain ⟨h1, h2⟩ := h
      rcases h1 with ⟨_, B, e1, e3⟩ | ⟨h1, _⟩
      · exact ⟨B, e1, ⟨_, e3⟩, h2⟩
      · exact absurd hc h1
    by_cases hz : n = 0 ∨ (0 < n ∧ 4611686018427387904 ≤ t)
    · exact due_out f l r a n c y t w (fun w' T => (hS2 w' T).mono fun e w'' h => by obtain ⟨B, e1, _, h2⟩ := h; exact ⟨⟨B, e1⟩, h2⟩) hz
    · have hn : 0 < n := by omega
      have hn0 : ((n : Int) == 0) = false := by simp only [beq_eq_false_iff_ne]; omega
      have hY : ∀ k, 0 ≤ (xs k).y := fun k => (hw k).2.1.1
      obtain ⟨hcv, hn40⟩ := hc
      obtain ⟨_, _, _, hm⟩ := id hcv
      have hx0 := xS_nn (fun i => (xs i).x) n
      have hx1 := xS_never (fun i => (xs i).x) n
      have hlen : 0 < (allL (fun i => (xs i).x) (fun i => (xs i).y) n).length := by simp [allL]; exact hn
      have hall := W.allL_le (X := fun i => (xs i).x) (Y := fun i => (xs i).y) (n := n) hY
      obtain ⟨v, hv'⟩ := rch_ex (F := f) (L := l) (R := r) (y := y) hf hl hr hx1 _ hlen hall
      obtain ⟨u, hu'⟩ := rch_ex (F := eF f r) (L := eL f l r) (R := r) (y := y) (eF_word hf) (eL_word hl) hr hx1 _ hlen hall
      have huv : u ≤ v := due_num hl.1 (fun c hc => (hall c hc).2.1) hu' hv'
      have hA : ∀ t, Word t → ∃ z, IsLst (fun k => hv f l r k (max t (xS (fun i => (xs i).x) n))) (allL (fun i => (xs i).x) (fun i => (xs i).y) n) z ∧ ∀ (B : Nat) (w : World), (∃ S, Ru w S B f l r (fun i => (xs i).x) (fun i => (xs i).y) n) → Calls Try.prog 13 #[.pointer (some ⟨B, 0, none⟩), eU t] w fun e w' => e = .returned (eU (stp z)) ∧ Below w.heap.size w w' := fun t ht => by
        obtain ⟨z, hz⟩ := lst_ex (fun k => hv f l r k (max t (xS (fun i => (xs i).x) n))) hlen
        exact ⟨z, hz, fun B w ⟨S, h⟩ => ru_at hY S B n t z w hn (by omega) ht hz h⟩
      have hB : ∀ t, Word t → ∃ z, IsLst (fun k => hv (eF f r) (eL f l r) r k (max t (xS (fun i => (xs i).x) n))) (allL (fun i => (xs i).x) (fun i => (xs i).y) n) z ∧ ∀ (B : Nat) (w : World), (∃ S, Ru w S B f l r (fun i => (xs i).x) (fun i => (xs i).y) n) → Calls Try.prog 14 #[.pointer (some ⟨B, 0, none⟩), eU t] w fun e w' => e = .returned (eU (stp z)) ∧ Below w.heap.size w w' := fun t ht => by
        obtain ⟨z, hz⟩ := lst_ex (fun k => hv (eF f r) (eL f l r) r k (max t (xS (fun i => (xs i).x) n))) hlen
        exact ⟨z, hz, fun B w ⟨S, h⟩ => ru_ahead hY S B n t z w hn (by omega) ht hz h⟩
      have v0 := hv'.1; have v1 := hv'.2.1; have u0 := hu'.1; have u1 := hu'.2.1
      obtain ⟨vm, ev, wv, dv⟩ := u64_back (n := v) ⟨by omega, by omega⟩
      obtain ⟨um, eu, wu, du⟩ := u64_back (n := u) ⟨by omega, by omega⟩
      obtain ⟨p, lp, hp⟩ := hB t ht
      obtain ⟨q, lq, hq⟩ := hA t ht
      obtain ⟨a2, la2, ha2⟩ := hA v ⟨by omega, by omega⟩
      obtain ⟨a3, la3, ha3⟩ := hA vm wv
      obtain ⟨b2, lb2, hb2⟩ := hB u ⟨by omega, by omega⟩
      obtain ⟨b3, lb3, hb3⟩ := hB um wu
      have hpq := lst_e hl.1 (fun c hc => (hall c hc).2.1) lp lq
      refine due_run f l r a n c y t w (xS (fun i => (xs i).x) n) v vm (stp a2) (stp a3) u um (stp b2) (stp b3) (stp p) (stp q) (fun B w => ∃ S, Ru w S B f l r (fun i => (xs i).x) (fun i => (xs i).y) n) (fun B w w' ⟨S, h⟩ hb => ⟨S, h.below hb⟩) hn0 (by omega) hS2
        (fun B w ⟨S, h⟩ => ru_last S B n w hn h) (fun B w ⟨S, h⟩ => ru_eligible hY S B n y u w hn (by omega) hy hu' h) (fun B w ⟨S, h⟩ => ru_reach hY S B n y v w hn (by omega) hy hv' h)
        hp hq hb2 eu hb3 ha2 ev ha3 (by omega) (by omega) (by omega) (fun hu => ⟨?_, fun hxu => ?_⟩) ?_
      · have := hu'.there hu lb2
        omega
      · rw [du (by omega)] at lb3
        have := hu'.ahead hxu lb3
        omega
      · rcases Int.lt_or_le v 9223372036854775808 with h | h
        · refine .inr ⟨h, hv'.there h la2, ?_⟩
          rcases Int.lt_or_le (xS (fun i => (xs i).x) n) v with hx | hx
          · rw [dv (by omega)] at la3
            exact .inr (hv'.ahead hx la3)
          · exact .inl (by omega)
        · exact .inl (by omega)
  · exact due_no f l r a n c y t w fun w' T => (hS w' T).mono fun e w'' h => by
      obtain ⟨h1, h2⟩ := h
      rcases h1 with ⟨h1, _⟩ | ⟨_, h1⟩
      · exact absurd h1 hc
      · exact ⟨h1, h2⟩
end Go.Proofs.Ytejolaifdjcghaa
