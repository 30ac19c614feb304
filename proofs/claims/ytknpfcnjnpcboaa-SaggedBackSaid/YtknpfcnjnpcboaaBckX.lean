/- At Reach of an amount a run has it, a tick ahead less, or that is the last start; and so of its line: the walk of the statement. -/
import Derived.Test.YtknpfcnjnpcboaaAwk
namespace Go.Proofs.Ytknpfcnjnpcboaa
open Go.RowKit Go.Shelf W
set_option linter.unusedVariables false
set_option maxRecDepth 100000
section
variable (f l r : Int) (a : Option Addr) (n c : Nat) (y : Int) (w : World)
set_option maxHeartbeats 1000000 in
theorem back_no (hS : ∀ w', Below w.heap.size w w' → Calls Try.prog 22 #[.agg #[eU f, eU l, eU r], .slice a n c] w' fun e w'' => e = .returned (.pointer none) ∧ Below w'.heap.size w' w'') :
    Calls Try.prog 7 #[.agg #[eU f, eU l, eU r], .slice a n c, eU y] w fun e w' => e = .returned (.bool true) ∧ Below w.heap.size w w' := by
  have BC := Box.new w 24 #[eU f, eU l, eU r]
  have T := up1 w (.cells #[eU f, eU l, eU r] 24)
  go_enter Try.func7, Try.ntmps7
  go_wp2_with (first
    | (go_at_call 21; (with_reducible refine (awake_any _).mono ?_); rintro e w1 ⟨rfl, hb⟩; replace BC := BC.below hb; replace T := up T hb T.size; clear hb; obtain ⟨c0, c1, c2⟩ := BC.three)
    | (go_at_call 22; (with_reducible refine (hS _ T).mono ?_); rintro e w2 ⟨rfl, hb⟩; replace T := up T hb T.size; clear hb))
  go_ret
  exact ⟨rfl, T⟩
set_option maxHeartbeats 1000000 in
theorem back_zero (hS : ∀ w', Below w.heap.size w w' → Calls Try.prog 22 #[.agg #[eU f, eU l, eU r], .slice a 0 c] w' fun e w'' => ∃ B : Nat, e = .returned (.pointer (some ⟨B, 0, none⟩)) ∧ Below w'.heap.size w' w'') :
    Calls Try.prog 7 #[.agg #[eU f, eU l, eU r], .slice a 0 c, eU y] w fun e w' => e = .returned (.bool true) ∧ Below w.heap.size w w' := by
  have BC := Box.new w 24 #[eU f, eU l, eU r]
  have T := up1 w (.cells #[eU f, eU l, eU r] 24)
  go_enter Try.func7, Try.ntmps7
  go_wp2_with (first
    | (go_at_call 21; (with_reducible refine (awake_any _).mono ?_); rintro e w1 ⟨rfl, hb⟩; replace BC := BC.below hb; replace T := up T hb T.size; clear hb; obtain ⟨c0, c1, c2⟩ := BC.three)
    | (go_at_call 22; (with_reducible refine (hS _ T).mono ?_); rintro e w2 ⟨B, rfl, hb⟩; replace T := up T hb T.size; clear hb))
  go_ret
  exact ⟨rfl, T⟩
/-- When something is reached, by what is there then and a tick ahead. -/
def Bk (x y v a1 a2 a3 : Int) : Prop := (v = 9223372036854775808 ∧ (x = 9223372036854775808 ∨ a1 < y)) ∨ (x ≤ v ∧ v < 9223372036854775808 ∧ y ≤ a2 ∧ (v = x ∨ a3 < y))
set_option maxHeartbeats 4000000 in
theorem back_run (x v v1 a1 a2 a3 u u1 b1 b2 b3 : Int) (R : Nat → World → Prop) (hRb : ∀ B w w', R B w → Below w.heap.size w w' → R B w') (hn : ((n : Int) == 0) = false)
    (hS : ∀ w', Below w.heap.size w w' → Calls Try.prog 22 #[.agg #[eU f, eU l, eU r], .slice a n c] w' fun e w'' => ∃ B : Nat, e = .returned (.pointer (some ⟨B, 0, none⟩)) ∧ R B w'' ∧ Below w'.heap.size w' w'')
    (hL : ∀ B w, R B w → Calls Try.prog 14 #[.pointer (some ⟨B, 0, none⟩)] w fun e w' => e = .returned (.tuple #[eU x, .bool true]) ∧ w = w')
    (hRe : ∀ B w, R B w → Calls Try.prog 15 #[.pointer (some ⟨B, 0, none⟩), eU y] w fun e w' => e = .returned (eU v) ∧ Below w.heap.size w w')
    (hAh : ∀ B w, R B w → Calls Try.prog 16 #[.pointer (some ⟨B, 0, none⟩), eU y] w fun e w' => e = .returned (eU u) ∧ Below w.heap.size w w')
    (hA1 : ∀ B w, R B w → Calls Try.prog 17 #[.pointer (some ⟨B, 0, none⟩), eU 9223372036854775807] w fun e w' => e = .returned (eU a1) ∧ Below w.heap.size w w')
    (hA2 : ∀ B w, R B w → Calls Try.prog 17 #[.pointer (some ⟨B, 0, none⟩), eU v] w fun e w' => e = .returned (eU a2) ∧ Below w.heap.size w w')
    (hv1 : IntKind.u64.wrap (v - 1) = v1)
    (hA3 : ∀ B w, R B w → Calls Try.prog 17 #[.pointer (some ⟨B, 0, none⟩), eU v1] w fun e w' => e = .returned (eU a3) ∧ Below w.heap.size w w')
    (hB1 : ∀ B w, R B w → Calls Try.prog 18 #[.pointer (some ⟨B, 0, none⟩), eU 9223372036854775807] w fun e w' => e = .returned (eU b1) ∧ Below w.heap.size w w')
    (hB2 : ∀ B w, R B w → Calls Try.prog 18 #[.pointer (some ⟨B, 0, none⟩), eU u] w fun e w' => e = .returned (eU b2) ∧ Below w.heap.size w w')
    (hu1 : IntKind.u64.wrap (u - 1) = u1)
    (hB3 : ∀ B w, R B w → Calls Try.prog 18 #[.pointer (some ⟨B, 0, none⟩), eU u1] w fun e w' => e = .returned (eU b3) ∧ Below w.heap.size w w')
    (huv : ¬ v < u) (h : Bk x y v a1 a2 a3) (g : Bk x y u b1 b2 b3) :
    Calls Try.prog 7 #[.agg #[eU f, eU l, eU r], .slice a n c, eU y] w fun e w' => e = .returned (.bool true) ∧ Below w.heap.size w w' := by
  have BC := Box.new w 24 #[eU f, eU l, eU r]
  have T := up1 w (.cells #[eU f, eU l, eU r] 24)
  go_enter Try.func7, Try.ntmps7
  go_upto_region 10 with (first
    | (go_at_call 21; (with_reducible refine (awake_any _).mono ?_); rintro e w1 ⟨rfl, hb⟩; replace BC := BC.below hb; replace T := up T hb T.size; clear hb; obtain ⟨c0, c1, c2⟩ := BC.three)
    | (go_at_call 22; (with_reducible refine (hS _ T).mono ?_); rintro e w2 ⟨B, rfl, hR, hb⟩; replace T := up T hb T.size; clear hb)
    | (go_at_call 14; (with_reducible refine (hL _ _ hR).mono ?_); rintro e w3 ⟨rfl, rfl⟩)
    | (go_at_call 15; (with_reducible refine (hRe _ _ hR).mono ?_); rintro e w4 ⟨rfl, hb⟩; replace hR := hRb _ _ _ hR hb; replace T := up T hb T.size; clear hb)
    | (go_at_call 16; (with_reducible refine (hAh _ _ hR).mono ?_); rintro e w4 ⟨rfl, hb⟩; replace hR := hRb _ _ _ hR hb; replace T := up T hb T.size; clear hb))
  clear hS hL hRe hAh BC
  go_cut [78] (fun s78 wx => s78 = .bool false ∧ R B wx ∧ Below w.heap.size w wx)
  case first =>
    have BB := h
    unfold Bk at BB
    clear hB1 hB2 hB3 g h
    by_cases hn0 : v = 9223372036854775808
    · subst hn0
      by_cases hx : x = 9223372036854775808
      · subst hx
        go_wp2_with fail
        all_goals go_meet
        all_goals exact ⟨by first | rfl | (simp; omega), hR, T⟩
      · have hx2 : x < 9223372036854775808 ∨ ¬ x < 9223372036854775808 := Int.lt_or_le _ _ |>.imp id (by omega)
        have q : ¬ y ≤ a1 := by omega
        clear BB
        rcases hx2 with hx2 | hx2
        · go_wp2_with (go_at_call 17; (with_reducible refine (hA1 _ _ hR).mono ?_); rintro e w5 ⟨rfl, hb⟩; replace hR := hRb _ _ _ hR hb; replace T := up T hb T.size; clear hb)
          all_goals go_meet
          all_goals exact ⟨by first | rfl | (simp; omega), hR, T⟩
        · go_wp2_with fail
          all_goals go_meet
          all_goals exact ⟨by first | rfl | (simp; omega), hR, T⟩
    · have BB2 : x ≤ v ∧ v < 9223372036854775808 ∧ y ≤ a2 ∧ (v = x ∨ a3 < y) := by
        rcases BB with ⟨h1, _⟩ | h1
        · exact absurd h1 hn0
        · exact h1
      clear BB
      obtain ⟨q1, q2, q3, q4⟩ := BB2
      have n1 : (v == 9223372036854775808) = false := by simp only [beq_eq_false_iff_ne]; exact hn0
      have n2 : ¬ v < x := by omega
      have n3 : ¬ a2 < y := by omega
      clear hn0 q1 q3
      by_cases hx : x < v
      · have n4 : ¬ y ≤ a3 := by rcases q4 with h | h <;> omega
        clear q4
        go_wp2_with (first
          | (go_at_call 17; (with_reducible refine (hA2 _ _ hR).mono ?_); rintro e w5 ⟨rfl, hb⟩; replace hR := hRb _ _ _ hR hb; replace T := up T hb T.size; clear hb)
          | (go_at_call 17; (with_reducible refine (hA3 _ _ hR).mono ?_); rintro e w6 ⟨rfl, hb⟩; replace hR := hRb _ _ _ hR hb; replace T := up T hb T.size; clear hb))
        all_goals go_meet
        all_goals exact ⟨by first | rfl | (simp; omega), hR, T⟩
      · clear q4
        go_wp2_with (go_at_call 17; (with_reducible refine (hA2 _ _ hR).mono ?_); rintro e w5 ⟨rfl, hb⟩; replace hR := hRb _ _ _ hR hb; replace T := up T hb T.size; clear hb)
        all_goals go_meet
        all_goals exact ⟨by first | rfl | (simp; omega), hR, T⟩
  case rest =>
    obtain ⟨rfl, hR, T⟩ := hcut
    have BB := g
    unfold Bk at BB
    clear hA1 hA2 hA3 g h huv
    by_cases hn0 : u = 9223372036854775808
    · subst hn0
      by_cases hx : x = 9223372036854775808
      · subst hx
        go_wp2_with fail
        go_ret
        exact ⟨rfl, T⟩
      · have hx' : (x == 9223372036854775808) = false := by simp only [beq_eq_false_iff_ne]; exact hx
        have q : b1 < y := by omega
        clear BB hx
        go_wp2_with (go_at_call 18; (with_reducible refine (hB1 _ _ hR).mono ?_); rintro e w5 ⟨rfl, hb⟩; replace hR := hRb _ _ _ hR hb; replace T := up T hb T.size; clear hb)
        go_ret
        exact ⟨rfl, T⟩
    · have BB2 : x ≤ u ∧ u < 9223372036854775808 ∧ y ≤ b2 ∧ (u = x ∨ b3 < y) := by
        rcases BB with ⟨h1, _⟩ | h1
        · exact absurd h1 hn0
        · exact h1
      clear BB
      obtain ⟨q1, q2, q3, q4⟩ := BB2
      have n1 : (u == 9223372036854775808) = false := by simp only [beq_eq_false_iff_ne]; exact hn0
      clear hn0
      by_cases hx : u = x
      · subst hx
        clear q4
        go_wp2_with (go_at_call 18; (with_reducible refine (hB2 _ _ hR).mono ?_); rintro e w5 ⟨rfl, hb⟩; replace hR := hRb _ _ _ hR hb; replace T := up T hb T.size; clear hb)
        go_ret
        exact ⟨rfl, T⟩
      · have n4 : b3 < y := q4.resolve_left hx
        have n5 : (u == x) = false := by simp only [beq_eq_false_iff_ne]; exact hx
        clear q4 hx
        go_wp2_with (first
          | (go_at_call 18; (with_reducible refine (hB2 _ _ hR).mono ?_); rintro e w5 ⟨rfl, hb⟩; replace hR := hRb _ _ _ hR hb; replace T := up T hb T.size; clear hb)
          | (go_at_call 18; (with_reducible refine (hB3 _ _ hR).mono ?_); rintro e w6 ⟨rfl, hb⟩; replace hR := hRb _ _ _ hR hb; replace T := up T hb T.size; clear hb))
        go_ret
        exact ⟨rfl, T⟩
end
namespace W
/-- What a tick that is told says of what is there then, and a tick ahead. -/
theorem IsRch.bk {F L R y x m a1 a2 a3 : Int} {A : List (Int × Int)} (h : IsRch F L R y x A m) (g1 : IsLst (fun k => hv F L R k (max 9223372036854775807 x)) A a1) (g2 : IsLst (fun k => hv F L R k (max m x)) A a2) (g3 : IsLst (fun k => hv F L R k (max (m - 1) x)) A a3) (hx : x ≤ 9223372036854775808) :
    Bk x y m (stp a1) (stp a2) (stp a3) := by
  obtain ⟨h1, h2, h3⟩ := h
  have all : ∀ {t v : Int}, IsLst (fun k => hv F L R k t) A v → ((∀ k ∈ A, y ≤ stp (hv F L R k t)) ↔ y ≤ stp v) := fun {t v} ⟨p1, c, hc, p2⟩ => by
    constructor
    · intro q
      have p2 : hv F L R c t = v := p2
      rw [← p2]
      exact q c hc
    · intro q k hk
      exact Int.le_trans q (stp_mono (p1 k hk))
  unfold Bk
  rcases Int.lt_or_le m 9223372036854775808 with hm | hm
  · right
    rw [show max m x = m by omega] at g2
    refine ⟨h1, hm, (all g2).1 ((h3 m h1 hm).2 (Int.le_refl _)), ?_⟩
    rcases Int.lt_or_le x m with hxm | hxm
    · right
      rw [show max (m - 1) x = m - 1 by omega] at g3
      have q := mt (all g3).2 (mt (h3 (m - 1) (by omega) (by omega)).1 (by omega))
      omega
    · left; omega
  · left
    refine ⟨by omega, ?_⟩
    rcases Int.lt_or_le x 9223372036854775808 with hx2 | hx2
    · right
      rw [show max 9223372036854775807 x = 9223372036854775807 by omega] at g1
      have q := mt (all g1).2 (mt (h3 9223372036854775807 (by omega) (by omega)).1 (by omega))
      omega
    · left; omega
end W
theorem u64_back {n : Int} (h : 0 ≤ n ∧ n ≤ 9223372036854775808) : ∃ m, IntKind.u64.wrap (n - 1) = m ∧ Word m ∧ (0 < n → m = n - 1) := by
  rcases Int.lt_or_le 0 n with h0 | h0
  · exact ⟨_, u64_id (n - 1) ⟨by omega, by omega⟩, ⟨by omega, by omega⟩, fun _ => rfl⟩
  · obtain rfl : n = 0 := by omega
    exact ⟨18446744073709551615, by decide, ⟨by omega, by omega⟩, fun h => by omega⟩
theorem SaggedBack_walk (f l r : Int) (a : Option Addr) (n c : Nat) (xs : Nat → Ac) (y : Int) (w : World) (hf : Word f) (hl : Word l) (hr : Word r) (hI : IsAcs w a n c xs) (hw : ∀ i, (xs i).word) (hcm : c ≤ maxLen) (hnn : a = none → n = 0 ∧ c = 0) (hy : Word y) :
    Calls Try.prog 7 #[.agg #[eU f, eU l, eU r], .slice a n c, eU y] w fun e w' => e = .returned (.bool true) ∧ Below w.heap.size w w' := by
  have hS := fun w' (T : Below w.heap.size w w') => started_any f l r a n c xs w' hf hl hr hw (hI.below T)
  by_cases hc : CvS f l r ∧ n ≤ 40
  · have hS2 : ∀ w', Below w.heap.size w w' → Calls Try.prog 22 #[.agg #[eU f, eU l, eU r], .slice a n c] w' fun e w'' => ∃ B : Nat, e = .returned (.pointer (some ⟨B, 0, none⟩)) ∧ (∃ m K, Rg w'' m B f l r (fun i => (xs i).x) (fun i => (xs i).y) n K) ∧ Below w'.heap.size w' w'' := fun w' T => (hS w' T).mono fun e w'' h => by
      obtain ⟨h1, h2⟩ := h
      rcases h1 with ⟨_, B, K, e1, e2, e3⟩ | ⟨h1, _⟩
      · exact ⟨B, e1, ⟨_, K, e3⟩, h2⟩
      · exact absurd hc h1
    rcases Nat.eq_zero_or_pos n with rfl | hn
    · exact back_zero f l r a c y w fun w' T => (hS2 w' T).mono fun e w'' h => by obtain ⟨B, e1, _, h2⟩ := h; exact ⟨B, e1, h2⟩
    · have hn0 : ((n : Int) == 0) = false := by simp only [beq_eq_false_iff_ne]; omega
      have hY : ∀ k, 0 ≤ (xs k).y := fun k => (hw k).2.1.1
      obtain ⟨hcv, hn40⟩ := hc
      obtain ⟨_, _, _, hm, hfr⟩ := id hcv
      have z0 : Word 0 := ⟨by omega, by omega⟩
      have hx0 := xS_nn (fun i => (xs i).x) n
      have hx1 := xS_never (fun i => (xs i).x) n
      have hlen : 0 < (allL (fun i => (xs i).x) (fun i => (xs i).y) n).length := by simp [allL]; exact hn
      have hall := allL_le (X := fun i => (xs i).x) (Y := fun i => (xs i).y) (n := n) hY
      obtain ⟨v, hv'⟩ := rch_ex (F := f) (L := l) (R := r) (y := y) hf hl hr hx1 _ hlen hall
      obtain ⟨u, hu'⟩ := rch_ex (F := 0) (L := 0) (R := r) (y := y) z0 z0 hr hx1 _ hlen hall
      have huv : u ≤ v := by
        rcases Int.lt_or_le v 9223372036854775808 with h | h
        · refine (hu'.2.2 v hv'.1 h).1 fun k hk => ?_
          have h1 := (hv'.2.2 v hv'.1 h).2 (Int.le_refl _) k hk
          have hk1 := (hall k hk).2.1
          have hvx := hv'.1
          have h2 := stp_mono (hv_le_lv (F := f) (L := l) (R := r) hl.1 hfr (show k.1 ≤ v by omega))
          rw [hv_straight (by omega)]
          omega
        · have := hu'.2.1; omega
      have hA : ∀ t, Word t → ∃ z, IsLst (fun k => hv f l r k (max t (xS (fun i => (xs i).x) n))) (allL (fun i => (xs i).x) (fun i => (xs i).y) n) z ∧ ∀ (B : Nat) (w : World), (∃ m K, Rg w m B f l r (fun i => (xs i).x) (fun i => (xs i).y) n K) → Calls Try.prog 17 #[.pointer (some ⟨B, 0, none⟩), eU t] w fun e w' => e = .returned (eU (stp z)) ∧ Below w.heap.size w w' := fun t ht => by
        obtain ⟨z, hz⟩ := lst_ex (fun k => hv f l r k (max t (xS (fun i => (xs i).x) n))) hlen
        exact ⟨z, hz, fun B w ⟨m, K, h⟩ => rg_at hcv hY m B n K t z w hn (by omega) ht hz h⟩
      have hB : ∀ t, Word t → ∃ z, IsLst (fun k => hv 0 0 r k (max t (xS (fun i => (xs i).x) n))) (allL (fun i => (xs i).x) (fun i => (xs i).y) n) z ∧ ∀ (B : Nat) (w : World), (∃ m K, Rg w m B f l r (fun i => (xs i).x) (fun i => (xs i).y) n K) → Calls Try.prog 18 #[.pointer (some ⟨B, 0, none⟩), eU t] w fun e w' => e = .returned (eU (stp z)) ∧ Below w.heap.size w w' := fun t ht => by
        obtain ⟨z, hz⟩ := lst_ex (fun k => hv 0 0 r k (max t (xS (fun i => (xs i).x) n))) hlen
        exact ⟨z, hz, fun B w ⟨m, K, h⟩ => rg_line hcv hY m B n K t z w hn (by omega) ht hz h⟩
      have v0 := hv'.1; have v1 := hv'.2.1; have u0 := hu'.1; have u1 := hu'.2.1
      obtain ⟨vm, ev, wv, dv⟩ := u64_back (n := v) ⟨by omega, by omega⟩
      obtain ⟨um, eu, wu, du⟩ := u64_back (n := u) ⟨by omega, by omega⟩
      have nw : Word 9223372036854775807 := ⟨by omega, by omega⟩
      obtain ⟨a1, la1, ha1⟩ := hA _ nw
      obtain ⟨a2, la2, ha2⟩ := hA v ⟨by omega, by omega⟩
      obtain ⟨a3, la3, ha3⟩ := hA vm wv
      obtain ⟨b1, lb1, hb1⟩ := hB _ nw
      obtain ⟨b2, lb2, hb2⟩ := hB u ⟨by omega, by omega⟩
      obtain ⟨b3, lb3, hb3⟩ := hB um wu
      have bk1 : Bk (xS (fun i => (xs i).x) n) y v (stp a1) (stp a2) (stp a3) := by
        rcases Int.lt_or_le 0 v with h0 | h0
        · rw [dv h0] at la3
          exact hv'.bk la1 la2 la3 hx1
        · obtain ⟨z, lz, _⟩ := hA 0 z0
          have e : v = xS (fun i => (xs i).x) n := by omega
          obtain ⟨q, lq⟩ := lst_ex (fun k => hv f l r k (max (v - 1) (xS (fun i => (xs i).x) n))) hlen
          rcases hv'.bk la1 la2 lq hx1 with h | ⟨h1, h2, h3, _⟩
          · exact .inl h
          · exact .inr ⟨h1, h2, h3, .inl e⟩
      have bk2 : Bk (xS (fun i => (xs i).x) n) y u (stp b1) (stp b2) (stp b3) := by
        rcases Int.lt_or_le 0 u with h0 | h0
        · rw [du h0] at lb3
          exact hu'.bk lb1 lb2 lb3 hx1
        · have e : u = xS (fun i => (xs i).x) n := by omega
          obtain ⟨q, lq⟩ := lst_ex (fun k => hv 0 0 r k (max (u - 1) (xS (fun i => (xs i).x) n))) hlen
          rcases hu'.bk lb1 lb2 lq hx1 with h | ⟨h1, h2, h3, _⟩
          · exact .inl h
          · exact .inr ⟨h1, h2, h3, .inl e⟩
      exact back_run f l r a n c y w _ v vm _ _ _ u um _ _ _ (fun B w => ∃ m K, Rg w m B f l r (fun i => (xs i).x) (fun i => (xs i).y) n K) (fun B w w' ⟨m, K, h⟩ hb => ⟨m, K, h.below hb⟩) hn0 hS2
        (fun B w ⟨m, K, h⟩ => rg_last m B n K w hn h) (fun B w ⟨m, K, h⟩ => rg_reach hcv hY m B n K y v w hn (by omega) hy hv' h) (fun B w ⟨m, K, h⟩ => rg_ahead hcv hY m B n K y u w hn (by omega) hy hu' h)
        ha1 ha2 ev ha3 hb1 hb2 eu hb3 (by omega) bk1 bk2
  · exact back_no f l r a n c y w fun w' T => (hS w' T).mono fun e w'' h => by
      obtain ⟨h1, h2⟩ := h
      rcases h1 with ⟨h1, _⟩ | ⟨_, h1⟩
      · exact absurd h1 hc
      · exact ⟨h1, h2⟩
end Go.Proofs.Ytknpfcnjnpcboaa
