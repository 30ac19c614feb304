/- The line of a run is at least what the run has, and by at most so much more: the walk of the statement. -/
import Derived.Test.YtknpfcnjnpcboaaAwk
namespace Go.Proofs.Ytknpfcnjnpcboaa
open Go.RowKit Go.Shelf W
set_option linter.unusedVariables false
set_option maxRecDepth 100000
section
variable (f l r : Int) (a : Option Addr) (n c : Nat) (t : Int) (w : World)
set_option maxHeartbeats 1000000 in
theorem above_no (hS : ∀ w', Below w.heap.size w w' → Calls Try.prog 22 #[.agg #[eU f, eU l, eU r], .slice a n c] w' fun e w'' => e = .returned (.pointer none) ∧ Below w'.heap.size w' w'') :
    Calls Try.prog 6 #[.agg #[eU f, eU l, eU r], .slice a n c, eU t] w fun e w' => e = .returned (.bool true) ∧ Below w.heap.size w w' := by
  have BC := Box.new w 24 #[eU f, eU l, eU r]
  have T := up1 w (.cells #[eU f, eU l, eU r] 24)
  go_enter Try.func6, Try.ntmps6
  go_wp2_with (first
    | (go_at_call 21; (with_reducible refine (awake_any _).mono ?_); rintro e w1 ⟨rfl, hb⟩; replace BC := BC.below hb; replace T := up T hb T.size; clear hb; obtain ⟨c0, c1, c2⟩ := BC.three)
    | (go_at_call 22; (with_reducible refine (hS _ T).mono ?_); rintro e w2 ⟨rfl, hb⟩; replace T := up T hb T.size; clear hb))
  go_ret
  exact ⟨rfl, T⟩
set_option maxHeartbeats 1000000 in
theorem above_zero (hS : ∀ w', Below w.heap.size w w' → Calls Try.prog 22 #[.agg #[eU f, eU l, eU r], .slice a 0 c] w' fun e w'' => ∃ B : Nat, e = .returned (.pointer (some ⟨B, 0, none⟩)) ∧ Below w'.heap.size w' w'') :
    Calls Try.prog 6 #[.agg #[eU f, eU l, eU r], .slice a 0 c, eU t] w fun e w' => e = .returned (.bool true) ∧ Below w.heap.size w w' := by
  have BC := Box.new w 24 #[eU f, eU l, eU r]
  have T := up1 w (.cells #[eU f, eU l, eU r] 24)
  go_enter Try.func6, Try.ntmps6
  go_wp2_with (first
    | (go_at_call 21; (with_reducible refine (awake_any _).mono ?_); rintro e w1 ⟨rfl, hb⟩; replace BC := BC.below hb; replace T := up T hb T.size; clear hb; obtain ⟨c0, c1, c2⟩ := BC.three)
    | (go_at_call 22; (with_reducible refine (hS _ T).mono ?_); rintro e w2 ⟨B, rfl, hb⟩; replace T := up T hb T.size; clear hb))
  go_ret
  exact ⟨rfl, T⟩
set_option maxHeartbeats 1000000 in
theorem above_far (hn : ((n : Int) == 0) = false) (ht : (4611686018427387904 : Int) ≤ t) (hS : ∀ w', Below w.heap.size w w' → Calls Try.prog 22 #[.agg #[eU f, eU l, eU r], .slice a n c] w' fun e w'' => ∃ B : Nat, e = .returned (.pointer (some ⟨B, 0, none⟩)) ∧ Below w'.heap.size w' w'') :
    Calls Try.prog 6 #[.agg #[eU f, eU l, eU r], .slice a n c, eU t] w fun e w' => e = .returned (.bool true) ∧ Below w.heap.size w w' := by
  have BC := Box.new w 24 #[eU f, eU l, eU r]
  have T := up1 w (.cells #[eU f, eU l, eU r] 24)
  go_enter Try.func6, Try.ntmps6
  go_wp2_with (first
    | (go_at_call 21; (with_reducible refine (awake_any _).mono ?_); rintro e w1 ⟨rfl, hb⟩; replace BC := BC.below hb; replace T := up T hb T.size; clear hb; obtain ⟨c0, c1, c2⟩ := BC.three)
    | (go_at_call 22; (with_reducible refine (hS _ T).mono ?_); rintro e w2 ⟨B, rfl, hb⟩; replace T := up T hb T.size; clear hb))
  go_ret
  exact ⟨rfl, T⟩
set_option maxHeartbeats 2000000 in
theorem above_run (x m h u o p d ll : Int) (R : Nat → World → Prop) (hRb : ∀ B w w', R B w → Below w.heap.size w w' → R B w') (hn : ((n : Int) == 0) = false) (ht : ¬ (4611686018427387904 : Int) ≤ t)
    (hm : max t x = m) (hd : IntKind.u64.wrap (r - f) = d) (hll : IntKind.u64.wrap (x + l) = ll) (hp : IntKind.u64.wrap (h + o) = p)
    (hS : ∀ w', Below w.heap.size w w' → Calls Try.prog 22 #[.agg #[eU f, eU l, eU r], .slice a n c] w' fun e w'' => ∃ B : Nat, e = .returned (.pointer (some ⟨B, 0, none⟩)) ∧ R B w'' ∧ Below w'.heap.size w' w'')
    (hL : ∀ B w, R B w → Calls Try.prog 14 #[.pointer (some ⟨B, 0, none⟩)] w fun e w' => e = .returned (.tuple #[eU x, .bool true]) ∧ w = w')
    (hA : ∀ B w, R B w → Calls Try.prog 17 #[.pointer (some ⟨B, 0, none⟩), eU m] w fun e w' => e = .returned (eU h) ∧ Below w.heap.size w w')
    (hB : ∀ B w, R B w → Calls Try.prog 18 #[.pointer (some ⟨B, 0, none⟩), eU m] w fun e w' => e = .returned (eU u) ∧ Below w.heap.size w w')
    (hT : ∀ w, Calls Try.prog 25 #[eU d, eU l] w fun e w' => e = .returned (eU o) ∧ Below w.heap.size w w')
    (hP : ∀ w, Calls Try.prog 23 #[eU h, eU o] w fun e w' => e = .returned (eU (rP h o)) ∧ Below w.heap.size w w')
    (hl0 : l = 0 → o = 0) (h1 : ¬ u < h) (h2 : ¬ rP h o < u) (h3 : Hid (m < ll ∨ u = 4611686018427387904 ∨ u = p)) :
    Calls Try.prog 6 #[.agg #[eU f, eU l, eU r], .slice a n c, eU t] w fun e w' => e = .returned (.bool true) ∧ Below w.heap.size w w' := by
  have BC := Box.new w 24 #[eU f, eU l, eU r]
  have T := up1 w (.cells #[eU f, eU l, eU r] 24)
  obtain ⟨q, hq⟩ : ∃ q, rP h o = q := ⟨_, rfl⟩
  rw [hq] at hP h2
  have hl0h := Lib.hid hl0
  clear hq hl0
  go_enter Try.func6, Try.ntmps6
  go_upto_if 54 with (first
    | (go_at_call 21; (with_reducible refine (awake_any _).mono ?_); rintro e w1 ⟨rfl, hb⟩; replace BC := BC.below hb; replace T := up T hb T.size; clear hb; obtain ⟨c0, c1, c2⟩ := BC.three)
    | (go_at_call 22; (with_reducible refine (hS _ T).mono ?_); rintro e w2 ⟨B, rfl, hR, hb⟩; replace BC := BC.below hb; replace T := up T hb T.size; clear hb; clear c0 c1 c2; obtain ⟨c0, c1, c2⟩ := BC.three)
    | (go_at_call 14; (with_reducible refine (hL _ _ hR).mono ?_); rintro e w3 ⟨rfl, rfl⟩)
    | (go_at_call 17; (with_reducible refine (hA _ _ hR).mono ?_); rintro e w4 ⟨rfl, hb⟩; replace hR := hRb _ _ _ hR hb; replace BC := BC.below hb; replace T := up T hb T.size; clear hb; clear c0 c1 c2; obtain ⟨c0, c1, c2⟩ := BC.three)
    | (go_at_call 18; (with_reducible refine (hB _ _ hR).mono ?_); rintro e w5 ⟨rfl, hb⟩; replace hR := hRb _ _ _ hR hb; replace BC := BC.below hb; replace T := up T hb T.size; clear hb; clear c0 c1 c2; obtain ⟨c0, c1, c2⟩ := BC.three)
    | (go_at_call 25; (with_reducible refine (hT _).mono ?_); rintro e w6 ⟨rfl, hb⟩; replace BC := BC.below hb; replace T := up T hb T.size; clear hb; clear c0 c1 c2; obtain ⟨c0, c1, c2⟩ := BC.three))
  by_cases hz : l = 0
  · have ho := hl0h.out hz
    subst ho
    subst hz
    rw [Int.add_zero] at hll hp
    rcases h3.out with h3 | h3
    · go_wp2_with (go_at_call 23; (with_reducible refine (hP _).mono ?_); rintro e w7 ⟨rfl, hb⟩; replace BC := BC.below hb; replace T := up T hb T.size; clear hb; clear c0 c1 c2; obtain ⟨c0, c1, c2⟩ := BC.three)
      go_ret
      exact ⟨rfl, T⟩
    · by_cases h4 : m < ll
      · go_wp2_with (go_at_call 23; (with_reducible refine (hP _).mono ?_); rintro e w7 ⟨rfl, hb⟩; replace BC := BC.below hb; replace T := up T hb T.size; clear hb; clear c0 c1 c2; obtain ⟨c0, c1, c2⟩ := BC.three)
        go_ret
        exact ⟨rfl, T⟩
      · by_cases h5 : u = 4611686018427387904
        · subst h5
          go_wp2_with (go_at_call 23; (with_reducible refine (hP _).mono ?_); rintro e w7 ⟨rfl, hb⟩; replace BC := BC.below hb; replace T := up T hb T.size; clear hb; clear c0 c1 c2; obtain ⟨c0, c1, c2⟩ := BC.three)
          go_ret
          exact ⟨rfl, T⟩
        · have h6 : u = p := h3.resolve_left h5
          have h7 : (u == 4611686018427387904) = false := by simp only [beq_eq_false_iff_ne]; exact h5
          clear h5 h3
          subst h6
          go_wp2_with (go_at_call 23; (with_reducible refine (hP _).mono ?_); rintro e w7 ⟨rfl, hb⟩; replace BC := BC.below hb; replace T := up T hb T.size; clear hb; clear c0 c1 c2; obtain ⟨c0, c1, c2⟩ := BC.three)
          go_ret
          exact ⟨rfl, T⟩
  · have hz' : (l == 0) = false := by simp only [beq_eq_false_iff_ne]; exact hz
    clear hz
    rcases h3.out with h3 | h3
    · go_wp2_with (go_at_call 23; (with_reducible refine (hP _).mono ?_); rintro e w7 ⟨rfl, hb⟩; replace BC := BC.below hb; replace T := up T hb T.size; clear hb; clear c0 c1 c2; obtain ⟨c0, c1, c2⟩ := BC.three)
      go_ret
      exact ⟨rfl, T⟩
    · by_cases h4 : m < ll
      · go_wp2_with (go_at_call 23; (with_reducible refine (hP _).mono ?_); rintro e w7 ⟨rfl, hb⟩; replace BC := BC.below hb; replace T := up T hb T.size; clear hb; clear c0 c1 c2; obtain ⟨c0, c1, c2⟩ := BC.three)
        go_ret
        exact ⟨rfl, T⟩
      · by_cases h5 : u = 4611686018427387904
        · subst h5
          go_wp2_with (go_at_call 23; (with_reducible refine (hP _).mono ?_); rintro e w7 ⟨rfl, hb⟩; replace BC := BC.below hb; replace T := up T hb T.size; clear hb; clear c0 c1 c2; obtain ⟨c0, c1, c2⟩ := BC.three)
          go_ret
          exact ⟨rfl, T⟩
        · have h6 : u = p := h3.resolve_left h5
          have h7 : (u == 4611686018427387904) = false := by simp only [beq_eq_false_iff_ne]; exact h5
          clear h5 h3
          subst h6
          go_wp2_with (go_at_call 23; (with_reducible refine (hP _).mono ?_); rintro e w7 ⟨rfl, hb⟩; replace BC := BC.below hb; replace T := up T hb T.size; clear hb; clear c0 c1 c2; obtain ⟨c0, c1, c2⟩ := BC.three)
          go_ret
          exact ⟨rfl, T⟩
end
namespace W
theorem hv_ge_lv {F L R t : Int} {k : Int × Int} (hF : F ≤ R) : lv R k t - (R - F) * L ≤ hv F L R k t := by
  unfold hv lv
  rw [cW_max]
  have h1 : (R - F) * (t - k.1 - L) ≤ (R - F) * max (t - k.1 - L) 0 := Int.mul_le_mul_of_nonneg_left (by omega) (by omega)
  rw [Int.mul_sub, Int.sub_mul] at h1
  have h2 := Int.sub_mul R F (t - k.1)
  have h3 : (R - F) * max (t - k.1 - L) 0 = (R - F) * max (t - k.1 - L) 0 := rfl
  omega
end W
theorem SaggedAbove_walk (f l r : Int) (a : Option Addr) (n c : Nat) (xs : Nat → Ac) (t : Int) (w : World) (hf : Word f) (hl : Word l) (hr : Word r) (hI : IsAcs w a n c xs) (hw : ∀ i, (xs i).word) (hcm : c ≤ maxLen) (hnn : a = none → n = 0 ∧ c = 0) (ht : Word t) :
    Calls Try.prog 6 #[.agg #[eU f, eU l, eU r], .slice a n c, eU t] w fun e w' => e = .returned (.bool true) ∧ Below w.heap.size w w' := by
  have hS := fun w' (T : Below w.heap.size w w') => started_any f l r a n c xs w' hf hl hr hw (hI.below T)
  by_cases hc : CvS f l r ∧ n ≤ 40
  · have hS2 : ∀ w', Below w.heap.size w w' → Calls Try.prog 22 #[.agg #[eU f, eU l, eU r], .slice a n c] w' fun e w'' => ∃ B : Nat, e = .returned (.pointer (some ⟨B, 0, none⟩)) ∧ (∃ m K, Rg w'' m B f l r (fun i => (xs i).x) (fun i => (xs i).y) n K) ∧ Below w'.heap.size w' w'' := fun w' T => (hS w' T).mono fun e w'' h => by
      obtain ⟨h1, h2⟩ := h
      rcases h1 with ⟨_, B, K, e1, e2, e3⟩ | ⟨h1, _⟩
      · exact ⟨B, e1, ⟨_, K, e3⟩, h2⟩
      · exact absurd hc h1
    rcases Nat.eq_zero_or_pos n with rfl | hn
    · exact above_zero f l r a c t w fun w' T => (hS2 w' T).mono fun e w'' h => by obtain ⟨B, e1, _, h2⟩ := h; exact ⟨B, e1, h2⟩
    · have hn0 : ((n : Int) == 0) = false := by simp only [beq_eq_false_iff_ne]; omega
      rcases Int.lt_or_le t 4611686018427387904 with htc | htc
      · have hY : ∀ k, 0 ≤ (xs k).y := fun k => (hw k).2.1.1
        obtain ⟨hcv, hn40⟩ := hc
        obtain ⟨_, _, _, hm, hfr⟩ := id hcv
        obtain ⟨hf1, hr1, hl1, hlf⟩ := id hm
        have hx0 := xS_nn (fun i => (xs i).x) n
        have hx1 := xS_never (fun i => (xs i).x) n
        obtain ⟨x, hx⟩ : ∃ x, xS (fun i => (xs i).x) n = x := ⟨_, rfl⟩
        rw [hx] at hx0 hx1
        have hlen : 0 < (allL (fun i => (xs i).x) (fun i => (xs i).y) n).length := by simp [allL]; exact hn
        obtain ⟨v, hvv⟩ := lst_ex (fun k => hv f l r k (max (max t x) x)) hlen
        obtain ⟨u, hu⟩ := lst_ex (fun k => hv 0 0 r k (max (max t x) x)) hlen
        have hall := allL_le (X := fun i => (xs i).x) (Y := fun i => (xs i).y) (n := n) hY
        rw [hx] at hall
        have hmm : max (max t x) x = max t x := by omega
        rw [hmm] at hvv hu
        have hmw : Word (max t x) := by unfold Word at *; omega
        have hmv : ∀ k ∈ allL (fun i => (xs i).x) (fun i => (xs i).y) n, k.1 ≤ max t x := fun k hk => by have := (hall k hk).2.1; omega
        have G0 : 0 ≤ (r - f) * l := Int.mul_nonneg (by omega) hl.1
        have G1 : (r - f) * l ≤ 1048576 * 1099511627776 := by
          refine Int.le_trans (Int.mul_le_mul_of_nonneg_right (show r - f ≤ 1048576 by have := hf.1; omega) hl.1) (Int.mul_le_mul_of_nonneg_left hl1 (by omega))
        have ho : rT (r - f) l = (r - f) * l := by unfold rT; exact stp_lo (by omega)
        obtain ⟨v1, cv, hcv1, hcv2⟩ := hvv
        obtain ⟨u1, cu, hcu1, hcu2⟩ := hu
        have v1 : ∀ k ∈ allL (fun i => (xs i).x) (fun i => (xs i).y) n, v ≤ hv f l r k (max t x) := v1
        have u1 : ∀ k ∈ allL (fun i => (xs i).x) (fun i => (xs i).y) n, u ≤ hv 0 0 r k (max t x) := u1
        have hcv2 : hv f l r cv (max t x) = v := hcv2
        have hcu2 : hv 0 0 r cu (max t x) = u := hcu2
        have hvu : v ≤ u := by
          have e1 := v1 cu hcu1
          have e2 := hv_le_lv (F := f) (L := l) (R := r) hl.1 hfr (hmv cu hcu1)
          rw [hv_straight (hmv cu hcu1)] at hcu2
          omega
        have huv : u ≤ v + (r - f) * l := by
          have e1 := u1 cv hcv1
          rw [hv_straight (hmv cv hcv1)] at e1
          have e2 := hv_ge_lv (F := f) (L := l) (R := r) (t := max t x) (k := cv) hfr
          omega
        have hv0 : 0 ≤ v := by
          rw [← hcv2]
          have := hall cv hcv1
          exact hv_nn hf.1 hr.1 hl.1 (hmv cv hcv1) this.2.2.1
        have hs1 := stp_or v; have hs2 := stp_or u; have hs3 := stp_or (stp v + (r - f) * l)
        have hR : ∀ (B : Nat) (w : World), (∃ m K, Rg w m B f l r (fun i => (xs i).x) (fun i => (xs i).y) n K) → Calls Try.prog 17 #[.pointer (some ⟨B, 0, none⟩), eU (max t x)] w fun e w' => e = .returned (eU (stp v)) ∧ Below w.heap.size w w' := fun B w ⟨m, K, h⟩ =>
          rg_at hcv hY m B n K (max t x) v w hn (by omega) hmw (by rw [hx, hmm]; exact ⟨v1, cv, hcv1, hcv2⟩) h
        have hR2 : ∀ (B : Nat) (w : World), (∃ m K, Rg w m B f l r (fun i => (xs i).x) (fun i => (xs i).y) n K) → Calls Try.prog 18 #[.pointer (some ⟨B, 0, none⟩), eU (max t x)] w fun e w' => e = .returned (eU (stp u)) ∧ Below w.heap.size w w' := fun B w ⟨m, K, h⟩ =>
          rg_line hcv hY m B n K (max t x) u w hn (by omega) hmw (by rw [hx, hmm]; exact ⟨u1, cu, hcu1, hcu2⟩) h
        have hfw : Word (r - f) := by unfold Word at *; omega
        have how : Word ((r - f) * l) := by unfold Word; omega
        have hhw : Word (stp v) := stp_word hv0
        refine above_run f l r a n c t w x (max t x) (stp v) (stp u) ((r - f) * l) _ _ _ (fun B w => ∃ m K, Rg w m B f l r (fun i => (xs i).x) (fun i => (xs i).y) n K) (fun B w w' ⟨m, K, h⟩ hb => ⟨m, K, h.below hb⟩) hn0 (by omega) rfl (u64_id _ hfw) (u64_id _ ⟨by omega, by omega⟩) (u64_id _ ⟨by omega, by omega⟩) hS2
          (fun B w ⟨m, K, h⟩ => by have := rg_last m B n K w hn h; rwa [hx] at this) hR hR2 (fun w => by have := rTimes'_any (r - f) l w hfw hl; rwa [ho] at this) (fun w => rPlus'_any _ _ w hhw how) (fun e => by rw [e, Int.mul_zero]) ?_ ?_ (Lib.hid ?_)
        · have := stp_mono hvu; omega
        · unfold rP
          have := stp_or (v + (r - f) * l)
          omega
        · rcases Int.lt_or_le (max t x) (x + l) with h | h
          · exact .inl h
          · right
            have e1 : u = v + (r - f) * l := by
              have a1 := u1 cv hcv1
              have a2 := v1 cu hcu1
              have k1 := (hall cu hcu1).2.1
              rw [hv_straight (hmv cu hcu1)] at hcu2
              rw [hv_line (by omega)] at a2
              omega
            omega
      · exact above_far f l r a n c t w hn0 htc fun w' T => (hS2 w' T).mono fun e w'' h => by obtain ⟨B, e1, _, h2⟩ := h; exact ⟨B, e1, h2⟩
  · exact above_no f l r a n c t w fun w' T => (hS w' T).mono fun e w'' h => by
      obtain ⟨h1, h2⟩ := h
      rcases h1 with ⟨h1, _⟩ | ⟨_, h1⟩
      · exact absurd h1 hc
      · exact ⟨h1, h2⟩
end Go.Proofs.Ytknpfcnjnpcboaa
