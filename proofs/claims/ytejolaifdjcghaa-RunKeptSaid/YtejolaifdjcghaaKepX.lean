/- What becomes eligible behind a tick, and is due by a later one, is at most what the curve has between both: the walk of the statement. -/
import Derived.Test.YtejolaifdjcghaaDueX
namespace Go.Proofs.Ytejolaifdjcghaa
open Go.RowKit Go.Shelf W
set_option linter.unusedVariables false
set_option maxRecDepth 100000
section
variable (f l r : Int) (a : Option Addr) (n c : Nat) (fi s e from_ to_ : Int) (w : World)
set_option maxHeartbeats 2000000 in
theorem kep_out (h : (40 : Int) < (n : Int) ∨ (¬ (40 : Int) < (n : Int) ∧ (4611686018427387904 ≤ s ∨ (¬ 4611686018427387904 ≤ s ∧ (4611686018427387904 ≤ e ∨ (¬ 4611686018427387904 ≤ e ∧ (e < s ∨ (¬ e < s ∧ to_ ≤ from_)))))))) :
    Calls Try.prog 4 #[.agg #[eU f, eU l, eU r], .slice a n c, eI fi, eU s, eU e, eU from_, eU to_] w fun e w' => e = .returned (.bool true) ∧ Below w.heap.size w w' := by
  have T := up1 w (.cells #[eU f, eU l, eU r] 27)
  rcases h with h1 | ⟨h1, h2 | ⟨h2, h3 | ⟨h3, h4 | ⟨h4, h5⟩⟩⟩⟩
  all_goals
    go_enter Try.func4, Try.ntmps4
    go_wp2_with (go_at_call 17; (with_reducible refine (awake_any _).mono ?_); rintro e w1 ⟨rfl, hb⟩; replace T := up T hb T.size; clear hb)
    go_ret
    exact ⟨rfl, T⟩
set_option maxHeartbeats 4000000 in
theorem kep_none (k : Nat) (h1 : ¬ (40 : Int) < (n : Int)) (h2 : ¬ 4611686018427387904 ≤ s) (h3 : ¬ 4611686018427387904 ≤ e) (h4 : ¬ e < s) (h5 : ¬ to_ ≤ from_)
    (hk : wrap64 ((IntKind.u64.wrap fi).tmod ((n : Int) + 1)) = (k : Int)) (hkn : k ≤ n) (hnc : n ≤ c)
    (hS : ∀ w' (j : Nat), j ≤ n → Below w.heap.size w w' → Calls Try.prog 18 #[.agg #[eU f, eU l, eU r], .slice a j c] w' fun e w'' => e = .returned (.pointer none) ∧ Below w'.heap.size w' w'') :
    Calls Try.prog 4 #[.agg #[eU f, eU l, eU r], .slice a n c, eI fi, eU s, eU e, eU from_, eU to_] w fun e w' => e = .returned (.bool true) ∧ Below w.heap.size w w' := by
  have BC := Box.new w 27 #[eU f, eU l, eU r]
  have T := up1 w (.cells #[eU f, eU l, eU r] 27)
  have k1 : (k : Int) ≤ (c : Int) := by omega
  have k0 : (0 : Int) ≤ (k : Int) := by omega
  go_enter Try.func4, Try.ntmps4
  go_upto_region 6 with (go_at_call 17; (with_reducible refine (awake_any _).mono ?_); rintro e w1 ⟨rfl, hb⟩; replace BC := BC.below hb; replace T := up T hb T.size; clear hb; obtain ⟨c0, c1, c2⟩ := BC.three)
  go_region_held3 (fun w' => w'.cell? ⟨w.heap.size, 0, none⟩ = some (.int .u64 f) ∧ w'.cell? ⟨w.heap.size, 1, none⟩ = some (.int .u64 l) ∧ w'.cell? ⟨w.heap.size, 2, none⟩ = some (.int .u64 r))
    (first | exact ⟨c0, c1, c2⟩ | exact BC.three)
    (first
      | (go_at_call 18; (with_reducible refine (hS _ _ hkn (by first | exact T | exact T.drew)).mono ?_); rintro e w2 ⟨rfl, hb⟩; (first | replace hb := undrew hb | replace hb := undrewN hb | skip); replace BC := BC.below hb; replace T := up T hb T.size; clear hb))
  obtain ⟨c0, c1, c2⟩ := BC.three
  go_wp2_with (go_at_call 18; (with_reducible refine (hS _ _ (Nat.le_refl _) T).mono ?_); rintro e w3 ⟨rfl, hb⟩; replace BC := BC.below hb; replace T := up T hb T.size; clear hb)
  go_ret
  exact ⟨rfl, T⟩
set_option maxHeartbeats 4000000 in
theorem kep_zero (h1 : ¬ (40 : Int) < (n : Int)) (h2 : ¬ 4611686018427387904 ≤ s) (h3 : ¬ 4611686018427387904 ≤ e) (h4 : ¬ e < s) (h5 : ¬ to_ ≤ from_)
    (hk : wrap64 ((IntKind.u64.wrap fi).tmod ((n : Int) + 1)) = 0)
    (hS : ∀ w', Below w.heap.size w w' → Calls Try.prog 18 #[.agg #[eU f, eU l, eU r], .slice a 0 c] w' fun e w'' => (∃ B : Nat, e = .returned (.pointer (some ⟨B, 0, none⟩))) ∧ Below w'.heap.size w' w'')
    (hS2 : ∀ w', Below w.heap.size w w' → Calls Try.prog 18 #[.agg #[eU f, eU l, eU r], .slice a n c] w' fun e w'' => (∃ B : Nat, e = .returned (.pointer (some ⟨B, 0, none⟩))) ∧ Below w'.heap.size w' w'') :
    Calls Try.prog 4 #[.agg #[eU f, eU l, eU r], .slice a n c, eI fi, eU s, eU e, eU from_, eU to_] w fun e w' => e = .returned (.bool true) ∧ Below w.heap.size w w' := by
  have BC := Box.new w 27 #[eU f, eU l, eU r]
  have T := up1 w (.cells #[eU f, eU l, eU r] 27)
  have k1 : (0 : Int) ≤ (c : Int) := by omega
  go_enter Try.func4, Try.ntmps4
  go_upto_region 6 with (go_at_call 17; (with_reducible refine (awake_any _).mono ?_); rintro e w1 ⟨rfl, hb⟩; replace BC := BC.below hb; replace T := up T hb T.size; clear hb; obtain ⟨c0, c1, c2⟩ := BC.three)
  go_region_held3 (fun w' => w'.cell? ⟨w.heap.size, 0, none⟩ = some (.int .u64 f) ∧ w'.cell? ⟨w.heap.size, 1, none⟩ = some (.int .u64 l) ∧ w'.cell? ⟨w.heap.size, 2, none⟩ = some (.int .u64 r))
    (first | exact ⟨c0, c1, c2⟩ | exact BC.three)
    (first
      | (go_at_call 18; (with_reducible refine (hS _ (by first | exact T | exact T.drew)).mono ?_); rintro e w2 ⟨⟨B1, rfl⟩, hb⟩; (first | replace hb := undrew hb | replace hb := undrewN hb | skip); replace BC := BC.below hb; replace T := up T hb T.size; clear hb))
  obtain ⟨c0, c1, c2⟩ := BC.three
  go_wp2_with (go_at_call 18; (with_reducible refine (hS2 _ T).mono ?_); rintro e w3 ⟨⟨B2, rfl⟩, hb⟩; replace BC := BC.below hb; replace T := up T hb T.size; clear hb)
  go_ret
  exact ⟨rfl, T⟩
set_option maxHeartbeats 8000000 in
theorem kep_run (k : Nat) (x u v d1 d2 z : Int) (R1 R2 : Nat → World → Prop) (hR1 : ∀ B w w', R1 B w → Below w.heap.size w w' → R1 B w') (hR2 : ∀ B w w', R2 B w → Below w.heap.size w w' → R2 B w')
    (h1 : ¬ (40 : Int) < (n : Int)) (h2 : ¬ 4611686018427387904 ≤ s) (h3 : ¬ 4611686018427387904 ≤ e) (h4 : ¬ e < s) (h5 : ¬ to_ ≤ from_)
    (hk : wrap64 ((IntKind.u64.wrap fi).tmod ((n : Int) + 1)) = (k : Int)) (hkn : k ≤ n) (hnc : n ≤ c) (hk0 : ((k : Int) == 0) = false)
    (hS : ∀ w', Below w.heap.size w w' → Calls Try.prog 18 #[.agg #[eU f, eU l, eU r], .slice a k c] w' fun e w'' => ∃ B : Nat, e = .returned (.pointer (some ⟨B, 0, none⟩)) ∧ R1 B w'' ∧ Below w'.heap.size w' w'')
    (hS2 : ∀ w', Below w.heap.size w w' → Calls Try.prog 18 #[.agg #[eU f, eU l, eU r], .slice a n c] w' fun e w'' => ∃ B : Nat, e = .returned (.pointer (some ⟨B, 0, none⟩)) ∧ R2 B w'' ∧ Below w'.heap.size w' w'')
    (hL : ∀ B w, R1 B w → Calls Try.prog 9 #[.pointer (some ⟨B, 0, none⟩)] w fun e w' => e = .returned (.tuple #[eU x, .bool true]) ∧ w = w')
    (hE : ∀ B w, R1 B w → Calls Try.prog 11 #[.pointer (some ⟨B, 0, none⟩), eU from_] w fun e w' => e = .returned (eU u) ∧ Below w.heap.size w w')
    (hRe : ∀ B w, R2 B w → Calls Try.prog 10 #[.pointer (some ⟨B, 0, none⟩), eU to_] w fun e w' => e = .returned (eU v) ∧ Below w.heap.size w w')
    (hd1 : IntKind.u64.wrap (to_ - from_) = d1) (hd2 : IntKind.u64.wrap (e - s) = d2)
    (hC : ∀ w, Calls Try.prog 19 #[.agg #[eU f, eU l, eU r], eU d2] w fun e w' => e = .returned (eU z) ∧ Below w.heap.size w w')
    (h : ¬ s < x → ¬ u ≤ s → ¬ e < v → d1 ≤ z) :
    Calls Try.prog 4 #[.agg #[eU f, eU l, eU r], .slice a n c, eI fi, eU s, eU e, eU from_, eU to_] w fun e w' => e = .returned (.bool true) ∧ Below w.heap.size w w' := by
  have BC := Box.new w 27 #[eU f, eU l, eU r]
  have T := up1 w (.cells #[eU f, eU l, eU r] 27)
  have k1 : (k : Int) ≤ (c : Int) := by omega
  have k0 : (0 : Int) ≤ (k : Int) := by omega
  have hh := Lib.hid h
  clear h
  go_enter Try.func4, Try.ntmps4
  go_upto_region 6 with (go_at_call 17; (with_reducible refine (awake_any _).mono ?_); rintro e w1 ⟨rfl, hb⟩; replace BC := BC.below hb; replace T := up T hb T.size; clear hb; obtain ⟨c0, c1, c2⟩ := BC.three)
  go_region_held3 (fun w' => w'.cell? ⟨w.heap.size, 0, none⟩ = some (.int .u64 f) ∧ w'.cell? ⟨w.heap.size, 1, none⟩ = some (.int .u64 l) ∧ w'.cell? ⟨w.heap.size, 2, none⟩ = some (.int .u64 r))
    (first | exact ⟨c0, c1, c2⟩ | exact BC.three)
    (first
      | (go_at_call 18; (with_reducible refine (hS _ (by first | exact T | exact T.drew)).mono ?_); rintro e w2 ⟨B1, rfl, hA, hb⟩; (first | replace hb := undrew hb | replace hb := undrewN hb | skip); replace BC := BC.below hb; replace T := up T hb T.size; clear hb))
  obtain ⟨c0, c1, c2⟩ := BC.three
  go_upto_region 11 with (first
    | (go_at_call 18; (with_reducible refine (hS2 _ T).mono ?_); rintro e w3 ⟨B2, rfl, hB, hb⟩; replace hA := hR1 _ _ _ hA hb; replace BC := BC.below hb; replace T := up T hb T.size; clear hb c0 c1 c2; obtain ⟨c0, c1, c2⟩ := BC.three)
    | (go_at_call 9; (with_reducible refine (hL _ _ hA).mono ?_); rintro e w3 ⟨rfl, rfl⟩))
  clear hS hS2 h1 h2 h3 h4 h5 hk
  have h := hh.out
  clear hh
  by_cases g1 : s < x
  · clear h
    go_wp2_with fail
    go_ret
    exact ⟨rfl, T⟩
  · by_cases g2 : u ≤ s
    · clear h
      go_wp2_with (go_at_call 11; (with_reducible refine (hE _ _ hA).mono ?_); rintro e w3 ⟨rfl, hb⟩; replace hB := hR2 _ _ _ hB hb; replace T := up T hb T.size; clear hb)
      go_ret
      exact ⟨rfl, T⟩
    · by_cases g3 : e < v
      · clear h
        go_wp2_with (first
          | (go_at_call 11; (with_reducible refine (hE _ _ hA).mono ?_); rintro e w3 ⟨rfl, hb⟩; replace hB := hR2 _ _ _ hB hb; replace T := up T hb T.size; clear hb)
          | (go_at_call 10; (with_reducible refine (hRe _ _ hB).mono ?_); rintro e w3 ⟨rfl, hb⟩; replace T := up T hb T.size; clear hb))
        go_ret
        exact ⟨rfl, T⟩
      · have g := h (by omega) (by omega) (by omega)
        clear h
        go_wp2_with (first
          | (go_at_call 11; (with_reducible refine (hE _ _ hA).mono ?_); rintro e w3 ⟨rfl, hb⟩; replace hB := hR2 _ _ _ hB hb; replace BC := BC.below hb; replace T := up T hb T.size; clear hb c0 c1 c2; obtain ⟨c0, c1, c2⟩ := BC.three)
          | (go_at_call 10; (with_reducible refine (hRe _ _ hB).mono ?_); rintro e w4 ⟨rfl, hb⟩; replace BC := BC.below hb; replace T := up T hb T.size; clear hb c0 c1 c2; obtain ⟨c0, c1, c2⟩ := BC.three)
          | (go_at_call 19; (with_reducible refine (hC _).mono ?_); rintro e w5 ⟨rfl, hb⟩; replace T := up T hb T.size; clear hb))
        go_ret
        exact ⟨rfl, T⟩
end
theorem IsAcs.take {w : World} {a : Option Addr} {n c k : Nat} {xs : Nat → Ac} (h : IsAcs w a n c xs) (hk : k ≤ n) : IsAcs w a k c xs := by
  obtain ⟨h1, h2⟩ := h
  refine ⟨by omega, ?_⟩
  rcases h2 with h2 | ⟨b, o, e, h3, h4⟩
  · exact .inl (by omega)
  · exact .inr ⟨b, o, e, h3, fun i hi => h4 i (by omega)⟩
theorem RunKept_walk (f l r : Int) (a : Option Addr) (n c : Nat) (xs : Nat → Ac) (fi s e from_ to_ : Int) (w : World) (hf : Word f) (hl : Word l) (hr : Word r) (hI : IsAcs w a n c xs) (hw : ∀ i, (xs i).word) (hcm : c ≤ maxLen) (hnn : a = none → n = 0 ∧ c = 0) (hfi : -9223372036854775808 ≤ fi ∧ fi < 9223372036854775808) (hs : Word s) (he : Word e) (hfr : Word from_) (hto : Word to_) :
    Calls Try.prog 4 #[.agg #[eU f, eU l, eU r], .slice a n c, eI fi, eU s, eU e, eU from_, eU to_] w fun e w' => e = .returned (.bool true) ∧ Below w.heap.size w w' := by
  by_cases hout : (40 : Int) < (n : Int) ∨ (¬ (40 : Int) < (n : Int) ∧ (4611686018427387904 ≤ s ∨ (¬ 4611686018427387904 ≤ s ∧ (4611686018427387904 ≤ e ∨ (¬ 4611686018427387904 ≤ e ∧ (e < s ∨ (¬ e < s ∧ to_ ≤ from_)))))))
  · exact kep_out f l r a n c fi s e from_ to_ w hout
  · have h1 : ¬ (40 : Int) < (n : Int) := by omega
    have h2 : ¬ 4611686018427387904 ≤ s := by omega
    have h3 : ¬ 4611686018427387904 ≤ e := by omega
    have h4 : ¬ e < s := by omega
    have h5 : ¬ to_ ≤ from_ := by omega
    clear hout
    have hnc := hI.1
    obtain ⟨k, hk, hkn⟩ : ∃ k : Nat, wrap64 ((IntKind.u64.wrap fi).tmod ((n : Int) + 1)) = (k : Int) ∧ k ≤ n := by
      have h0 : 0 ≤ IntKind.u64.wrap fi := by simp [IntKind.wrap, IntKind.signed, IntKind.bits]; omega
      obtain ⟨q, hq⟩ : ∃ q, IntKind.u64.wrap fi = q := ⟨_, rfl⟩
      rw [hq] at h0 ⊢
      rw [Int.tmod_eq_emod_of_nonneg h0]
      have g0 := Int.emod_nonneg q (show (n : Int) + 1 ≠ 0 by omega)
      have g1 := Int.emod_lt_of_pos q (show (0 : Int) < (n : Int) + 1 by omega)
      refine ⟨(q % ((n : Int) + 1)).toNat, ?_, by omega⟩
      rw [Int.toNat_of_nonneg g0]
      unfold wrap64
      omega
    have hS := fun w' (j : Nat) (hj : j ≤ n) (T : Below w.heap.size w w') => started_any f l r a j c xs w' hf hl hr hw ((hI.below T).take hj)
    by_cases hcv : CvR f l r
    · have hS2 : ∀ (w' : World) (j : Nat), j ≤ n → Below w.heap.size w w' → Calls Try.prog 18 #[.agg #[eU f, eU l, eU r], .slice a j c] w' fun e w'' => ∃ B : Nat, e = .returned (.pointer (some ⟨B, 0, none⟩)) ∧ (∃ S, Ru w'' S B f l r (fun i => (xs i).x) (fun i => (xs i).y) j) ∧ Below w'.heap.size w' w'' := fun w' j hj T => (hS w' j hj T).mono fun e w'' h => by
        obtain ⟨h1, h2⟩ := h
        rcases h1 with ⟨_, B, e1, e3⟩ | ⟨h1, _⟩
        · exact ⟨B, e1, ⟨_, e3⟩, h2⟩
        · exact absurd ⟨hcv, by omega⟩ h1
      rcases Nat.eq_zero_or_pos k with rfl | hk0
      · exact kep_zero f l r a n c fi s e from_ to_ w h1 h2 h3 h4 h5 hk (fun w' T => (hS2 w' 0 (by omega) T).mono fun e w'' h => by obtain ⟨B, e1, _, h2⟩ := h; exact ⟨⟨B, e1⟩, h2⟩) (fun w' T => (hS2 w' n (by omega) T).mono fun e w'' h => by obtain ⟨B, e1, _, h2⟩ := h; exact ⟨⟨B, e1⟩, h2⟩)
      · have hY : ∀ k, 0 ≤ (xs k).y := fun k => (hw k).2.1.1
        obtain ⟨_, _, _, hm⟩ := id hcv
        obtain ⟨m1, m2, m3, _⟩ := id hm
        have hx1 := fun j => xS_never (fun i => (xs i).x) j
        have hlen : ∀ j, 0 < j → 0 < (allL (fun i => (xs i).x) (fun i => (xs i).y) j).length := fun j hj => by simp [allL]; exact hj
        have hall := fun j => W.allL_le (X := fun i => (xs i).x) (Y := fun i => (xs i).y) (n := j) hY
        obtain ⟨u, hu⟩ := rch_ex (F := eF f r) (L := eL f l r) (R := r) (y := from_) (eF_word hf) (eL_word hl) hr (hx1 k) _ (hlen k hk0) (hall k)
        obtain ⟨v, hv'⟩ := rch_ex (F := f) (L := l) (R := r) (y := to_) hf hl hr (hx1 n) _ (hlen n (by omega)) (hall n)
        have hd1 : IntKind.u64.wrap (to_ - from_) = to_ - from_ := u64_id _ ⟨by have := hfr.1; omega, by have := hfr.1; have := hto.2; omega⟩
        have hd2 : IntKind.u64.wrap (e - s) = e - s := u64_id _ ⟨by omega, by have := hs.1; omega⟩
        exact kep_run f l r a n c fi s e from_ to_ w k (xS (fun i => (xs i).x) k) u v _ _ (cAt f l r (e - s)) (fun B w => ∃ S, Ru w S B f l r (fun i => (xs i).x) (fun i => (xs i).y) k) (fun B w => ∃ S, Ru w S B f l r (fun i => (xs i).x) (fun i => (xs i).y) n) (fun B w w' ⟨S, h⟩ hb => ⟨S, h.below hb⟩) (fun B w w' ⟨S, h⟩ hb => ⟨S, h.below hb⟩)
          h1 h2 h3 h4 h5 hk hkn hnc (by simp only [beq_eq_false_iff_ne]; omega) (fun w' T => hS2 w' k hkn T) (fun w' T => hS2 w' n (by omega) T)
          (fun B w ⟨S, h⟩ => ru_last S B k w hk0 h) (fun B w ⟨S, h⟩ => ru_eligible hY S B k from_ u w hk0 (by omega) hfr hu h) (fun B w ⟨S, h⟩ => ru_reach hY S B n to_ v w (by omega) (by omega) hto hv' h) hd1 hd2
          (fun w => At_any f l r (e - s) w hf hl hr ⟨by omega, by have := hs.1; have := he.2; omega⟩)
          (fun g1 g2 g3 => kept_num hl.1 hf.1 hr.1 hkn (by omega) (by omega) (by omega) hfr.1 (by omega) hu (by omega) hv' (by omega))
    · have hN : ∀ (w' : World) (j : Nat), j ≤ n → Below w.heap.size w w' → Calls Try.prog 18 #[.agg #[eU f, eU l, eU r], .slice a j c] w' fun e w'' => e = .returned (.pointer none) ∧ Below w'.heap.size w' w'' := fun w' j hj T => (hS w' j hj T).mono fun e w'' h => by
        obtain ⟨h1, h2⟩ := h
        rcases h1 with ⟨h1, _⟩ | ⟨_, h1⟩
        · exact absurd h1.1 hcv
        · exact ⟨h1, h2⟩
      exact kep_none f l r a n c fi s e from_ to_ w k h1 h2 h3 h4 h5 hk hkn hnc hN
end Go.Proofs.Ytejolaifdjcghaa
