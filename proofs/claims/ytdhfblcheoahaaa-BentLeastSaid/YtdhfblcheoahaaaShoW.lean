/- By so many ticks a run grows by at most what its curve has at them: the walk of the statement. -/
import Derived.Test.YtdhfblcheoahaaaBckW
namespace Go.Proofs.Ytdhfblcheoahaaa
open Go.RowKit Go.Shelf W
set_option linter.unusedVariables false
set_option maxRecDepth 100000
namespace W
theorem stp_plusr {x y : Int} (hx : 0 ≤ x) : stp (x + stp y) = stp (x + y) := by
  rw [Int.add_comm, stp_plus hx, Int.add_comm]
theorem short_run {F L R : Int} {p q d s : Int} (hL : 0 ≤ L) (hR : 0 ≤ R) (hRF : R < F) (hp : 0 ≤ p) (hq : 0 ≤ q) (hd : 0 ≤ d) (hs : 0 ≤ s) (hpq : q ≤ p + (F - R) * L) :
    gA p F q R (d + s) ≤ stp (gA p F q R d + cAt F L R s) := by
  have mF := Int.mul_nonneg (show 0 ≤ F by omega) hd
  have mR := Int.mul_nonneg hR hd
  have nF := Int.mul_nonneg (show 0 ≤ F by omega) hs
  have nR := Int.mul_nonneg hR hs
  have ho : 0 ≤ (F - R) * L := Int.mul_nonneg (by omega) hL
  have le1 := Int.mul_le_mul_of_nonneg_right (show R ≤ F by omega) hd
  have le2 := Int.mul_le_mul_of_nonneg_right (show R ≤ F by omega) hs
  have e1 : F * (d + s) = F * d + F * s := Int.mul_add _ _ _
  have e2 : R * (d + s) = R * d + R * s := Int.mul_add _ _ _
  have e3 : gA p F q R d = stp (min (p + F * d) (q + R * d)) := (stp_min _ _).symm
  have e4 : gA p F q R (d + s) = stp (min (p + (F * d + F * s)) (q + (R * d + R * s))) := by rw [stp_min, ← e1, ← e2]; rfl
  unfold cAt
  rw [cW_two hL hs hRF, stp_plusr (gA_nn hp (by omega) hq hR hd), e3, stp_plus (by omega), e4]
  exact stp_mono (by omega)
theorem pq_le {F L R : Int} {X Y : Nat → Int} {n : Nat} (hL : 0 ≤ L) (hR : 0 ≤ R) (hRF : R < F) (hY : ∀ k, 0 ≤ Y k) (hn : 0 < n) : hS R ((F - R) * L) X Y n ≤ hS F 0 X Y n + (F - R) * L := by
  have ho : 0 ≤ (F - R) * L := Int.mul_nonneg (by omega) hL
  obtain ⟨k, hk, e⟩ := hS_ex (s := F) (o := 0) (X := X) (Y := Y) (by omega) (by omega) hY n hn
  have h := hS_le (s := R) (o := (F - R) * L) (X := X) (Y := Y) hR ho hY n k hk
  have hx := xS_le X (show k + 1 ≤ n by omega)
  have le := Int.mul_le_mul_of_nonneg_right (show R ≤ F by omega) (show 0 ≤ xS X n - xS X (k + 1) by omega)
  have h1 := stp_or (Y k + (F - R) * L + R * (xS X n - xS X (k + 1))); have h2 := stp_or (Y k + 0 + F * (xS X n - xS X (k + 1)))
  omega
end W
section
variable (f l r : Int) (a : Option Addr) (n c : Nat) (t s : Int) (w : World)
set_option maxHeartbeats 1000000 in
theorem sho_no (hS : ∀ w', Below w.heap.size w w' → Calls Try.prog 21 #[.agg #[eU f, eU l, eU r], .slice a n c] w' fun e w'' => e = .returned (.pointer none) ∧ Below w'.heap.size w' w'') :
    Calls Try.prog 7 #[.agg #[eU f, eU l, eU r], .slice a n c, eU t, eU s] w fun e w' => e = .returned (.bool true) ∧ Below w.heap.size w w' := by
  have BC := Box.new w 24 #[eU f, eU l, eU r]
  have T := up1 w (.cells #[eU f, eU l, eU r] 24)
  go_enter Try.func7, Try.ntmps7
  go_wp2_with (first
    | (go_at_call 20; (with_reducible refine (awake_any _).mono ?_); rintro e w1 ⟨rfl, hb⟩; replace BC := BC.below hb; replace T := up T hb T.size; clear hb; obtain ⟨c0, c1, c2, c3⟩ := BC.tri)
    | (go_at_call 21; (with_reducible refine (hS _ T).mono ?_); rintro e w2 ⟨rfl, hb⟩; replace T := up T hb T.size; clear hb))
  go_ret
  exact ⟨rfl, T⟩
set_option maxHeartbeats 1000000 in
theorem sho_far (hS : ∀ w', Below w.heap.size w w' → Calls Try.prog 21 #[.agg #[eU f, eU l, eU r], .slice a n c] w' fun e w'' => ∃ B : Nat, e = .returned (.pointer (some ⟨B, 0, none⟩)) ∧ Below w'.heap.size w' w'')
    (h : Hid ((4611686018427387904 : Int) ≤ t ∨ (4611686018427387904 : Int) ≤ s)) :
    Calls Try.prog 7 #[.agg #[eU f, eU l, eU r], .slice a n c, eU t, eU s] w fun e w' => e = .returned (.bool true) ∧ Below w.heap.size w w' := by
  have BC := Box.new w 24 #[eU f, eU l, eU r]
  have T := up1 w (.cells #[eU f, eU l, eU r] 24)
  by_cases ht : (4611686018427387904 : Int) ≤ t
  · go_enter Try.func7, Try.ntmps7
    go_wp2_with (first
      | (go_at_call 20; (with_reducible refine (awake_any _).mono ?_); rintro e w1 ⟨rfl, hb⟩; replace BC := BC.below hb; replace T := up T hb T.size; clear hb; obtain ⟨c0, c1, c2, c3⟩ := BC.tri)
      | (go_at_call 21; (with_reducible refine (hS _ T).mono ?_); rintro e w2 ⟨B, rfl, hb⟩; replace T := up T hb T.size; clear hb))
    go_ret
    exact ⟨rfl, T⟩
  · have hs : (4611686018427387904 : Int) ≤ s := h.out.resolve_left ht
    have ht' : decide ((4611686018427387904 : Int) ≤ t) = false := decide_eq_false ht
    go_enter Try.func7, Try.ntmps7
    go_wp2_with (first
      | (go_at_call 20; (with_reducible refine (awake_any _).mono ?_); rintro e w1 ⟨rfl, hb⟩; replace BC := BC.below hb; replace T := up T hb T.size; clear hb; obtain ⟨c0, c1, c2, c3⟩ := BC.tri)
      | (go_at_call 21; (with_reducible refine (hS _ T).mono ?_); rintro e w2 ⟨B, rfl, hb⟩; replace T := up T hb T.size; clear hb))
    go_ret
    exact ⟨rfl, T⟩
/-- Where the run has no copies: it has nothing at all ticks. -/
theorem Bn.zero_at {w : World} {B : Nat} {p F q R o x : Int} (t : Int) (h : Bn w B p F q R o x 0) : Calls Try.prog 18 #[.pointer (some ⟨B, 0, none⟩), eU t] w fun e w' => e = .returned (eU 0) ∧ Below w.heap.size w w' :=
  (bn_at_none _ t w (bn_starts_any _ _ _ _ _ _ _ _ _ h)).mono fun e w' g => by obtain ⟨rfl, rfl⟩ := g; exact ⟨rfl, Below.refl _ _⟩
set_option maxHeartbeats 2000000 in
theorem sho_run (x m m2 a1 a2 g z : Int) (b : Bool) (R : Nat → World → Prop) (hRb : ∀ B w w', R B w → Below w.heap.size w w' → R B w') (ht : decide ((4611686018427387904 : Int) ≤ t) = false) (hs : decide ((4611686018427387904 : Int) ≤ s) = false)
    (hS : ∀ w', Below w.heap.size w w' → Calls Try.prog 21 #[.agg #[eU f, eU l, eU r], .slice a n c] w' fun e w'' => ∃ B : Nat, e = .returned (.pointer (some ⟨B, 0, none⟩)) ∧ w'.heap.size ≤ B ∧ R B w'' ∧ Below w'.heap.size w' w'')
    (hL : ∀ B w, R B w → Calls Try.prog 15 #[.pointer (some ⟨B, 0, none⟩)] w fun e w' => e = .returned (.tuple #[eU x, .bool b]) ∧ w = w')
    (hm : max t x = m) (hm2 : IntKind.u64.wrap (m + s) = m2)
    (hA1 : ∀ B w, R B w → Calls Try.prog 18 #[.pointer (some ⟨B, 0, none⟩), eU m] w fun e w' => e = .returned (eU a1) ∧ Below w.heap.size w w')
    (hA2 : ∀ B w, R B w → Calls Try.prog 18 #[.pointer (some ⟨B, 0, none⟩), eU m2] w fun e w' => e = .returned (eU a2) ∧ Below w.heap.size w w')
    (hC : ∀ w, Calls Try.prog 23 #[.agg #[eU f, eU l, eU r], eU s] w fun e w' => e = .returned (eU g) ∧ Below w.heap.size w w')
    (hP : ∀ w, Calls Try.prog 22 #[eU a1, eU g] w fun e w' => e = .returned (eU z) ∧ Below w.heap.size w w')
    (h1 : a1 ≤ a2) (h2 : a2 ≤ 4611686018427387904) (h3 : a2 ≤ z) :
    Calls Try.prog 7 #[.agg #[eU f, eU l, eU r], .slice a n c, eU t, eU s] w fun e w' => e = .returned (.bool true) ∧ Below w.heap.size w w' := by
  have BC := Box.new w 24 #[eU f, eU l, eU r]
  have T := up1 w (.cells #[eU f, eU l, eU r] 24)
  go_enter Try.func7, Try.ntmps7
  go_wp2_with (first
    | (go_at_call 20; (with_reducible refine (awake_any _).mono ?_); rintro e w1 ⟨rfl, hb⟩; replace BC := BC.below hb; replace T := up T hb T.size; clear hb; obtain ⟨c0, c1, c2, c3⟩ := BC.tri)
    | (go_at_call 21; (with_reducible refine (hS _ T).mono ?_); rintro e w2 ⟨B, rfl, hB, hR, hb⟩; replace BC := BC.below hb; replace T := up T hb T.size; clear hb c0 c1 c2 c3; obtain ⟨c0, c1, c2, c3⟩ := BC.tri)
    | (go_at_call 15; (with_reducible refine (hL _ _ hR).mono ?_); rintro e w3 ⟨rfl, rfl⟩)
    | (go_at_call 18; (with_reducible refine (hA1 _ _ hR).mono ?_); rintro e w4 ⟨rfl, hb⟩; replace hR := hRb _ _ _ hR hb; replace BC := BC.below hb; replace T := up T hb T.size; clear hb c0 c1 c2 c3; obtain ⟨c0, c1, c2, c3⟩ := BC.tri)
    | (go_at_call 18; (with_reducible refine (hA2 _ _ hR).mono ?_); rintro e w5 ⟨rfl, hb⟩; replace BC := BC.below hb; replace T := up T hb T.size; clear hb c0 c1 c2 c3 hR; obtain ⟨c0, c1, c2, c3⟩ := BC.tri)
    | (go_at_call 23; (with_reducible refine (hC _).mono ?_); rintro e w6 ⟨rfl, hb⟩; replace T := up T hb T.size; clear hb)
    | (go_at_call 22; (with_reducible refine (hP _).mono ?_); rintro e w7 ⟨rfl, hb⟩; replace T := up T hb T.size; clear hb))
  go_ret
  exact ⟨rfl, T⟩
end
theorem BentShort_walk (f l r : Int) (a : Option Addr) (n c : Nat) (xs : Nat → Ac) (t s : Int) (w : World) (hf : Word f) (hl : Word l) (hr : Word r) (hI : IsAcs w a n c xs) (hw : ∀ i, (xs i).word) (hcm : c ≤ maxLen) (hnn : a = none → n = 0 ∧ c = 0) (ht : Word t) (hs : Word s) :
    Calls Try.prog 7 #[.agg #[eU f, eU l, eU r], .slice a n c, eU t, eU s] w fun e w' => e = .returned (.bool true) ∧ Below w.heap.size w w' := by
  have hSt := fun w' (T : Below w.heap.size w w') => started_any f l r a n c xs w' hf hl hr hw (hI.below T)
  by_cases hc : CvB f l r ∧ n ≤ 40
  · have hS2 : ∀ w', Below w.heap.size w w' → Calls Try.prog 21 #[.agg #[eU f, eU l, eU r], .slice a n c] w' fun e w'' => ∃ B : Nat, e = .returned (.pointer (some ⟨B, 0, none⟩)) ∧ w'.heap.size ≤ B ∧ Rn w'' B f l r (fun i => (xs i).x) (fun i => (xs i).y) n ∧ Below w'.heap.size w' w'' := fun w' T => (hSt w' T).mono fun e w'' h => by
      obtain ⟨h1, h2⟩ := h
      rcases h1 with ⟨_, B, e1, e2, e3⟩ | ⟨h1, _⟩
      · exact ⟨B, e1, e2, e3, h2⟩
      · exact absurd hc h1
    by_cases hfar : (4611686018427387904 : Int) ≤ t ∨ (4611686018427387904 : Int) ≤ s
    · exact sho_far f l r a n c t s w (fun w' T => (hS2 w' T).mono fun e w'' h => by obtain ⟨B, e1, _, _, h2⟩ := h; exact ⟨B, e1, h2⟩) (Lib.hid hfar)
    · have ht' : decide ((4611686018427387904 : Int) ≤ t) = false := decide_eq_false (by omega)
      have hs' : decide ((4611686018427387904 : Int) ≤ s) = false := decide_eq_false (by omega)
      obtain ⟨l0, o0, o1, r0, rf, f1⟩ := hc.1.over
      have hC := fun w => At_any f l r s w hf hl hr hs
      have hg0 := cAt_nn (F := f) (L := l) (R := r) hf.1 hr.1 hl.1 hs.1
      have hg1 := cAt_le f l r s
      have hgw : Word (cAt f l r s) := ⟨hg0, by omega⟩
      have ht0 := ht.1
      have hs0 := hs.1
      rcases Nat.eq_zero_or_pos n with rfl | hn
      · have hP := fun w => rPlus'_any 0 (cAt f l r s) w ⟨by omega, by omega⟩ hgw
        refine sho_run f l r a 0 c t s w 0 t (t + s) 0 0 _ _ false (fun B w => Rn w B f l r (fun i => (xs i).x) (fun i => (xs i).y) 0) (fun B w w' h hb => h.below hb) ht' hs' hS2
          (fun B w h => bn_last_none _ w (bn_starts_any _ _ _ _ _ _ _ _ _ h)) (by omega) (u64_same _ ⟨by omega, by omega⟩) (fun B w h => Bn.zero_at _ h) (fun B w h => Bn.zero_at _ h) hC hP (Int.le_refl _) (by omega) ?_
        unfold rP
        exact stp_nn (by omega)
      · have hY : ∀ k, 0 ≤ (xs k).y := fun k => (hw k).2.1.1
        have hA := fun t (ht : Word t) (B : Nat) w h => rn_at B f l r t (fun i => (xs i).x) (fun i => (xs i).y) n w hc.1 hY hn ht h
        have hx0 := xS_nn (fun i => (xs i).x) n
        have hx1 := xS_never (fun i => (xs i).x) n
        obtain ⟨p0, p1⟩ := hS_bounds (s := f) (o := 0) (X := fun i => (xs i).x) (Y := fun i => (xs i).y) (by omega) (by omega) hY n
        obtain ⟨q0, q1⟩ := hS_bounds (s := r) (o := (f - r) * l) (X := fun i => (xs i).x) (Y := fun i => (xs i).y) r0 (by omega) hY n
        have hpq := pq_le (L := l) (X := fun i => (xs i).x) hl.1 r0 rf hY hn
        have hd : 0 ≤ max t (xS (fun i => (xs i).x) n) - xS (fun i => (xs i).x) n := by omega
        have hsh := short_run hl.1 r0 rf p0 q0 hd hs0 hpq
        have hmono := gA_mono (p := hS f 0 (fun i => (xs i).x) (fun i => (xs i).y) n) (F := f) (q := hS r ((f - r) * l) (fun i => (xs i).x) (fun i => (xs i).y) n) (R := r) (by omega) r0 (show max t (xS (fun i => (xs i).x) n) - xS (fun i => (xs i).x) n ≤ max t (xS (fun i => (xs i).x) n) - xS (fun i => (xs i).x) n + s by omega)
        have e1 : rA (hS f 0 (fun i => (xs i).x) (fun i => (xs i).y) n) f (hS r ((f - r) * l) (fun i => (xs i).x) (fun i => (xs i).y) n) r (xS (fun i => (xs i).x) n) (max t (xS (fun i => (xs i).x) n)) = gA (hS f 0 (fun i => (xs i).x) (fun i => (xs i).y) n) f (hS r ((f - r) * l) (fun i => (xs i).x) (fun i => (xs i).y) n) r (max t (xS (fun i => (xs i).x) n) - xS (fun i => (xs i).x) n) := by
          unfold rA; congr 1; omega
        have e2 : rA (hS f 0 (fun i => (xs i).x) (fun i => (xs i).y) n) f (hS r ((f - r) * l) (fun i => (xs i).x) (fun i => (xs i).y) n) r (xS (fun i => (xs i).x) n) (max t (xS (fun i => (xs i).x) n) + s) = gA (hS f 0 (fun i => (xs i).x) (fun i => (xs i).y) n) f (hS r ((f - r) * l) (fun i => (xs i).x) (fun i => (xs i).y) n) r (max t (xS (fun i => (xs i).x) n) - xS (fun i => (xs i).x) n + s) := by
          unfold rA; congr 1; omega
        have hA1 := hA (max t (xS (fun i => (xs i).x) n)) ⟨by omega, by omega⟩
        have hA2 := hA (max t (xS (fun i => (xs i).x) n) + s) ⟨by omega, by omega⟩
        rw [e1] at hA1
        rw [e2] at hA2
        have ga := gA_nn (F := f) (R := r) p0 (by omega) q0 r0 hd
        have gb := gA_le (hS f 0 (fun i => (xs i).x) (fun i => (xs i).y) n) f (hS r ((f - r) * l) (fun i => (xs i).x) (fun i => (xs i).y) n) r (max t (xS (fun i => (xs i).x) n) - xS (fun i => (xs i).x) n)
        have hP := fun w => rPlus'_any (gA (hS f 0 (fun i => (xs i).x) (fun i => (xs i).y) n) f (hS r ((f - r) * l) (fun i => (xs i).x) (fun i => (xs i).y) n) r (max t (xS (fun i => (xs i).x) n) - xS (fun i => (xs i).x) n)) (cAt f l r s) w ⟨ga, by omega⟩ hgw
        exact sho_run f l r a n c t s w _ _ _ _ _ _ _ true (fun B w => Rn w B f l r (fun i => (xs i).x) (fun i => (xs i).y) n) (fun B w w' h hb => h.below hb) ht' hs' hS2
          (fun B w h => bn_last_any B _ _ _ _ _ _ _ w h (nat_zero hn)) rfl (u64_same _ ⟨by omega, by omega⟩) hA1 hA2 hC hP hmono (gA_le _ _ _ _ _) hsh
  · exact sho_no f l r a n c t s w fun w' T => (hSt w' T).mono fun e w'' h => by
      obtain ⟨h1, h2⟩ := h
      rcases h1 with ⟨h1, _⟩ | ⟨_, h1⟩
      · exact absurd h1 hc
      · exact ⟨h1, h2⟩
end Go.Proofs.Ytdhfblcheoahaaa
