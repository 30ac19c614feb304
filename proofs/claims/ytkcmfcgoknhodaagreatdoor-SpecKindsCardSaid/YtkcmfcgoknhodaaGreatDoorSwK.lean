/- SpecKinds' walk. Condition: the library's tables and errors are laid; the numbers are what the fields can hold. -/
import Derived.Test.YtkcmfcgoknhodaaGreatDoorSwA
import Derived.Test.YtkcmfcgoknhodaaGreatDoorAtP
namespace Go.Proofs.YtkcmfcgoknhodaaGreatDoor
open Go.RowKit Go.Lib W
set_option linter.unusedVariables false
theorem may_zero {p : Sp} (h : mayN p = 0) : idB p = true ∧ curB p = true ∧ furB p = true ∧ lasB p = true ∧ bouB p = true := by
  unfold mayN at h
  by_cases a : idB p = true <;> by_cases b : curB p = true <;> by_cases c : furB p = true <;> by_cases d : lasB p = true <;> by_cases e : bouB p = true <;> simp [a, b, c, d, e] at h ⊢
theorem may_of {p : Sp} (a : idB p = true) (b : curB p = true) (c : furB p = true) (d : lasB p = true) (e : bouB p = true) : mayN p = 0 := by
  unfold mayN
  rw [if_pos a, if_pos b, if_pos c, if_pos d, if_pos e]
def freed (p : Sp) : Sp := { p with up := Cw.zero }
theorem may_freed {p : Sp} (h : mayN p = 0) : mayN (freed p) = 0 := by
  obtain ⟨a, b, c, d, e⟩ := may_zero h
  have z : mayC Cw.zero = true := by simp [mayC, mayB, Cw.zero]
  have hz : hasC Cw.zero = false := by simp [hasC, Cw.zero]
  refine may_of a ?_ c ?_ ?_
  · simp only [curB, freed, Bool.and_eq_true] at b ⊢
    exact ⟨b.1, z⟩
  · simp only [lasB, freed, Bool.and_eq_true, hz, Bool.false_and, Bool.not_false, Bool.or_true, and_true] at d ⊢
    exact d.1.1
  · simp only [bouB, freed, hz, Bool.not_false, Bool.true_or]
theorem two_le {r u t : Int} {a b : Cv} (h : isBelow a b) (h0 : 0 ≤ t) (h1 : t < 9223372036854775808) : oneW a t ≤ oneW b t := by
  unfold oneW
  rw [if_pos h.1, if_pos h.2.1]
  exact h.2.2 t h0 h1
def Kn (k : Int) (lf nr ns : Bool) (pk bt : Int) : Prop :=
  (k = 1 ∧ lf = true ∧ nr = false ∧ ns = true ∧ pk ≠ 0 ∧ bt ≠ 0) ∨ (k = 2 ∧ lf = true ∧ nr = true ∧ ns = false ∧ pk ≠ 0 ∧ bt ≠ 0) ∨ (k = 3 ∧ lf = true ∧ nr = false ∧ ns = false ∧ pk ≠ 0 ∧ bt ≠ 0) ∨ (k = 4 ∧ lf = false ∧ nr = true ∧ ns = false ∧ pk = 0 ∧ bt = 0)
theorem kn_of {p : Sp} (h : mayN p = 0) : Kn (kindN p) p.leaf (!hasC p.re) (!hasC p.sh) p.pk p.bt := by
  obtain ⟨_, _, c, _, _⟩ := may_zero h
  unfold Kn
  simp only [furB, wi] at c
  simp only [kindN]
  generalize hasC p.re = nr at c ⊢
  generalize hasC p.sh = ns at c ⊢
  generalize p.leaf = lf at c ⊢
  cases lf <;> cases nr <;> cases ns <;> simp at c ⊢ <;> omega
theorem cvrow_one {W : World} {b : Nat} {c : Cw} (h : Bl W b #[.int .u64 c.f, .int .u64 c.l, .int .u64 c.r] 24) : CvRow W b 0 [⟨c.f, c.l, c.r⟩] := by
  refine ⟨h.lt, fun i hi => ?_⟩
  obtain rfl : i = 0 := by simp at hi; omega
  exact ⟨h.cell 0, h.cell 1, h.cell 2⟩
theorem at_one (c : Cw) (t : Int) (b : Nat) (W : World) (hc : c.ok) (h0 : 0 ≤ t) (h1 : t < 9223372036854775808) (h : Bl W b #[.int .u64 c.f, .int .u64 c.l, .int .u64 c.r] 24) :
    Calls Tryz.prog 13 #[.slice (some ⟨b, 0, none⟩) 1 1, .int .u64 t] W fun e w' => e = .returned (.agg #[.int .u64 (oneW ⟨c.f, c.l, c.r⟩ t / 18446744073709551616), .int .u64 (oneW ⟨c.f, c.l, c.r⟩ t % 18446744073709551616)]) ∧ Below W.heap.size W w' := by
  have k := atSum_any [⟨c.f, c.l, c.r⟩] t (some ⟨b, 0, none⟩) 1 1 W (fun x hx => by simp at hx; subst hx; exact hc) ⟨h0, by omega⟩ (by simp) ⟨rfl, Nat.le_refl _, .inr ⟨b, 0, rfl, cvrow_one h⟩⟩
  simpa [sW] using k
theorem le_cmp {re uu : Cw} {t : Int} (hr : re.ok) (hu : uu.ok) (h0 : 0 ≤ t) (h1 : t < 9223372036854775808) (hle : isBelow ⟨re.f, re.l, re.r⟩ ⟨uu.f, uu.l, uu.r⟩) (w : World) :
    Calls Tryz.prog 14 #[.agg #[.int .u64 (oneW ⟨re.f, re.l, re.r⟩ t / 18446744073709551616), .int .u64 (oneW ⟨re.f, re.l, re.r⟩ t % 18446744073709551616)], .agg #[.int .u64 (oneW ⟨uu.f, uu.l, uu.r⟩ t / 18446744073709551616), .int .u64 (oneW ⟨uu.f, uu.l, uu.r⟩ t % 18446744073709551616)]] w fun e w' => (∃ z, e = .returned (.int .i64 z) ∧ z ≤ 0) ∧ Below w.heap.size w w' := by
  have a0 := oneW_nn (c := ⟨re.f, re.l, re.r⟩) hr h0
  have b0 := oneW_nn (c := ⟨uu.f, uu.l, uu.r⟩) hu h0
  have hE : oneW ⟨re.f, re.l, re.r⟩ t ≤ oneW ⟨uu.f, uu.l, uu.r⟩ t := two_le (r := 0) (u := 0) hle h0 h1
  generalize oneW ⟨re.f, re.l, re.r⟩ t = A at a0 hE ⊢
  generalize oneW ⟨uu.f, uu.l, uu.r⟩ t = C at b0 hE ⊢
  refine (Cmp_any _ _ _ _ w ⟨by omega, by omega⟩ ⟨by omega, by omega⟩).mono fun e w' ⟨he, hb⟩ => ⟨⟨_, he, ?_⟩, hb⟩
  unfold cmpW cmpN V
  split
  · omega
  · split
    · omega
    · exfalso; omega
set_option maxHeartbeats 16000000 in
set_option maxRecDepth 100000 in
theorem Kinds_of (ii qq pk bt t k : Int) (lf nr ns nu : Bool) (re sh uu : Cw) (w : World) (hl : Lw w) (ht0 : 0 ≤ t) (ht1 : t < 9223372036854775808) (hr : re.ok) (hu : uu.ok)
    (hM : ∀ w, Calls Tryz.prog 10 #[.agg #[.int .i64 ii, .int .i64 qq, .bool lf, .int .u64 re.f, .int .u64 re.l, .int .u64 re.r, .int .u64 sh.f, .int .u64 sh.l, .int .u64 sh.r, .int .u64 uu.f, .int .u64 uu.l, .int .u64 uu.r, .int .i64 pk, .int .i64 bt]] w fun e w' => e = .returned (.int .i64 0) ∧ Below w.heap.size w w')
    (hF : ∀ w, Calls Tryz.prog 10 #[.agg #[.int .i64 ii, .int .i64 qq, .bool lf, .int .u64 re.f, .int .u64 re.l, .int .u64 re.r, .int .u64 sh.f, .int .u64 sh.l, .int .u64 sh.r, .int .u64 0, .int .u64 0, .int .u64 0, .int .i64 pk, .int .i64 bt]] w fun e w' => e = .returned (.int .i64 0) ∧ Below w.heap.size w w')
    (hK : ∀ w, Calls Tryz.prog 11 #[.agg #[.int .i64 ii, .int .i64 qq, .bool lf, .int .u64 re.f, .int .u64 re.l, .int .u64 re.r, .int .u64 sh.f, .int .u64 sh.l, .int .u64 sh.r, .int .u64 uu.f, .int .u64 uu.l, .int .u64 uu.r, .int .i64 pk, .int .i64 bt]] w fun e w' => e = .returned (.int .u8 k) ∧ Below w.heap.size w w')
    (h1 : ∀ w, Calls Tryz.prog 12 #[.agg #[.int .u64 re.f, .int .u64 re.l, .int .u64 re.r]] w fun e w' => e = .returned (.bool nr) ∧ Below w.heap.size w w')
    (h2 : ∀ w, Calls Tryz.prog 12 #[.agg #[.int .u64 sh.f, .int .u64 sh.l, .int .u64 sh.r]] w fun e w' => e = .returned (.bool ns) ∧ Below w.heap.size w w')
    (h3 : ∀ w, Calls Tryz.prog 12 #[.agg #[.int .u64 uu.f, .int .u64 uu.l, .int .u64 uu.r]] w fun e w' => e = .returned (.bool nu) ∧ Below w.heap.size w w')
    (hkn : Kn k lf nr ns pk bt) (hle : nu = false → isBelow ⟨re.f, re.l, re.r⟩ ⟨uu.f, uu.l, uu.r⟩) :
    Calls Tryz.prog 4 #[.agg #[.int .i64 ii, .int .i64 qq, .bool lf, .int .u64 re.f, .int .u64 re.l, .int .u64 re.r, .int .u64 sh.f, .int .u64 sh.l, .int .u64 sh.r, .int .u64 uu.f, .int .u64 uu.l, .int .u64 uu.r, .int .i64 pk, .int .i64 bt], .int .u64 t] w fun e w' => e = .returned (.bool true) ∧ Below w.heap.size w w' := by
  have hA := awake_any
  have B := Bl.new w TSp #[.int .i64 ii, .int .i64 qq, .bool lf, .int .u64 re.f, .int .u64 re.l, .int .u64 re.r, .int .u64 sh.f, .int .u64 sh.l, .int .u64 sh.r, .int .u64 uu.f, .int .u64 uu.l, .int .u64 uu.r, .int .i64 pk, .int .i64 bt]
  have T := up1 w (.cells #[.int .i64 ii, .int .i64 qq, .bool lf, .int .u64 re.f, .int .u64 re.l, .int .u64 re.r, .int .u64 sh.f, .int .u64 sh.l, .int .u64 sh.r, .int .u64 uu.f, .int .u64 uu.l, .int .u64 uu.r, .int .i64 pk, .int .i64 bt] TSp)
  have htn : ¬ (9223372036854775808 : Int) ≤ t := by omega
  rcases hkn with ⟨rfl, rfl, rfl, rfl, p0, b0⟩ | ⟨rfl, rfl, rfl, rfl, p0, b0⟩ | ⟨rfl, rfl, rfl, rfl, p0, b0⟩ | ⟨rfl, rfl, rfl, rfl, rfl, rfl⟩
  · as_aux_lemma =>
      have p1 : (pk == 0) = false := beq_eq_false_iff_ne.2 p0
      have b1 : (bt == 0) = false := beq_eq_false_iff_ne.2 b0
      go_enter Tryz.func4, Tryz.ntmps4
      go_upto_region 6 with (first
        | (go_at_call 7; (with_reducible refine (hA _ (hl.below T)).mono ?_); rintro e w1 ⟨rfl, hb⟩; replace B := B.below hb; replace T := sps T hb T.size; clear hb; obtain ⟨a0, a1, a2, a3, a4, a5, a6, a7, a8, a9, a10, a11, a12, a13⟩ := id B.at14)
        | (go_at_call 10; (with_reducible refine (hM _).mono ?_); rintro e w2 ⟨rfl, hb⟩; replace B := B.below hb; replace T := sps T hb T.size; clear hb; obtain ⟨b0, b1, b2, b3, b4, b5, b6, b7, b8, b9, b10, b11, b12, b13⟩ := id B.at14)
        | (go_at_call 11; (with_reducible refine (hK _).mono ?_); rintro e w3 ⟨rfl, hb⟩; replace B := B.below hb; replace T := sps T hb T.size; clear hb; obtain ⟨d0, d1, d2, d3, d4, d5, d6, d7, d8, d9, d10, d11, d12, d13⟩ := id B.at14))
      have nBG : w.heap.size ≠ w3.heap.size := by have := B.lt; omega
      have G := Bl.new w3 TSp #[.int .i64 ii, .int .i64 qq, .bool true, .int .u64 re.f, .int .u64 re.l, .int .u64 re.r, .int .u64 sh.f, .int .u64 sh.l, .int .u64 sh.r, .int .u64 uu.f, .int .u64 uu.l, .int .u64 uu.r, .int .i64 pk, .int .i64 bt]
      obtain ⟨g0, g1, g2, g3, g4, g5, g6, g7, g8, g9, g10, g11, g12, g13⟩ := id G.at14
      obtain ⟨t0, t1, t2, t3, t4, t5, t6, t7, t8, t9, t10, t11, t12, t13⟩ := id G.thaw14
      go_upto_region 8 with (fail)
      refine nameW (P := fun W' => Bl W' w.heap.size #[.int .i64 ii, .int .i64 qq, .bool true, .int .u64 re.f, .int .u64 re.l, .int .u64 re.r, .int .u64 sh.f, .int .u64 sh.l, .int .u64 sh.r, .int .u64 uu.f, .int .u64 uu.l, .int .u64 uu.r, .int .i64 pk, .int .i64 bt] TSp ∧ Bl W' w3.heap.size #[.int .i64 ii, .int .i64 qq, .bool true, .int .u64 re.f, .int .u64 re.l, .int .u64 re.r, .int .u64 sh.f, .int .u64 sh.l, .int .u64 sh.r, .int .u64 0, .int .u64 0, .int .u64 0, .int .i64 pk, .int .i64 bt] TSp ∧ Below w.heap.size w W') ⟨B.alloc _, Bl.new _ _ _, T.alloc T.size _⟩ (fun V hV => ?_)
      clear B G T g0 g1 g2 g3 g4 g5 g6 g7 g8 g9 g10 g11 g12 g13 t0 t1 t2 t3 t4 t5 t6 t7 t8 t9 t10 t11 t12 t13
      obtain ⟨B, G, T⟩ := hV
      obtain ⟨m0, m1, m2, m3, m4, m5, m6, m7, m8, m9, m10, m11, m12, m13⟩ := id B.at14
      obtain ⟨n0, n1, n2, n3, n4, n5, n6, n7, n8, n9, n10, n11, n12, n13⟩ := id G.at14
      go_upto_region 12 with (first
        | (go_at_call 10; (with_reducible refine (hF _).mono ?_); rintro e w4 ⟨rfl, hb⟩; replace B := B.below hb; replace T := sps T hb T.size; clear hb; obtain ⟨e0, e1, e2, e3, e4, e5, e6, e7, e8, e9, e10, e11, e12, e13⟩ := id B.at14)
        | (go_at_call 12; (with_reducible refine (h1 _).mono ?_); rintro e w5 ⟨rfl, hb⟩; replace B := B.below hb; replace T := sps T hb T.size; clear hb; obtain ⟨f0, f1, f2, f3, f4, f5, f6, f7, f8, f9, f10, f11, f12, f13⟩ := id B.at14)
        | (go_at_call 12; (with_reducible refine (h2 _).mono ?_); rintro e w6 ⟨rfl, hb⟩; replace B := B.below hb; replace T := sps T hb T.size; clear hb; obtain ⟨x0, x1, x2, x3, x4, x5, x6, x7, x8, x9, x10, x11, x12, x13⟩ := id B.at14))
      cases nu
      · replace hle := hle rfl
        go_upto_region 14 with (first
          | (go_at_call 12; (with_reducible refine (h3 _).mono ?_); rintro e w7 ⟨rfl, hb⟩; replace B := B.below hb; replace T := sps T hb T.size; clear hb; obtain ⟨i0, i1, i2, i3, i4, i5, i6, i7, i8, i9, i10, i11, i12, i13⟩ := id B.at14)
          | (go_at_call 12; (with_reducible refine (h1 _).mono ?_); rintro e w8 ⟨rfl, hb⟩; replace B := B.below hb; replace T := sps T hb T.size; clear hb; obtain ⟨j0, j1, j2, j3, j4, j5, j6, j7, j8, j9, j10, j11, j12, j13⟩ := id B.at14))
        have hG := le_cmp hr hu ht0 ht1 hle
        have hAt1 := fun (b : Nat) (W : World) (h : Bl W b #[.int .u64 re.f, .int .u64 re.l, .int .u64 re.r] 24) => at_one re t b W hr ht0 ht1 h
        have hAt2 := fun (b : Nat) (W : World) (h : Bl W b #[.int .u64 uu.f, .int .u64 uu.l, .int .u64 uu.r] 24) => at_one uu t b W hu ht0 ht1 h
        refine wp_region_held_drew (S := fun w' => Bl w' w.heap.size #[.int .i64 ii, .int .i64 qq, .bool true, .int .u64 re.f, .int .u64 re.l, .int .u64 re.r, .int .u64 sh.f, .int .u64 sh.l, .int .u64 sh.r, .int .u64 uu.f, .int .u64 uu.l, .int .u64 uu.r, .int .i64 pk, .int .i64 bt] TSp) (by kernel_rfl) B.drew (fun hHeld => ?_)
        replace B := B.drew
        replace T := T.drew
        generalize w8.drew = V0 at B T hHeld ⊢
        refine wpAnyH_take (i := 0) (v := ?_) (by simp only [List.getElem?_toArray, List.getElem?_cons_zero]; rfl) (by kernel_rfl) (by kernel_rfl) (by kernel_rfl) (by exact fun _ _ _ h => h) (Or.inl ⟨by rfl, ?_⟩) (by assumption) ?_
        rotate_left
        · (intro w hSw; obtain ⟨c0, c1, c2, c3, c4, c5, c6, c7, c8, c9, c10, c11, c12, c13⟩ := id hSw.at14; go_simp; (try with_reducible rfl))
        try simp only [Act.put, List.setIfInBounds_toArray, List.set_cons_zero, List.set_cons_succ]
        refine wpAnyH_take (i := 1) (v := ?_) (by simp only [List.getElem?_toArray, List.getElem?_cons_zero, List.getElem?_cons_succ]; rfl) (by kernel_rfl) (by kernel_rfl) (by kernel_rfl) (by exact fun _ _ _ h => h) (Or.inl ⟨by rfl, ?_⟩) (by assumption) ?_
        rotate_left
        · (intro w hSw; obtain ⟨c0, c1, c2, c3, c4, c5, c6, c7, c8, c9, c10, c11, c12, c13⟩ := id hSw.at14; go_simp; (try with_reducible rfl))
        try simp only [Act.put, List.setIfInBounds_toArray, List.set_cons_zero, List.set_cons_succ]
        refine wpAnyH_take (i := 3) (v := ?_) (by simp only [List.getElem?_toArray, List.getElem?_cons_zero, List.getElem?_cons_succ]; rfl) (by kernel_rfl) (by kernel_rfl) (by kernel_rfl) (by exact fun _ _ _ h => h) (Or.inl ⟨by rfl, ?_⟩) (by assumption) ?_
        rotate_left
        · (intro w hSw; obtain ⟨c0, c1, c2, c3, c4, c5, c6, c7, c8, c9, c10, c11, c12, c13⟩ := id hSw.at14; go_simp; (try with_reducible rfl))
        try simp only [Act.put, List.setIfInBounds_toArray, List.set_cons_zero, List.set_cons_succ]
        refine wpAnyH_take (i := 5) (v := ?_) (by simp only [List.getElem?_toArray, List.getElem?_cons_zero, List.getElem?_cons_succ]; rfl) (by kernel_rfl) (by kernel_rfl) (by kernel_rfl) (by exact fun _ _ _ h => h) (Or.inl ⟨by rfl, ?_⟩) (by assumption) ?_
        rotate_left
        · (intro w hSw; obtain ⟨c0, c1, c2, c3, c4, c5, c6, c7, c8, c9, c10, c11, c12, c13⟩ := id hSw.at14; go_simp; (try with_reducible rfl))
        try simp only [Act.put, List.setIfInBounds_toArray, List.set_cons_zero, List.set_cons_succ]
        refine wpAnyH_take (i := 6) (v := ?_) (by simp only [List.getElem?_toArray, List.getElem?_cons_zero, List.getElem?_cons_succ]; rfl) (by kernel_rfl) (by kernel_rfl) (by kernel_rfl) (by exact fun _ _ _ h => h) (Or.inl ⟨by rfl, ?_⟩) (by assumption) ?_
        rotate_left
        · (intro w hSw; obtain ⟨c0, c1, c2, c3, c4, c5, c6, c7, c8, c9, c10, c11, c12, c13⟩ := id hSw.at14; go_simp; (try with_reducible rfl))
        try simp only [Act.put, List.setIfInBounds_toArray, List.set_cons_zero, List.set_cons_succ]
        refine wpAnyH_take (i := 8) (v := ?_) (by simp only [List.getElem?_toArray, List.getElem?_cons_zero, List.getElem?_cons_succ]; rfl) (by kernel_rfl) (by kernel_rfl) (by kernel_rfl) (by exact fun _ _ _ h => h) (Or.inl ⟨by rfl, ?_⟩) (by assumption) ?_
        rotate_left
        · (intro w hSw; obtain ⟨c0, c1, c2, c3, c4, c5, c6, c7, c8, c9, c10, c11, c12, c13⟩ := id hSw.at14; go_simp; (try with_reducible rfl))
        try simp only [Act.put, List.setIfInBounds_toArray, List.set_cons_zero, List.set_cons_succ]
        refine wpAnyH_ready (rs := [2, 7]) (by kernel_rfl) (by simp) ?_
        refine AllReadyH.cons (by simp only [List.getElem?_toArray, List.getElem?_cons_zero, List.getElem?_cons_succ]; rfl) (fun K hK => ?_) ?_
        · go_simp
          refine nameW (P := fun W' => Bl W' w.heap.size #[.int .i64 ii, .int .i64 qq, .bool true, .int .u64 re.f, .int .u64 re.l, .int .u64 re.r, .int .u64 sh.f, .int .u64 sh.l, .int .u64 sh.r, .int .u64 uu.f, .int .u64 uu.l, .int .u64 uu.r, .int .i64 pk, .int .i64 bt] TSp ∧ Bl W' V0.heap.size #[.int .u64 re.f, .int .u64 re.l, .int .u64 re.r] 24 ∧ Below w.heap.size w W') ⟨B.alloc _, Bl.new _ _ _, T.alloc T.size _⟩ (fun V2 hV => ?_)
          clear B T 
          obtain ⟨B, X2, T⟩ := hV
          refine hK.out _ _ B (fun hHeld => ?_)
          clear hK K
          try simp only [Act.put, List.setIfInBounds_toArray, List.set_cons_zero, List.set_cons_succ]
          obtain ⟨b2, hb2⟩ : ∃ b, V0.heap.size = b := ⟨_, rfl⟩
          rw [hb2] at X2 ⊢
          clear hb2
          refine wpAnyH_ready (rs := [4, 7]) (by kernel_rfl) (by simp) ?_
          refine AllReadyH.cons (by simp only [List.getElem?_toArray, List.getElem?_cons_zero, List.getElem?_cons_succ]; rfl) (fun K hK => ?_) ?_
          · go_simp
            go_at_call 13
            (with_reducible refine (hAt1 _ _ X2).mono ?_)
            rintro e V24 ⟨rfl, hb⟩
            replace B := B.below hb
            replace X2 := X2.below hb
            replace T := sps T hb T.size
            clear hb
            refine hK.out _ _ B (fun hHeld => ?_)
            clear hK K
            try simp only [Act.put, List.setIfInBounds_toArray, List.set_cons_zero, List.set_cons_succ]
            refine wpAnyH_ready (rs := [7]) (by kernel_rfl) (by simp) ?_
            refine AllReadyH.cons (by simp only [List.getElem?_toArray, List.getElem?_cons_zero, List.getElem?_cons_succ]; rfl) (fun K hK => ?_) AllReadyH.nil
            go_simp
            refine nameW (P := fun W' => Bl W' w.heap.size #[.int .i64 ii, .int .i64 qq, .bool true, .int .u64 re.f, .int .u64 re.l, .int .u64 re.r, .int .u64 sh.f, .int .u64 sh.l, .int .u64 sh.r, .int .u64 uu.f, .int .u64 uu.l, .int .u64 uu.r, .int .i64 pk, .int .i64 bt] TSp ∧ Bl W' b2 #[.int .u64 re.f, .int .u64 re.l, .int .u64 re.r] 24 ∧ Bl W' V24.heap.size #[.int .u64 uu.f, .int .u64 uu.l, .int .u64 uu.r] 24 ∧ Below w.heap.size w W') ⟨B.alloc _, X2.alloc _, Bl.new _ _ _, T.alloc T.size _⟩ (fun V247 hV => ?_)
            clear B T X2
            obtain ⟨B, X2, X7, T⟩ := hV
            refine hK.out _ _ B (fun hHeld => ?_)
            clear hK K
            try simp only [Act.put, List.setIfInBounds_toArray, List.set_cons_zero, List.set_cons_succ]
            obtain ⟨b7, hb7⟩ : ∃ b, V24.heap.size = b := ⟨_, rfl⟩
            rw [hb7] at X7 ⊢
            clear hb7
            refine wpAnyH_ready (rs := [9]) (by kernel_rfl) (by simp) ?_
            refine AllReadyH.cons (by simp only [List.getElem?_toArray, List.getElem?_cons_zero, List.getElem?_cons_succ]; rfl) (fun K hK => ?_) AllReadyH.nil
            go_simp
            go_at_call 13
            (with_reducible refine (hAt2 _ _ X7).mono ?_)
            rintro e V2479 ⟨rfl, hb⟩
            replace B := B.below hb
            replace X2 := X2.below hb
            replace X7 := X7.below hb
            replace T := sps T hb T.size
            clear hb
            refine hK.out _ _ B (fun hHeld => ?_)
            clear hK K
            try simp only [Act.put, List.setIfInBounds_toArray, List.set_cons_zero, List.set_cons_succ]
            refine wpAnyH_ready (rs := [10]) (by kernel_rfl) (by simp) ?_
            refine AllReadyH.cons (by simp only [List.getElem?_toArray, List.getElem?_cons_zero, List.getElem?_cons_succ]; rfl) (fun K hK => ?_) AllReadyH.nil
            go_simp
            go_at_call 14
            (with_reducible refine (hG _).mono ?_)
            rintro e u10 ⟨⟨z, rfl, hz⟩, hb⟩
            replace B := B.below hb
            replace T := sps T hb T.size
            clear hb
            refine hK.out _ _ B (fun hHeld => ?_)
            clear hK K
            try simp only [Act.put, List.setIfInBounds_toArray, List.set_cons_zero, List.set_cons_succ]
            refine wpAnyH_take (i := 11) (v := ?_) (by simp only [List.getElem?_toArray, List.getElem?_cons_zero, List.getElem?_cons_succ]; rfl) (by kernel_rfl) (by kernel_rfl) (by kernel_rfl) (by exact fun _ _ _ h => h) (Or.inl ⟨by rfl, ?_⟩) (by assumption) ?_
            rotate_left
            · (intro w hSw; go_simp; (try with_reducible rfl))
            try simp only [Act.put, List.setIfInBounds_toArray, List.set_cons_zero, List.set_cons_succ]
            refine wpAnyH_take (i := 12) (v := ?_) (by simp only [List.getElem?_toArray, List.getElem?_cons_zero, List.getElem?_cons_succ]; rfl) (by kernel_rfl) (by kernel_rfl) (by kernel_rfl) (by exact fun _ _ _ h => h) (Or.inl ⟨by rfl, ?_⟩) (by assumption) ?_
            rotate_left
            · (intro w hSw; go_simp; (try with_reducible rfl))
            try simp only [Act.put, List.setIfInBounds_toArray, List.set_cons_zero, List.set_cons_succ]
            refine wpAnyH_done (by kernel_rfl) ?_ _
            go_wp2_with fail
            go_ret
            exact ⟨by simp, T⟩
          refine AllReadyH.cons (by simp only [List.getElem?_toArray, List.getElem?_cons_zero, List.getElem?_cons_succ]; rfl) (fun K hK => ?_) AllReadyH.nil
          go_simp
          refine nameW (P := fun W' => Bl W' w.heap.size #[.int .i64 ii, .int .i64 qq, .bool true, .int .u64 re.f, .int .u64 re.l, .int .u64 re.r, .int .u64 sh.f, .int .u64 sh.l, .int .u64 sh.r, .int .u64 uu.f, .int .u64 uu.l, .int .u64 uu.r, .int .i64 pk, .int .i64 bt] TSp ∧ Bl W' b2 #[.int .u64 re.f, .int .u64 re.l, .int .u64 re.r] 24 ∧ Bl W' V2.heap.size #[.int .u64 uu.f, .int .u64 uu.l, .int .u64 uu.r] 24 ∧ Below w.heap.size w W') ⟨B.alloc _, X2.alloc _, Bl.new _ _ _, T.alloc T.size _⟩ (fun V27 hV => ?_)
          clear B T X2
          obtain ⟨B, X2, X7, T⟩ := hV
          refine hK.out _ _ B (fun hHeld => ?_)
          clear hK K
          try simp only [Act.put, List.setIfInBounds_toArray, List.set_cons_zero, List.set_cons_succ]
          obtain ⟨b7, hb7⟩ : ∃ b, V2.heap.size = b := ⟨_, rfl⟩
          rw [hb7] at X7 ⊢
          clear hb7
          refine wpAnyH_ready (rs := [4]) (by kernel_rfl) (by simp) ?_
          refine AllReadyH.cons (by simp only [List.getElem?_toArray, List.getElem?_cons_zero, List.getElem?_cons_succ]; rfl) (fun K hK => ?_) AllReadyH.nil
          go_simp
          go_at_call 13
          (with_reducible refine (hAt1 _ _ X2).mono ?_)
          rintro e V274 ⟨rfl, hb⟩
          replace B := B.below hb
          replace X2 := X2.below hb
          replace X7 := X7.below hb
          replace T := sps T hb T.size
          clear hb
          refine hK.out _ _ B (fun hHeld => ?_)
          clear hK K
          try simp only [Act.put, List.setIfInBounds_toArray, List.set_cons_zero, List.set_cons_succ]
          refine wpAnyH_ready (rs := [9]) (by kernel_rfl) (by simp) ?_
          refine AllReadyH.cons (by simp only [List.getElem?_toArray, List.getElem?_cons_zero, List.getElem?_cons_succ]; rfl) (fun K hK => ?_) AllReadyH.nil
          go_simp
          go_at_call 13
          (with_reducible refine (hAt2 _ _ X7).mono ?_)
          rintro e V2749 ⟨rfl, hb⟩
          replace B := B.below hb
          replace X2 := X2.below hb
          replace X7 := X7.below hb
          replace T := sps T hb T.size
          clear hb
          refine hK.out _ _ B (fun hHeld => ?_)
          clear hK K
          try simp only [Act.put, List.setIfInBounds_toArray, List.set_cons_zero, List.set_cons_succ]
          refine wpAnyH_ready (rs := [10]) (by kernel_rfl) (by simp) ?_
          refine AllReadyH.cons (by simp only [List.getElem?_toArray, List.getElem?_cons_zero, List.getElem?_cons_succ]; rfl) (fun K hK => ?_) AllReadyH.nil
          go_simp
          go_at_call 14
          (with_reducible refine (hG _).mono ?_)
          rintro e u10 ⟨⟨z, rfl, hz⟩, hb⟩
          replace B := B.below hb
          replace T := sps T hb T.size
          clear hb
          refine hK.out _ _ B (fun hHeld => ?_)
          clear hK K
          try simp only [Act.put, List.setIfInBounds_toArray, List.set_cons_zero, List.set_cons_succ]
          refine wpAnyH_take (i := 11) (v := ?_) (by simp only [List.getElem?_toArray, List.getElem?_cons_zero, List.getElem?_cons_succ]; rfl) (by kernel_rfl) (by kernel_rfl) (by kernel_rfl) (by exact fun _ _ _ h => h) (Or.inl ⟨by rfl, ?_⟩) (by assumption) ?_
          rotate_left
          · (intro w hSw; go_simp; (try with_reducible rfl))
          try simp only [Act.put, List.setIfInBounds_toArray, List.set_cons_zero, List.set_cons_succ]
          refine wpAnyH_take (i := 12) (v := ?_) (by simp only [List.getElem?_toArray, List.getElem?_cons_zero, List.getElem?_cons_succ]; rfl) (by kernel_rfl) (by kernel_rfl) (by kernel_rfl) (by exact fun _ _ _ h => h) (Or.inl ⟨by rfl, ?_⟩) (by assumption) ?_
          rotate_left
          · (intro w hSw; go_simp; (try with_reducible rfl))
          try simp only [Act.put, List.setIfInBounds_toArray, List.set_cons_zero, List.set_cons_succ]
          refine wpAnyH_done (by kernel_rfl) ?_ _
          go_wp2_with fail
          go_ret
          exact ⟨by simp, T⟩
        refine AllReadyH.cons (by simp only [List.getElem?_toArray, List.getElem?_cons_zero, List.getElem?_cons_succ]; rfl) (fun K hK => ?_) AllReadyH.nil
        go_simp
        refine nameW (P := fun W' => Bl W' w.heap.size #[.int .i64 ii, .int .i64 qq, .bool true, .int .u64 re.f, .int .u64 re.l, .int .u64 re.r, .int .u64 sh.f, .int .u64 sh.l, .int .u64 sh.r, .int .u64 uu.f, .int .u64 uu.l, .int .u64 uu.r, .int .i64 pk, .int .i64 bt] TSp ∧ Bl W' V0.heap.size #[.int .u64 uu.f, .int .u64 uu.l, .int .u64 uu.r] 24 ∧ Below w.heap.size w W') ⟨B.alloc _, Bl.new _ _ _, T.alloc T.size _⟩ (fun V7 hV => ?_)
        clear B T 
        obtain ⟨B, X7, T⟩ := hV
        refine hK.out _ _ B (fun hHeld => ?_)
        clear hK K
        try simp only [Act.put, List.setIfInBounds_toArray, List.set_cons_zero, List.set_cons_succ]
        obtain ⟨b7, hb7⟩ : ∃ b, V0.heap.size = b := ⟨_, rfl⟩
        rw [hb7] at X7 ⊢
        clear hb7
        refine wpAnyH_ready (rs := [2]) (by kernel_rfl) (by simp) ?_
        refine AllReadyH.cons (by simp only [List.getElem?_toArray, List.getElem?_cons_zero, List.getElem?_cons_succ]; rfl) (fun K hK => ?_) AllReadyH.nil
        go_simp
        refine nameW (P := fun W' => Bl W' w.heap.size #[.int .i64 ii, .int .i64 qq, .bool true, .int .u64 re.f, .int .u64 re.l, .int .u64 re.r, .int .u64 sh.f, .int .u64 sh.l, .int .u64 sh.r, .int .u64 uu.f, .int .u64 uu.l, .int .u64 uu.r, .int .i64 pk, .int .i64 bt] TSp ∧ Bl W' b7 #[.int .u64 uu.f, .int .u64 uu.l, .int .u64 uu.r] 24 ∧ Bl W' V7.heap.size #[.int .u64 re.f, .int .u64 re.l, .int .u64 re.r] 24 ∧ Below w.heap.size w W') ⟨B.alloc _, X7.alloc _, Bl.new _ _ _, T.alloc T.size _⟩ (fun V72 hV => ?_)
        clear B T X7
        obtain ⟨B, X7, X2, T⟩ := hV
        refine hK.out _ _ B (fun hHeld => ?_)
        clear hK K
        try simp only [Act.put, List.setIfInBounds_toArray, List.set_cons_zero, List.set_cons_succ]
        obtain ⟨b2, hb2⟩ : ∃ b, V7.heap.size = b := ⟨_, rfl⟩
        rw [hb2] at X2 ⊢
        clear hb2
        refine wpAnyH_ready (rs := [4]) (by kernel_rfl) (by simp) ?_
        refine AllReadyH.cons (by simp only [List.getElem?_toArray, List.getElem?_cons_zero, List.getElem?_cons_succ]; rfl) (fun K hK => ?_) AllReadyH.nil
        go_simp
        go_at_call 13
        (with_reducible refine (hAt1 _ _ X2).mono ?_)
        rintro e V724 ⟨rfl, hb⟩
        replace B := B.below hb
        replace X2 := X2.below hb
        replace X7 := X7.below hb
        replace T := sps T hb T.size
        clear hb
        refine hK.out _ _ B (fun hHeld => ?_)
        clear hK K
        try simp only [Act.put, List.setIfInBounds_toArray, List.set_cons_zero, List.set_cons_succ]
        refine wpAnyH_ready (rs := [9]) (by kernel_rfl) (by simp) ?_
        refine AllReadyH.cons (by simp only [List.getElem?_toArray, List.getElem?_cons_zero, List.getElem?_cons_succ]; rfl) (fun K hK => ?_) AllReadyH.nil
        go_simp
        go_at_call 13
        (with_reducible refine (hAt2 _ _ X7).mono ?_)
        rintro e V7249 ⟨rfl, hb⟩
        replace B := B.below hb
        replace X2 := X2.below hb
        replace X7 := X7.below hb
        replace T := sps T hb T.size
        clear hb
        refine hK.out _ _ B (fun hHeld => ?_)
        clear hK K
        try simp only [Act.put, List.setIfInBounds_toArray, List.set_cons_zero, List.set_cons_succ]
        refine wpAnyH_ready (rs := [10]) (by kernel_rfl) (by simp) ?_
        refine AllReadyH.cons (by simp only [List.getElem?_toArray, List.getElem?_cons_zero, List.getElem?_cons_succ]; rfl) (fun K hK => ?_) AllReadyH.nil
        go_simp
        go_at_call 14
        (with_reducible refine (hG _).mono ?_)
        rintro e u10 ⟨⟨z, rfl, hz⟩, hb⟩
        replace B := B.below hb
        replace T := sps T hb T.size
        clear hb
        refine hK.out _ _ B (fun hHeld => ?_)
        clear hK K
        try simp only [Act.put, List.setIfInBounds_toArray, List.set_cons_zero, List.set_cons_succ]
        refine wpAnyH_take (i := 11) (v := ?_) (by simp only [List.getElem?_toArray, List.getElem?_cons_zero, List.getElem?_cons_succ]; rfl) (by kernel_rfl) (by kernel_rfl) (by kernel_rfl) (by exact fun _ _ _ h => h) (Or.inl ⟨by rfl, ?_⟩) (by assumption) ?_
        rotate_left
        · (intro w hSw; go_simp; (try with_reducible rfl))
        try simp only [Act.put, List.setIfInBounds_toArray, List.set_cons_zero, List.set_cons_succ]
        refine wpAnyH_take (i := 12) (v := ?_) (by simp only [List.getElem?_toArray, List.getElem?_cons_zero, List.getElem?_cons_succ]; rfl) (by kernel_rfl) (by kernel_rfl) (by kernel_rfl) (by exact fun _ _ _ h => h) (Or.inl ⟨by rfl, ?_⟩) (by assumption) ?_
        rotate_left
        · (intro w hSw; go_simp; (try with_reducible rfl))
        try simp only [Act.put, List.setIfInBounds_toArray, List.set_cons_zero, List.set_cons_succ]
        refine wpAnyH_done (by kernel_rfl) ?_ _
        go_wp2_with fail
        go_ret
        exact ⟨by simp, T⟩
      · go_wp2_with (first
          | (go_at_call 12; (with_reducible refine (h3 _).mono ?_); rintro e w7 ⟨rfl, hb⟩; replace B := B.below hb; replace T := sps T hb T.size; clear hb; ))
        go_ret
        exact ⟨by simp, T⟩
  · as_aux_lemma =>
      have p1 : (pk == 0) = false := beq_eq_false_iff_ne.2 p0
      have b1 : (bt == 0) = false := beq_eq_false_iff_ne.2 b0
      go_enter Tryz.func4, Tryz.ntmps4
      go_upto_region 6 with (first
        | (go_at_call 7; (with_reducible refine (hA _ (hl.below T)).mono ?_); rintro e w1 ⟨rfl, hb⟩; replace B := B.below hb; replace T := sps T hb T.size; clear hb; obtain ⟨a0, a1, a2, a3, a4, a5, a6, a7, a8, a9, a10, a11, a12, a13⟩ := id B.at14)
        | (go_at_call 10; (with_reducible refine (hM _).mono ?_); rintro e w2 ⟨rfl, hb⟩; replace B := B.below hb; replace T := sps T hb T.size; clear hb; obtain ⟨b0, b1, b2, b3, b4, b5, b6, b7, b8, b9, b10, b11, b12, b13⟩ := id B.at14)
        | (go_at_call 11; (with_reducible refine (hK _).mono ?_); rintro e w3 ⟨rfl, hb⟩; replace B := B.below hb; replace T := sps T hb T.size; clear hb; obtain ⟨d0, d1, d2, d3, d4, d5, d6, d7, d8, d9, d10, d11, d12, d13⟩ := id B.at14))
      have nBG : w.heap.size ≠ w3.heap.size := by have := B.lt; omega
      have G := Bl.new w3 TSp #[.int .i64 ii, .int .i64 qq, .bool true, .int .u64 re.f, .int .u64 re.l, .int .u64 re.r, .int .u64 sh.f, .int .u64 sh.l, .int .u64 sh.r, .int .u64 uu.f, .int .u64 uu.l, .int .u64 uu.r, .int .i64 pk, .int .i64 bt]
      obtain ⟨g0, g1, g2, g3, g4, g5, g6, g7, g8, g9, g10, g11, g12, g13⟩ := id G.at14
      obtain ⟨t0, t1, t2, t3, t4, t5, t6, t7, t8, t9, t10, t11, t12, t13⟩ := id G.thaw14
      go_upto_region 8 with (fail)
      refine nameW (P := fun W' => Bl W' w.heap.size #[.int .i64 ii, .int .i64 qq, .bool true, .int .u64 re.f, .int .u64 re.l, .int .u64 re.r, .int .u64 sh.f, .int .u64 sh.l, .int .u64 sh.r, .int .u64 uu.f, .int .u64 uu.l, .int .u64 uu.r, .int .i64 pk, .int .i64 bt] TSp ∧ Bl W' w3.heap.size #[.int .i64 ii, .int .i64 qq, .bool true, .int .u64 re.f, .int .u64 re.l, .int .u64 re.r, .int .u64 sh.f, .int .u64 sh.l, .int .u64 sh.r, .int .u64 0, .int .u64 0, .int .u64 0, .int .i64 pk, .int .i64 bt] TSp ∧ Below w.heap.size w W') ⟨B.alloc _, Bl.new _ _ _, T.alloc T.size _⟩ (fun V hV => ?_)
      clear B G T g0 g1 g2 g3 g4 g5 g6 g7 g8 g9 g10 g11 g12 g13 t0 t1 t2 t3 t4 t5 t6 t7 t8 t9 t10 t11 t12 t13
      obtain ⟨B, G, T⟩ := hV
      obtain ⟨m0, m1, m2, m3, m4, m5, m6, m7, m8, m9, m10, m11, m12, m13⟩ := id B.at14
      obtain ⟨n0, n1, n2, n3, n4, n5, n6, n7, n8, n9, n10, n11, n12, n13⟩ := id G.at14
      go_upto_region 12 with (first
        | (go_at_call 10; (with_reducible refine (hF _).mono ?_); rintro e w4 ⟨rfl, hb⟩; replace B := B.below hb; replace T := sps T hb T.size; clear hb; obtain ⟨e0, e1, e2, e3, e4, e5, e6, e7, e8, e9, e10, e11, e12, e13⟩ := id B.at14)
        | (go_at_call 12; (with_reducible refine (h1 _).mono ?_); rintro e w5 ⟨rfl, hb⟩; replace B := B.below hb; replace T := sps T hb T.size; clear hb; obtain ⟨f0, f1, f2, f3, f4, f5, f6, f7, f8, f9, f10, f11, f12, f13⟩ := id B.at14)
        | (go_at_call 12; (with_reducible refine (h2 _).mono ?_); rintro e w6 ⟨rfl, hb⟩; replace B := B.below hb; replace T := sps T hb T.size; clear hb; obtain ⟨x0, x1, x2, x3, x4, x5, x6, x7, x8, x9, x10, x11, x12, x13⟩ := id B.at14))
      cases nu
      · go_wp2_with (first
          | (go_at_call 12; (with_reducible refine (h3 _).mono ?_); rintro e w7 ⟨rfl, hb⟩; replace B := B.below hb; replace T := sps T hb T.size; clear hb; obtain ⟨i0, i1, i2, i3, i4, i5, i6, i7, i8, i9, i10, i11, i12, i13⟩ := id B.at14)
          | (go_at_call 12; (with_reducible refine (h1 _).mono ?_); rintro e w8 ⟨rfl, hb⟩; replace B := B.below hb; replace T := sps T hb T.size; clear hb; ))
        go_ret
        exact ⟨by simp, T⟩
      · go_wp2_with (first
          | (go_at_call 12; (with_reducible refine (h3 _).mono ?_); rintro e w7 ⟨rfl, hb⟩; replace B := B.below hb; replace T := sps T hb T.size; clear hb; ))
        go_ret
        exact ⟨by simp, T⟩
  · as_aux_lemma =>
      have p1 : (pk == 0) = false := beq_eq_false_iff_ne.2 p0
      have b1 : (bt == 0) = false := beq_eq_false_iff_ne.2 b0
      go_enter Tryz.func4, Tryz.ntmps4
      go_upto_region 6 with (first
        | (go_at_call 7; (with_reducible refine (hA _ (hl.below T)).mono ?_); rintro e w1 ⟨rfl, hb⟩; replace B := B.below hb; replace T := sps T hb T.size; clear hb; obtain ⟨a0, a1, a2, a3, a4, a5, a6, a7, a8, a9, a10, a11, a12, a13⟩ := id B.at14)
        | (go_at_call 10; (with_reducible refine (hM _).mono ?_); rintro e w2 ⟨rfl, hb⟩; replace B := B.below hb; replace T := sps T hb T.size; clear hb; obtain ⟨b0, b1, b2, b3, b4, b5, b6, b7, b8, b9, b10, b11, b12, b13⟩ := id B.at14)
        | (go_at_call 11; (with_reducible refine (hK _).mono ?_); rintro e w3 ⟨rfl, hb⟩; replace B := B.below hb; replace T := sps T hb T.size; clear hb; obtain ⟨d0, d1, d2, d3, d4, d5, d6, d7, d8, d9, d10, d11, d12, d13⟩ := id B.at14))
      have nBG : w.heap.size ≠ w3.heap.size := by have := B.lt; omega
      have G := Bl.new w3 TSp #[.int .i64 ii, .int .i64 qq, .bool true, .int .u64 re.f, .int .u64 re.l, .int .u64 re.r, .int .u64 sh.f, .int .u64 sh.l, .int .u64 sh.r, .int .u64 uu.f, .int .u64 uu.l, .int .u64 uu.r, .int .i64 pk, .int .i64 bt]
      obtain ⟨g0, g1, g2, g3, g4, g5, g6, g7, g8, g9, g10, g11, g12, g13⟩ := id G.at14
      obtain ⟨t0, t1, t2, t3, t4, t5, t6, t7, t8, t9, t10, t11, t12, t13⟩ := id G.thaw14
      go_upto_region 8 with (fail)
      refine nameW (P := fun W' => Bl W' w.heap.size #[.int .i64 ii, .int .i64 qq, .bool true, .int .u64 re.f, .int .u64 re.l, .int .u64 re.r, .int .u64 sh.f, .int .u64 sh.l, .int .u64 sh.r, .int .u64 uu.f, .int .u64 uu.l, .int .u64 uu.r, .int .i64 pk, .int .i64 bt] TSp ∧ Bl W' w3.heap.size #[.int .i64 ii, .int .i64 qq, .bool true, .int .u64 re.f, .int .u64 re.l, .int .u64 re.r, .int .u64 sh.f, .int .u64 sh.l, .int .u64 sh.r, .int .u64 0, .int .u64 0, .int .u64 0, .int .i64 pk, .int .i64 bt] TSp ∧ Below w.heap.size w W') ⟨B.alloc _, Bl.new _ _ _, T.alloc T.size _⟩ (fun V hV => ?_)
      clear B G T g0 g1 g2 g3 g4 g5 g6 g7 g8 g9 g10 g11 g12 g13 t0 t1 t2 t3 t4 t5 t6 t7 t8 t9 t10 t11 t12 t13
      obtain ⟨B, G, T⟩ := hV
      obtain ⟨m0, m1, m2, m3, m4, m5, m6, m7, m8, m9, m10, m11, m12, m13⟩ := id B.at14
      obtain ⟨n0, n1, n2, n3, n4, n5, n6, n7, n8, n9, n10, n11, n12, n13⟩ := id G.at14
      go_upto_region 12 with (first
        | (go_at_call 10; (with_reducible refine (hF _).mono ?_); rintro e w4 ⟨rfl, hb⟩; replace B := B.below hb; replace T := sps T hb T.size; clear hb; obtain ⟨e0, e1, e2, e3, e4, e5, e6, e7, e8, e9, e10, e11, e12, e13⟩ := id B.at14)
        | (go_at_call 12; (with_reducible refine (h1 _).mono ?_); rintro e w5 ⟨rfl, hb⟩; replace B := B.below hb; replace T := sps T hb T.size; clear hb; obtain ⟨f0, f1, f2, f3, f4, f5, f6, f7, f8, f9, f10, f11, f12, f13⟩ := id B.at14)
        | (go_at_call 12; (with_reducible refine (h2 _).mono ?_); rintro e w6 ⟨rfl, hb⟩; replace B := B.below hb; replace T := sps T hb T.size; clear hb; obtain ⟨x0, x1, x2, x3, x4, x5, x6, x7, x8, x9, x10, x11, x12, x13⟩ := id B.at14))
      cases nu
      · replace hle := hle rfl
        go_upto_region 14 with (first
          | (go_at_call 12; (with_reducible refine (h3 _).mono ?_); rintro e w7 ⟨rfl, hb⟩; replace B := B.below hb; replace T := sps T hb T.size; clear hb; obtain ⟨i0, i1, i2, i3, i4, i5, i6, i7, i8, i9, i10, i11, i12, i13⟩ := id B.at14)
          | (go_at_call 12; (with_reducible refine (h1 _).mono ?_); rintro e w8 ⟨rfl, hb⟩; replace B := B.below hb; replace T := sps T hb T.size; clear hb; obtain ⟨j0, j1, j2, j3, j4, j5, j6, j7, j8, j9, j10, j11, j12, j13⟩ := id B.at14))
        have hG := le_cmp hr hu ht0 ht1 hle
        have hAt1 := fun (b : Nat) (W : World) (h : Bl W b #[.int .u64 re.f, .int .u64 re.l, .int .u64 re.r] 24) => at_one re t b W hr ht0 ht1 h
        have hAt2 := fun (b : Nat) (W : World) (h : Bl W b #[.int .u64 uu.f, .int .u64 uu.l, .int .u64 uu.r] 24) => at_one uu t b W hu ht0 ht1 h
        refine wp_region_held_drew (S := fun w' => Bl w' w.heap.size #[.int .i64 ii, .int .i64 qq, .bool true, .int .u64 re.f, .int .u64 re.l, .int .u64 re.r, .int .u64 sh.f, .int .u64 sh.l, .int .u64 sh.r, .int .u64 uu.f, .int .u64 uu.l, .int .u64 uu.r, .int .i64 pk, .int .i64 bt] TSp) (by kernel_rfl) B.drew (fun hHeld => ?_)
        replace B := B.drew
        replace T := T.drew
        generalize w8.drew = V0 at B T hHeld ⊢
        refine wpAnyH_take (i := 0) (v := ?_) (by simp only [List.getElem?_toArray, List.getElem?_cons_zero]; rfl) (by kernel_rfl) (by kernel_rfl) (by kernel_rfl) (by exact fun _ _ _ h => h) (Or.inl ⟨by rfl, ?_⟩) (by assumption) ?_
        rotate_left
        · (intro w hSw; obtain ⟨c0, c1, c2, c3, c4, c5, c6, c7, c8, c9, c10, c11, c12, c13⟩ := id hSw.at14; go_simp; (try with_reducible rfl))
        try simp only [Act.put, List.setIfInBounds_toArray, List.set_cons_zero, List.set_cons_succ]
        refine wpAnyH_take (i := 1) (v := ?_) (by simp only [List.getElem?_toArray, List.getElem?_cons_zero, List.getElem?_cons_succ]; rfl) (by kernel_rfl) (by kernel_rfl) (by kernel_rfl) (by exact fun _ _ _ h => h) (Or.inl ⟨by rfl, ?_⟩) (by assumption) ?_
        rotate_left
        · (intro w hSw; obtain ⟨c0, c1, c2, c3, c4, c5, c6, c7, c8, c9, c10, c11, c12, c13⟩ := id hSw.at14; go_simp; (try with_reducible rfl))
        try simp only [Act.put, List.setIfInBounds_toArray, List.set_cons_zero, List.set_cons_succ]
        refine wpAnyH_take (i := 3) (v := ?_) (by simp only [List.getElem?_toArray, List.getElem?_cons_zero, List.getElem?_cons_succ]; rfl) (by kernel_rfl) (by kernel_rfl) (by kernel_rfl) (by exact fun _ _ _ h => h) (Or.inl ⟨by rfl, ?_⟩) (by assumption) ?_
        rotate_left
        · (intro w hSw; obtain ⟨c0, c1, c2, c3, c4, c5, c6, c7, c8, c9, c10, c11, c12, c13⟩ := id hSw.at14; go_simp; (try with_reducible rfl))
        try simp only [Act.put, List.setIfInBounds_toArray, List.set_cons_zero, List.set_cons_succ]
        refine wpAnyH_take (i := 5) (v := ?_) (by simp only [List.getElem?_toArray, List.getElem?_cons_zero, List.getElem?_cons_succ]; rfl) (by kernel_rfl) (by kernel_rfl) (by kernel_rfl) (by exact fun _ _ _ h => h) (Or.inl ⟨by rfl, ?_⟩) (by assumption) ?_
        rotate_left
        · (intro w hSw; obtain ⟨c0, c1, c2, c3, c4, c5, c6, c7, c8, c9, c10, c11, c12, c13⟩ := id hSw.at14; go_simp; (try with_reducible rfl))
        try simp only [Act.put, List.setIfInBounds_toArray, List.set_cons_zero, List.set_cons_succ]
        refine wpAnyH_take (i := 6) (v := ?_) (by simp only [List.getElem?_toArray, List.getElem?_cons_zero, List.getElem?_cons_succ]; rfl) (by kernel_rfl) (by kernel_rfl) (by kernel_rfl) (by exact fun _ _ _ h => h) (Or.inl ⟨by rfl, ?_⟩) (by assumption) ?_
        rotate_left
        · (intro w hSw; obtain ⟨c0, c1, c2, c3, c4, c5, c6, c7, c8, c9, c10, c11, c12, c13⟩ := id hSw.at14; go_simp; (try with_reducible rfl))
        try simp only [Act.put, List.setIfInBounds_toArray, List.set_cons_zero, List.set_cons_succ]
        refine wpAnyH_take (i := 8) (v := ?_) (by simp only [List.getElem?_toArray, List.getElem?_cons_zero, List.getElem?_cons_succ]; rfl) (by kernel_rfl) (by kernel_rfl) (by kernel_rfl) (by exact fun _ _ _ h => h) (Or.inl ⟨by rfl, ?_⟩) (by assumption) ?_
        rotate_left
        · (intro w hSw; obtain ⟨c0, c1, c2, c3, c4, c5, c6, c7, c8, c9, c10, c11, c12, c13⟩ := id hSw.at14; go_simp; (try with_reducible rfl))
        try simp only [Act.put, List.setIfInBounds_toArray, List.set_cons_zero, List.set_cons_succ]
        refine wpAnyH_ready (rs := [2, 7]) (by kernel_rfl) (by simp) ?_
        refine AllReadyH.cons (by simp only [List.getElem?_toArray, List.getElem?_cons_zero, List.getElem?_cons_succ]; rfl) (fun K hK => ?_) ?_
        · go_simp
          refine nameW (P := fun W' => Bl W' w.heap.size #[.int .i64 ii, .int .i64 qq, .bool true, .int .u64 re.f, .int .u64 re.l, .int .u64 re.r, .int .u64 sh.f, .int .u64 sh.l, .int .u64 sh.r, .int .u64 uu.f, .int .u64 uu.l, .int .u64 uu.r, .int .i64 pk, .int .i64 bt] TSp ∧ Bl W' V0.heap.size #[.int .u64 re.f, .int .u64 re.l, .int .u64 re.r] 24 ∧ Below w.heap.size w W') ⟨B.alloc _, Bl.new _ _ _, T.alloc T.size _⟩ (fun V2 hV => ?_)
          clear B T 
          obtain ⟨B, X2, T⟩ := hV
          refine hK.out _ _ B (fun hHeld => ?_)
          clear hK K
          try simp only [Act.put, List.setIfInBounds_toArray, List.set_cons_zero, List.set_cons_succ]
          obtain ⟨b2, hb2⟩ : ∃ b, V0.heap.size = b := ⟨_, rfl⟩
          rw [hb2] at X2 ⊢
          clear hb2
          refine wpAnyH_ready (rs := [4, 7]) (by kernel_rfl) (by simp) ?_
          refine AllReadyH.cons (by simp only [List.getElem?_toArray, List.getElem?_cons_zero, List.getElem?_cons_succ]; rfl) (fun K hK => ?_) ?_
          · go_simp
            go_at_call 13
            (with_reducible refine (hAt1 _ _ X2).mono ?_)
            rintro e V24 ⟨rfl, hb⟩
            replace B := B.below hb
            replace X2 := X2.below hb
            replace T := sps T hb T.size
            clear hb
            refine hK.out _ _ B (fun hHeld => ?_)
            clear hK K
            try simp only [Act.put, List.setIfInBounds_toArray, List.set_cons_zero, List.set_cons_succ]
            refine wpAnyH_ready (rs := [7]) (by kernel_rfl) (by simp) ?_
            refine AllReadyH.cons (by simp only [List.getElem?_toArray, List.getElem?_cons_zero, List.getElem?_cons_succ]; rfl) (fun K hK => ?_) AllReadyH.nil
            go_simp
            refine nameW (P := fun W' => Bl W' w.heap.size #[.int .i64 ii, .int .i64 qq, .bool true, .int .u64 re.f, .int .u64 re.l, .int .u64 re.r, .int .u64 sh.f, .int .u64 sh.l, .int .u64 sh.r, .int .u64 uu.f, .int .u64 uu.l, .int .u64 uu.r, .int .i64 pk, .int .i64 bt] TSp ∧ Bl W' b2 #[.int .u64 re.f, .int .u64 re.l, .int .u64 re.r] 24 ∧ Bl W' V24.heap.size #[.int .u64 uu.f, .int .u64 uu.l, .int .u64 uu.r] 24 ∧ Below w.heap.size w W') ⟨B.alloc _, X2.alloc _, Bl.new _ _ _, T.alloc T.size _⟩ (fun V247 hV => ?_)
            clear B T X2
            obtain ⟨B, X2, X7, T⟩ := hV
            refine hK.out _ _ B (fun hHeld => ?_)
            clear hK K
            try simp only [Act.put, List.setIfInBounds_toArray, List.set_cons_zero, List.set_cons_succ]
            obtain ⟨b7, hb7⟩ : ∃ b, V24.heap.size = b := ⟨_, rfl⟩
            rw [hb7] at X7 ⊢
            clear hb7
            refine wpAnyH_ready (rs := [9]) (by kernel_rfl) (by simp) ?_
            refine AllReadyH.cons (by simp only [List.getElem?_toArray, List.getElem?_cons_zero, List.getElem?_cons_succ]; rfl) (fun K hK => ?_) AllReadyH.nil
            go_simp
            go_at_call 13
            (with_reducible refine (hAt2 _ _ X7).mono ?_)
            rintro e V2479 ⟨rfl, hb⟩
            replace B := B.below hb
            replace X2 := X2.below hb
            replace X7 := X7.below hb
            replace T := sps T hb T.size
            clear hb
            refine hK.out _ _ B (fun hHeld => ?_)
            clear hK K
            try simp only [Act.put, List.setIfInBounds_toArray, List.set_cons_zero, List.set_cons_succ]
            refine wpAnyH_ready (rs := [10]) (by kernel_rfl) (by simp) ?_
            refine AllReadyH.cons (by simp only [List.getElem?_toArray, List.getElem?_cons_zero, List.getElem?_cons_succ]; rfl) (fun K hK => ?_) AllReadyH.nil
            go_simp
            go_at_call 14
            (with_reducible refine (hG _).mono ?_)
            rintro e u10 ⟨⟨z, rfl, hz⟩, hb⟩
            replace B := B.below hb
            replace T := sps T hb T.size
            clear hb
            refine hK.out _ _ B (fun hHeld => ?_)
            clear hK K
            try simp only [Act.put, List.setIfInBounds_toArray, List.set_cons_zero, List.set_cons_succ]
            refine wpAnyH_take (i := 11) (v := ?_) (by simp only [List.getElem?_toArray, List.getElem?_cons_zero, List.getElem?_cons_succ]; rfl) (by kernel_rfl) (by kernel_rfl) (by kernel_rfl) (by exact fun _ _ _ h => h) (Or.inl ⟨by rfl, ?_⟩) (by assumption) ?_
            rotate_left
            · (intro w hSw; go_simp; (try with_reducible rfl))
            try simp only [Act.put, List.setIfInBounds_toArray, List.set_cons_zero, List.set_cons_succ]
            refine wpAnyH_take (i := 12) (v := ?_) (by simp only [List.getElem?_toArray, List.getElem?_cons_zero, List.getElem?_cons_succ]; rfl) (by kernel_rfl) (by kernel_rfl) (by kernel_rfl) (by exact fun _ _ _ h => h) (Or.inl ⟨by rfl, ?_⟩) (by assumption) ?_
            rotate_left
            · (intro w hSw; go_simp; (try with_reducible rfl))
            try simp only [Act.put, List.setIfInBounds_toArray, List.set_cons_zero, List.set_cons_succ]
            refine wpAnyH_done (by kernel_rfl) ?_ _
            go_wp2_with fail
            go_ret
            exact ⟨by simp, T⟩
          refine AllReadyH.cons (by simp only [List.getElem?_toArray, List.getElem?_cons_zero, List.getElem?_cons_succ]; rfl) (fun K hK => ?_) AllReadyH.nil
          go_simp
          refine nameW (P := fun W' => Bl W' w.heap.size #[.int .i64 ii, .int .i64 qq, .bool true, .int .u64 re.f, .int .u64 re.l, .int .u64 re.r, .int .u64 sh.f, .int .u64 sh.l, .int .u64 sh.r, .int .u64 uu.f, .int .u64 uu.l, .int .u64 uu.r, .int .i64 pk, .int .i64 bt] TSp ∧ Bl W' b2 #[.int .u64 re.f, .int .u64 re.l, .int .u64 re.r] 24 ∧ Bl W' V2.heap.size #[.int .u64 uu.f, .int .u64 uu.l, .int .u64 uu.r] 24 ∧ Below w.heap.size w W') ⟨B.alloc _, X2.alloc _, Bl.new _ _ _, T.alloc T.size _⟩ (fun V27 hV => ?_)
          clear B T X2
          obtain ⟨B, X2, X7, T⟩ := hV
          refine hK.out _ _ B (fun hHeld => ?_)
          clear hK K
          try simp only [Act.put, List.setIfInBounds_toArray, List.set_cons_zero, List.set_cons_succ]
          obtain ⟨b7, hb7⟩ : ∃ b, V2.heap.size = b := ⟨_, rfl⟩
          rw [hb7] at X7 ⊢
          clear hb7
          refine wpAnyH_ready (rs := [4]) (by kernel_rfl) (by simp) ?_
          refine AllReadyH.cons (by simp only [List.getElem?_toArray, List.getElem?_cons_zero, List.getElem?_cons_succ]; rfl) (fun K hK => ?_) AllReadyH.nil
          go_simp
          go_at_call 13
          (with_reducible refine (hAt1 _ _ X2).mono ?_)
          rintro e V274 ⟨rfl, hb⟩
          replace B := B.below hb
          replace X2 := X2.below hb
          replace X7 := X7.below hb
          replace T := sps T hb T.size
          clear hb
          refine hK.out _ _ B (fun hHeld => ?_)
          clear hK K
          try simp only [Act.put, List.setIfInBounds_toArray, List.set_cons_zero, List.set_cons_succ]
          refine wpAnyH_ready (rs := [9]) (by kernel_rfl) (by simp) ?_
          refine AllReadyH.cons (by simp only [List.getElem?_toArray, List.getElem?_cons_zero, List.getElem?_cons_succ]; rfl) (fun K hK => ?_) AllReadyH.nil
          go_simp
          go_at_call 13
          (with_reducible refine (hAt2 _ _ X7).mono ?_)
          rintro e V2749 ⟨rfl, hb⟩
          replace B := B.below hb
          replace X2 := X2.below hb
          replace X7 := X7.below hb
          replace T := sps T hb T.size
          clear hb
          refine hK.out _ _ B (fun hHeld => ?_)
          clear hK K
          try simp only [Act.put, List.setIfInBounds_toArray, List.set_cons_zero, List.set_cons_succ]
          refine wpAnyH_ready (rs := [10]) (by kernel_rfl) (by simp) ?_
          refine AllReadyH.cons (by simp only [List.getElem?_toArray, List.getElem?_cons_zero, List.getElem?_cons_succ]; rfl) (fun K hK => ?_) AllReadyH.nil
          go_simp
          go_at_call 14
          (with_reducible refine (hG _).mono ?_)
          rintro e u10 ⟨⟨z, rfl, hz⟩, hb⟩
          replace B := B.below hb
          replace T := sps T hb T.size
          clear hb
          refine hK.out _ _ B (fun hHeld => ?_)
          clear hK K
          try simp only [Act.put, List.setIfInBounds_toArray, List.set_cons_zero, List.set_cons_succ]
          refine wpAnyH_take (i := 11) (v := ?_) (by simp only [List.getElem?_toArray, List.getElem?_cons_zero, List.getElem?_cons_succ]; rfl) (by kernel_rfl) (by kernel_rfl) (by kernel_rfl) (by exact fun _ _ _ h => h) (Or.inl ⟨by rfl, ?_⟩) (by assumption) ?_
          rotate_left
          · (intro w hSw; go_simp; (try with_reducible rfl))
          try simp only [Act.put, List.setIfInBounds_toArray, List.set_cons_zero, List.set_cons_succ]
          refine wpAnyH_take (i := 12) (v := ?_) (by simp only [List.getElem?_toArray, List.getElem?_cons_zero, List.getElem?_cons_succ]; rfl) (by kernel_rfl) (by kernel_rfl) (by kernel_rfl) (by exact fun _ _ _ h => h) (Or.inl ⟨by rfl, ?_⟩) (by assumption) ?_
          rotate_left
          · (intro w hSw; go_simp; (try with_reducible rfl))
          try simp only [Act.put, List.setIfInBounds_toArray, List.set_cons_zero, List.set_cons_succ]
          refine wpAnyH_done (by kernel_rfl) ?_ _
          go_wp2_with fail
          go_ret
          exact ⟨by simp, T⟩
        refine AllReadyH.cons (by simp only [List.getElem?_toArray, List.getElem?_cons_zero, List.getElem?_cons_succ]; rfl) (fun K hK => ?_) AllReadyH.nil
        go_simp
        refine nameW (P := fun W' => Bl W' w.heap.size #[.int .i64 ii, .int .i64 qq, .bool true, .int .u64 re.f, .int .u64 re.l, .int .u64 re.r, .int .u64 sh.f, .int .u64 sh.l, .int .u64 sh.r, .int .u64 uu.f, .int .u64 uu.l, .int .u64 uu.r, .int .i64 pk, .int .i64 bt] TSp ∧ Bl W' V0.heap.size #[.int .u64 uu.f, .int .u64 uu.l, .int .u64 uu.r] 24 ∧ Below w.heap.size w W') ⟨B.alloc _, Bl.new _ _ _, T.alloc T.size _⟩ (fun V7 hV => ?_)
        clear B T 
        obtain ⟨B, X7, T⟩ := hV
        refine hK.out _ _ B (fun hHeld => ?_)
        clear hK K
        try simp only [Act.put, List.setIfInBounds_toArray, List.set_cons_zero, List.set_cons_succ]
        obtain ⟨b7, hb7⟩ : ∃ b, V0.heap.size = b := ⟨_, rfl⟩
        rw [hb7] at X7 ⊢
        clear hb7
        refine wpAnyH_ready (rs := [2]) (by kernel_rfl) (by simp) ?_
        refine AllReadyH.cons (by simp only [List.getElem?_toArray, List.getElem?_cons_zero, List.getElem?_cons_succ]; rfl) (fun K hK => ?_) AllReadyH.nil
        go_simp
        refine nameW (P := fun W' => Bl W' w.heap.size #[.int .i64 ii, .int .i64 qq, .bool true, .int .u64 re.f, .int .u64 re.l, .int .u64 re.r, .int .u64 sh.f, .int .u64 sh.l, .int .u64 sh.r, .int .u64 uu.f, .int .u64 uu.l, .int .u64 uu.r, .int .i64 pk, .int .i64 bt] TSp ∧ Bl W' b7 #[.int .u64 uu.f, .int .u64 uu.l, .int .u64 uu.r] 24 ∧ Bl W' V7.heap.size #[.int .u64 re.f, .int .u64 re.l, .int .u64 re.r] 24 ∧ Below w.heap.size w W') ⟨B.alloc _, X7.alloc _, Bl.new _ _ _, T.alloc T.size _⟩ (fun V72 hV => ?_)
        clear B T X7
        obtain ⟨B, X7, X2, T⟩ := hV
        refine hK.out _ _ B (fun hHeld => ?_)
        clear hK K
        try simp only [Act.put, List.setIfInBounds_toArray, List.set_cons_zero, List.set_cons_succ]
        obtain ⟨b2, hb2⟩ : ∃ b, V7.heap.size = b := ⟨_, rfl⟩
        rw [hb2] at X2 ⊢
        clear hb2
        refine wpAnyH_ready (rs := [4]) (by kernel_rfl) (by simp) ?_
        refine AllReadyH.cons (by simp only [List.getElem?_toArray, List.getElem?_cons_zero, List.getElem?_cons_succ]; rfl) (fun K hK => ?_) AllReadyH.nil
        go_simp
        go_at_call 13
        (with_reducible refine (hAt1 _ _ X2).mono ?_)
        rintro e V724 ⟨rfl, hb⟩
        replace B := B.below hb
        replace X2 := X2.below hb
        replace X7 := X7.below hb
        replace T := sps T hb T.size
        clear hb
        refine hK.out _ _ B (fun hHeld => ?_)
        clear hK K
        try simp only [Act.put, List.setIfInBounds_toArray, List.set_cons_zero, List.set_cons_succ]
        refine wpAnyH_ready (rs := [9]) (by kernel_rfl) (by simp) ?_
        refine AllReadyH.cons (by simp only [List.getElem?_toArray, List.getElem?_cons_zero, List.getElem?_cons_succ]; rfl) (fun K hK => ?_) AllReadyH.nil
        go_simp
        go_at_call 13
        (with_reducible refine (hAt2 _ _ X7).mono ?_)
        rintro e V7249 ⟨rfl, hb⟩
        replace B := B.below hb
        replace X2 := X2.below hb
        replace X7 := X7.below hb
        replace T := sps T hb T.size
        clear hb
        refine hK.out _ _ B (fun hHeld => ?_)
        clear hK K
        try simp only [Act.put, List.setIfInBounds_toArray, List.set_cons_zero, List.set_cons_succ]
        refine wpAnyH_ready (rs := [10]) (by kernel_rfl) (by simp) ?_
        refine AllReadyH.cons (by simp only [List.getElem?_toArray, List.getElem?_cons_zero, List.getElem?_cons_succ]; rfl) (fun K hK => ?_) AllReadyH.nil
        go_simp
        go_at_call 14
        (with_reducible refine (hG _).mono ?_)
        rintro e u10 ⟨⟨z, rfl, hz⟩, hb⟩
        replace B := B.below hb
        replace T := sps T hb T.size
        clear hb
        refine hK.out _ _ B (fun hHeld => ?_)
        clear hK K
        try simp only [Act.put, List.setIfInBounds_toArray, List.set_cons_zero, List.set_cons_succ]
        refine wpAnyH_take (i := 11) (v := ?_) (by simp only [List.getElem?_toArray, List.getElem?_cons_zero, List.getElem?_cons_succ]; rfl) (by kernel_rfl) (by kernel_rfl) (by kernel_rfl) (by exact fun _ _ _ h => h) (Or.inl ⟨by rfl, ?_⟩) (by assumption) ?_
        rotate_left
        · (intro w hSw; go_simp; (try with_reducible rfl))
        try simp only [Act.put, List.setIfInBounds_toArray, List.set_cons_zero, List.set_cons_succ]
        refine wpAnyH_take (i := 12) (v := ?_) (by simp only [List.getElem?_toArray, List.getElem?_cons_zero, List.getElem?_cons_succ]; rfl) (by kernel_rfl) (by kernel_rfl) (by kernel_rfl) (by exact fun _ _ _ h => h) (Or.inl ⟨by rfl, ?_⟩) (by assumption) ?_
        rotate_left
        · (intro w hSw; go_simp; (try with_reducible rfl))
        try simp only [Act.put, List.setIfInBounds_toArray, List.set_cons_zero, List.set_cons_succ]
        refine wpAnyH_done (by kernel_rfl) ?_ _
        go_wp2_with fail
        go_ret
        exact ⟨by simp, T⟩
      · go_wp2_with (first
          | (go_at_call 12; (with_reducible refine (h3 _).mono ?_); rintro e w7 ⟨rfl, hb⟩; replace B := B.below hb; replace T := sps T hb T.size; clear hb; ))
        go_ret
        exact ⟨by simp, T⟩
  · as_aux_lemma =>
      go_enter Tryz.func4, Tryz.ntmps4
      go_upto_region 6 with (first
        | (go_at_call 7; (with_reducible refine (hA _ (hl.below T)).mono ?_); rintro e w1 ⟨rfl, hb⟩; replace B := B.below hb; replace T := sps T hb T.size; clear hb; obtain ⟨a0, a1, a2, a3, a4, a5, a6, a7, a8, a9, a10, a11, a12, a13⟩ := id B.at14)
        | (go_at_call 10; (with_reducible refine (hM _).mono ?_); rintro e w2 ⟨rfl, hb⟩; replace B := B.below hb; replace T := sps T hb T.size; clear hb; obtain ⟨b0, b1, b2, b3, b4, b5, b6, b7, b8, b9, b10, b11, b12, b13⟩ := id B.at14)
        | (go_at_call 11; (with_reducible refine (hK _).mono ?_); rintro e w3 ⟨rfl, hb⟩; replace B := B.below hb; replace T := sps T hb T.size; clear hb; obtain ⟨d0, d1, d2, d3, d4, d5, d6, d7, d8, d9, d10, d11, d12, d13⟩ := id B.at14))
      have nBG : w.heap.size ≠ w3.heap.size := by have := B.lt; omega
      have G := Bl.new w3 TSp #[.int .i64 ii, .int .i64 qq, .bool false, .int .u64 re.f, .int .u64 re.l, .int .u64 re.r, .int .u64 sh.f, .int .u64 sh.l, .int .u64 sh.r, .int .u64 uu.f, .int .u64 uu.l, .int .u64 uu.r, .int .i64 0, .int .i64 0]
      obtain ⟨g0, g1, g2, g3, g4, g5, g6, g7, g8, g9, g10, g11, g12, g13⟩ := id G.at14
      obtain ⟨t0, t1, t2, t3, t4, t5, t6, t7, t8, t9, t10, t11, t12, t13⟩ := id G.thaw14
      go_upto_region 8 with (fail)
      refine nameW (P := fun W' => Bl W' w.heap.size #[.int .i64 ii, .int .i64 qq, .bool false, .int .u64 re.f, .int .u64 re.l, .int .u64 re.r, .int .u64 sh.f, .int .u64 sh.l, .int .u64 sh.r, .int .u64 uu.f, .int .u64 uu.l, .int .u64 uu.r, .int .i64 0, .int .i64 0] TSp ∧ Bl W' w3.heap.size #[.int .i64 ii, .int .i64 qq, .bool false, .int .u64 re.f, .int .u64 re.l, .int .u64 re.r, .int .u64 sh.f, .int .u64 sh.l, .int .u64 sh.r, .int .u64 0, .int .u64 0, .int .u64 0, .int .i64 0, .int .i64 0] TSp ∧ Below w.heap.size w W') ⟨B.alloc _, Bl.new _ _ _, T.alloc T.size _⟩ (fun V hV => ?_)
      clear B G T g0 g1 g2 g3 g4 g5 g6 g7 g8 g9 g10 g11 g12 g13 t0 t1 t2 t3 t4 t5 t6 t7 t8 t9 t10 t11 t12 t13
      obtain ⟨B, G, T⟩ := hV
      obtain ⟨m0, m1, m2, m3, m4, m5, m6, m7, m8, m9, m10, m11, m12, m13⟩ := id B.at14
      obtain ⟨n0, n1, n2, n3, n4, n5, n6, n7, n8, n9, n10, n11, n12, n13⟩ := id G.at14
      go_upto_region 12 with (first
        | (go_at_call 10; (with_reducible refine (hF _).mono ?_); rintro e w4 ⟨rfl, hb⟩; replace B := B.below hb; replace T := sps T hb T.size; clear hb; obtain ⟨e0, e1, e2, e3, e4, e5, e6, e7, e8, e9, e10, e11, e12, e13⟩ := id B.at14)
        | (go_at_call 12; (with_reducible refine (h1 _).mono ?_); rintro e w5 ⟨rfl, hb⟩; replace B := B.below hb; replace T := sps T hb T.size; clear hb; obtain ⟨f0, f1, f2, f3, f4, f5, f6, f7, f8, f9, f10, f11, f12, f13⟩ := id B.at14)
        | (go_at_call 12; (with_reducible refine (h2 _).mono ?_); rintro e w6 ⟨rfl, hb⟩; replace B := B.below hb; replace T := sps T hb T.size; clear hb; obtain ⟨x0, x1, x2, x3, x4, x5, x6, x7, x8, x9, x10, x11, x12, x13⟩ := id B.at14))
      cases nu
      · go_wp2_with (first
          | (go_at_call 12; (with_reducible refine (h3 _).mono ?_); rintro e w7 ⟨rfl, hb⟩; replace B := B.below hb; replace T := sps T hb T.size; clear hb; obtain ⟨i0, i1, i2, i3, i4, i5, i6, i7, i8, i9, i10, i11, i12, i13⟩ := id B.at14)
          | (go_at_call 12; (with_reducible refine (h1 _).mono ?_); rintro e w8 ⟨rfl, hb⟩; replace B := B.below hb; replace T := sps T hb T.size; clear hb; ))
        go_ret
        exact ⟨by simp, T⟩
      · go_wp2_with (first
          | (go_at_call 12; (with_reducible refine (h3 _).mono ?_); rintro e w7 ⟨rfl, hb⟩; replace B := B.below hb; replace T := sps T hb T.size; clear hb; ))
        go_ret
        exact ⟨by simp, T⟩
theorem None_of (c : Cw) (w : World) : Calls Tryz.prog 12 #[.agg #[.int .u64 c.f, .int .u64 c.l, .int .u64 c.r]] w fun e w' => e = .returned (.bool (!hasC c)) ∧ Below w.heap.size w w' := by
  have e : (!hasC c) = decide (c.f = 0 ∧ c.l = 0 ∧ c.r = 0) := by simp [hasC]
  rw [e]
  exact none_any c.f c.l c.r w
set_option maxHeartbeats 8000000 in
theorem SpecKinds_walk (p : Sp) (t : Int) (w : World) (hl : Lw w) (hp : p.ok) (ht : 0 ≤ t ∧ t < 18446744073709551616) :
    Calls Tryz.prog 4 #[spW p, .int .u64 t] w fun e w' => e = .returned (.bool true) ∧ Below w.heap.size w w' := by
  by_cases hm : mayN p = 0
  · by_cases h1 : t < 9223372036854775808
    · have hf := may_freed hm
      have M := fun w => MayD p hp w
      have F := fun w => MayD (freed p) ⟨hp.1, hp.2.1, hp.2.2.1, hp.2.2.2.1, Cw.zero_ok, hp.2.2.2.2.2.1, hp.2.2.2.2.2.2⟩ w
      rw [hm] at M
      rw [hf] at F
      refine Kinds_of p.id p.par p.pk p.bt t (kindN p) p.leaf (!hasC p.re) (!hasC p.sh) (!hasC p.up) p.re p.sh p.up w hl ht.1 h1 hp.2.2.1 hp.2.2.2.2.1 M F (fun w => Kind_any p w) (fun w => None_of p.re w) (fun w => None_of p.sh w) (fun w => None_of p.up w) (kn_of hm) (fun hu => ?_)
      obtain ⟨_, _, _, _, e⟩ := may_zero hm
      have hu' : hasC p.up = true := by simpa using hu
      simp only [bouB, hu', Bool.not_true, Bool.false_or, belB, decide_eq_true_eq] at e
      exact e
    · have h2 : (9223372036854775808 : Int) ≤ t := by omega
      have M := fun w => MayD p hp w
      rw [hm] at M
      have hA := awake_any
      have B := Bl.new w TSp (spA p)
      have T := up1 w (.cells (spA p) TSp)
      go_enter Tryz.func4, Tryz.ntmps4
      go_wp2_with (first
        | (go_at_call 7; (with_reducible refine (hA _ (hl.below T)).mono ?_); rintro e w1 ⟨rfl, hb⟩; replace B := B.below hb; replace T := sps T hb T.size; clear hb; obtain ⟨a0, a1, a2, a3, a4, a5, a6, a7, a8, a9, a10, a11, a12, a13⟩ := id B.at14)
        | (go_at_call 10; (with_reducible refine (M _).mono ?_); rintro e w2 ⟨rfl, hb⟩; replace T := sps T hb T.size; clear hb))
      go_ret
      exact ⟨rfl, T⟩
  · have M := fun w => MayD p hp w
    generalize mayN p = m at M hm
    have hm1 : (m == 0) = false := beq_eq_false_iff_ne.2 hm
    have hA := awake_any
    have B := Bl.new w TSp (spA p)
    have T := up1 w (.cells (spA p) TSp)
    go_enter Tryz.func4, Tryz.ntmps4
    go_wp2_with (first
      | (go_at_call 7; (with_reducible refine (hA _ (hl.below T)).mono ?_); rintro e w1 ⟨rfl, hb⟩; replace B := B.below hb; replace T := sps T hb T.size; clear hb; obtain ⟨a0, a1, a2, a3, a4, a5, a6, a7, a8, a9, a10, a11, a12, a13⟩ := id B.at14)
      | (go_at_call 10; (with_reducible refine (M _).mono ?_); rintro e w2 ⟨rfl, hb⟩; replace T := sps T hb T.size; clear hb))
    go_ret
    exact ⟨rfl, T⟩
end Go.Proofs.YtkcmfcgoknhodaaGreatDoor
