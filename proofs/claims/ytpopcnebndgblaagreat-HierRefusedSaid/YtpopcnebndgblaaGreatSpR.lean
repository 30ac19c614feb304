/- What the document's own May and With answer; the program's own With. Condition: the numbers are what the fields can hold. -/
import Derived.Test.YtpopcnebndgblaaGreatSpO
namespace Go.Proofs.YtpopcnebndgblaaGreat
open Go.RowKit W
set_option linter.unusedVariables false

theorem bel_none {a b : Cw} (h : hasC a = false) (hb : b.ok) (m : mayC b = true) : belB a b = true := by
  have e : a.f = 0 ∧ a.l = 0 ∧ a.r = 0 := by
    unfold hasC at h
    simpa using h
  obtain ⟨e1, e2, e3⟩ := e
  obtain ⟨af, al, ar⟩ := a
  simp only at e1 e2 e3
  subst e1 e2 e3
  unfold belB
  simp only [decide_eq_true_eq]
  have mb : (Cv.mk b.f b.l b.r).may := mayB_is.1 m
  refine ⟨line_may (by omega), mb, fun t t0 t1 => ?_⟩
  have g : (Cv.mk b.f b.l b.r).word ∧ (Cv.mk b.f b.l b.r).may := ⟨⟨hb.1, hb.2.1, hb.2.2⟩, mb⟩
  have k : 0 ≤ cW b.f b.l b.r t := (cw_le g t0).1
  have z : cW 0 0 0 t = 0 := by rw [cW_straight t0]; omega
  show cW 0 0 0 t ≤ cW b.f b.l b.r t
  omega
/-- Whether it may be, in the document's order. -/
noncomputable def mayR (p : Sp) : Int := if idB p then (if curB p then (if furB p then (if lasB p then (if hasC p.re && hasC p.up && !belB p.re p.up then 130 else 0) else 130) else 130) else 30) else 130
theorem mayR_is (p : Sp) (hp : p.ok) : mayR p = mayN p := by
  unfold mayR mayN
  cases h1 : idB p
  · rfl
  cases h2 : curB p
  · rfl
  cases furB p
  · rfl
  cases lasB p
  · rfl
  unfold bouB
  simp only [if_true]
  cases hr : hasC p.re
  · have : belB p.re p.up = true := bel_none hr hp.2.2.2.2.1 (by unfold curB at h2; simp at h2; exact h2.2)
    rw [this]; simp
  · cases hasC p.up <;> cases belB p.re p.up <;> simp

theorem wi_lo {n a b : Int} (h : n < a) : wi n a b = false := by unfold wi; simp; omega
theorem wi_hi {n a b : Int} (h : b < n) : wi n a b = false := by unfold wi; simp; omega
theorem wi_in {n a b : Int} (h : ¬ n < a) (g : ¬ b < n) : wi n a b = true := by unfold wi; simp; omega
set_option maxHeartbeats 2000000 in
theorem rMay_id0 (p : Sp) (w : World) (t1 : p.id < 1) :
    Calls Tryz.prog 33 #[spV p] w fun e w' => e = .returned (.int .i64 130) ∧ Below w.heap.size w w' := by
  have T := up1 w (.cells (spC p) 34)
  go_enter Tryz.func33, Tryz.ntmps33
  go_wp2
  go_ret
  exact ⟨rfl, T⟩
set_option maxHeartbeats 2000000 in
theorem rMay_id1 (p : Sp) (w : World) (t1 : ¬ p.id < 1) (t2 : 65535 < p.id) :
    Calls Tryz.prog 33 #[spV p] w fun e w' => e = .returned (.int .i64 130) ∧ Below w.heap.size w w' := by
  have T := up1 w (.cells (spC p) 34)
  go_enter Tryz.func33, Tryz.ntmps33
  go_wp2
  go_ret
  exact ⟨rfl, T⟩
set_option maxHeartbeats 2000000 in
theorem rMay_id2 (p : Sp) (w : World) (t1 : ¬ p.id < 1) (t2 : ¬ 65535 < p.id) (t3 : p.par < 0) :
    Calls Tryz.prog 33 #[spV p] w fun e w' => e = .returned (.int .i64 130) ∧ Below w.heap.size w w' := by
  have T := up1 w (.cells (spC p) 34)
  go_enter Tryz.func33, Tryz.ntmps33
  go_wp2
  go_ret
  exact ⟨rfl, T⟩
set_option maxHeartbeats 2000000 in
theorem rMay_id3 (p : Sp) (w : World) (t1 : ¬ p.id < 1) (t2 : ¬ 65535 < p.id) (t3 : ¬ p.par < 0) (t4 : 65535 < p.par) :
    Calls Tryz.prog 33 #[spV p] w fun e w' => e = .returned (.int .i64 130) ∧ Below w.heap.size w w' := by
  have T := up1 w (.cells (spC p) 34)
  go_enter Tryz.func33, Tryz.ntmps33
  go_wp2
  go_ret
  exact ⟨rfl, T⟩
set_option maxHeartbeats 2000000 in
theorem rMay_id4 (p : Sp) (w : World) (t1 : ¬ p.id < 1) (t2 : ¬ 65535 < p.id) (t3 : ¬ p.par < 0) (t4 : ¬ 65535 < p.par) (t5 : (p.par == p.id) = true) :
    Calls Tryz.prog 33 #[spV p] w fun e w' => e = .returned (.int .i64 130) ∧ Below w.heap.size w w' := by
  have T := up1 w (.cells (spC p) 34)
  go_enter Tryz.func33, Tryz.ntmps33
  go_wp2
  go_ret
  exact ⟨rfl, T⟩
set_option maxHeartbeats 4000000 in
theorem rMay_cur (p : Sp) (w : World) (a b c : Bool) (hn : (a && b && c) = false) (t1 : ¬ p.id < 1) (t2 : ¬ 65535 < p.id) (t3 : ¬ p.par < 0) (t4 : ¬ 65535 < p.par) (t5 : (p.par == p.id) = false)
    (h1 : ∀ w, Calls Tryz.prog 52 #[cwV p.re] w fun e w' => e = .returned (.bool a) ∧ Below w.heap.size w w')
    (h2 : ∀ w, Calls Tryz.prog 52 #[cwV p.sh] w fun e w' => e = .returned (.bool b) ∧ Below w.heap.size w w')
    (h3 : ∀ w, Calls Tryz.prog 52 #[cwV p.up] w fun e w' => e = .returned (.bool c) ∧ Below w.heap.size w w') :
    Calls Tryz.prog 33 #[spV p] w fun e w' => e = .returned (.int .i64 30) ∧ Below w.heap.size w w' := by
  have B := SB.new w p
  have T := up1 w (.cells (spC p) 34)
  cases a
  all_goals cases b
  all_goals cases c
  all_goals (try (exfalso; revert hn; decide))
  all_goals
    clear hn
    go_enter Tryz.func33, Tryz.ntmps33
    go_wp2_with (first
      | (go_at_call 52; (with_reducible refine (h1 _).mono ?_); rintro e w1 ⟨rfl, hb⟩; replace B := B.below hb; replace T := spk T hb T.size; clear hb; obtain ⟨c0, c1, c2, c3, c4, c5, c6, c7, c8, c9, c10, c11, c12, c13⟩ := id B.all)
      | (go_at_call 52; (with_reducible refine (h2 _).mono ?_); rintro e w2 ⟨rfl, hb⟩; replace B := B.below hb; replace T := spk T hb T.size; clear hb; obtain ⟨d0, d1, d2, d3, d4, d5, d6, d7, d8, d9, d10, d11, d12, d13⟩ := id B.all)
      | (go_at_call 52; (with_reducible refine (h3 _).mono ?_); rintro e w3 ⟨rfl, hb⟩; replace T := spk T hb T.size; clear hb))
    go_ret
    exact ⟨rfl, T⟩
set_option maxHeartbeats 16000000 in
set_option maxRecDepth 100000 in
theorem rMay_rest (ii qq pk bt : Int) (lf : Bool) (re sh uu : Cw) (w : World) (x y z v wp wb : Bool) (t1 : ¬ ii < 1) (t2 : ¬ 65535 < ii) (t3 : ¬ qq < 0) (t4 : ¬ 65535 < qq) (t5 : (qq == ii) = false)
    (h1 : ∀ w, Calls Tryz.prog 52 #[cwV re] w fun e w' => e = .returned (.bool true) ∧ Below w.heap.size w w')
    (h2 : ∀ w, Calls Tryz.prog 52 #[cwV sh] w fun e w' => e = .returned (.bool true) ∧ Below w.heap.size w w')
    (h3 : ∀ w, Calls Tryz.prog 52 #[cwV uu] w fun e w' => e = .returned (.bool true) ∧ Below w.heap.size w w')
    (g1 : ∀ w, Calls Tryz.prog 53 #[cwV re] w fun e w' => e = .returned (.bool (!x)) ∧ Below w.heap.size w w')
    (g2 : ∀ w, Calls Tryz.prog 53 #[cwV sh] w fun e w' => e = .returned (.bool (!y)) ∧ Below w.heap.size w w')
    (g3 : ∀ w, Calls Tryz.prog 53 #[cwV uu] w fun e w' => e = .returned (.bool (!z)) ∧ Below w.heap.size w w')
    (g4 : ∀ w, Calls Tryz.prog 54 #[cwV re, cwV uu] w fun e w' => e = .returned (.bool v) ∧ Below w.heap.size w w')
    (hp : wi pk 1 4096 = wp) (hb : wi bt 1 16777216 = wb) :
    Calls Tryz.prog 33 #[spV ⟨ii, qq, lf, re, sh, uu, pk, bt⟩] w fun e w' => e = .returned (.int .i64 (if (if lf then (x || y) && wp && wb else y && !x && (pk == 0) && (bt == 0)) then (if (!(y && (sh.r == 0)) && !(z && (uu.r == 0)) && (y || !z)) then (if x && z && !v then 130 else 0) else 130) else 130)) ∧ Below w.heap.size w w' := by
  have B := SB.new w ⟨ii, qq, lf, re, sh, uu, pk, bt⟩
  have T := up1 w (.cells (spC ⟨ii, qq, lf, re, sh, uu, pk, bt⟩) 34)
  replace hp := Lib.hid hp
  replace hb := Lib.hid hb
  go_enter Tryz.func33, Tryz.ntmps33
  go_upto_region 5 with (first
      | (go_at_call 52; (with_reducible refine (h1 _).mono ?_); rintro e w1 ⟨rfl, hb⟩; replace B := B.below hb; replace T := spk T hb T.size; clear hb; obtain ⟨c0, c1, c2, c3, c4, c5, c6, c7, c8, c9, c10, c11, c12, c13⟩ := id B.all)
      | (go_at_call 52; (with_reducible refine (h2 _).mono ?_); rintro e w2 ⟨rfl, hb⟩; replace B := B.below hb; replace T := spk T hb T.size; clear hb; obtain ⟨d0, d1, d2, d3, d4, d5, d6, d7, d8, d9, d10, d11, d12, d13⟩ := id B.all)
      | (go_at_call 52; (with_reducible refine (h3 _).mono ?_); rintro e w3 ⟨rfl, hb⟩; replace B := B.below hb; replace T := spk T hb T.size; clear hb))
  clear c0 c1 c2 c3 c4 c5 c6 c7 c8 c9 c10 c11 c12 c13 d0 d1 d2 d3 d4 d5 d6 d7 d8 d9 d10 d11 d12 d13 t1 t2 t3 t4 t5 h1 h2 h3
  have E := Below.refl w3.heap.size w3
  go_region_held3 (fun w' => SC w' w.heap.size ⟨ii, qq, lf, re, sh, uu, pk, bt⟩)
    (first | exact B.all | exact (B.below E).all)
    (first
      | (go_at_call 53; (with_reducible refine (g1 _).mono ?_); rintro e v1 ⟨rfl, hb⟩; (first | replace hb := undrew hb | replace hb := undrewN hb | skip); replace E := up E hb E.size; clear hb)
      | (go_at_call 53; (with_reducible refine (g2 _).mono ?_); rintro e v2 ⟨rfl, hb⟩; (first | replace hb := undrew hb | replace hb := undrewN hb | skip); replace E := up E hb E.size; clear hb)
      | (go_at_call 53; (with_reducible refine (g3 _).mono ?_); rintro e v3 ⟨rfl, hb⟩; (first | replace hb := undrew hb | replace hb := undrewN hb | skip); replace E := up E hb E.size; clear hb))
  all_goals
    replace T := spk T E T.size
    replace B := B.below E
    obtain ⟨c0, c1, c2, c3, c4, c5, c6, c7, c8, c9, c10, c11, c12, c13⟩ := id B.all
    clear E B g1 g2 g3
    cases lf
    · cases y
      · cases x
        all_goals
          go_wp2_with (first | (go_at_call 54; (with_reducible refine (g4 _).mono ?_); rintro e w5 ⟨rfl, hb5⟩; replace T := spk T hb5 T.size; clear hb5))
          go_ret
          exact ⟨by simp, T⟩
      · cases x
        · by_cases p0 : pk = 0
          · by_cases b0 : bt = 0
            · subst p0
              subst b0
              generalize hs1 : (sh.r == 0) = s1
              generalize hs2 : (uu.r == 0) = s2
              cases z <;> cases v <;> cases s1 <;> cases s2
              all_goals
                go_wp2_with (first | (go_at_call 54; (with_reducible refine (g4 _).mono ?_); rintro e w5 ⟨rfl, hb5⟩; replace T := spk T hb5 T.size; clear hb5))
                go_ret
                exact ⟨by simp, T⟩
            · subst p0
              go_wp2_with (first | (go_at_call 54; (with_reducible refine (g4 _).mono ?_); rintro e w5 ⟨rfl, hb5⟩; replace T := spk T hb5 T.size; clear hb5))
              go_ret
              exact ⟨by simp, T⟩
          · go_wp2_with (first | (go_at_call 54; (with_reducible refine (g4 _).mono ?_); rintro e w5 ⟨rfl, hb5⟩; replace T := spk T hb5 T.size; clear hb5))
            go_ret
            exact ⟨by simp, T⟩
        · go_wp2_with (first | (go_at_call 54; (with_reducible refine (g4 _).mono ?_); rintro e w5 ⟨rfl, hb5⟩; replace T := spk T hb5 T.size; clear hb5))
          go_ret
          exact ⟨by simp, T⟩
    · by_cases hxy : (x || y) = true
      · by_cases p1 : pk < 1
        · have hq := wi_lo (b := 4096) p1
          rw [hp.out] at hq; subst hq
          cases x <;> cases y <;> first | (exfalso; revert hxy; decide) | skip
          all_goals
            go_wp2_with (first | (go_at_call 54; (with_reducible refine (g4 _).mono ?_); rintro e w5 ⟨rfl, hb5⟩; replace T := spk T hb5 T.size; clear hb5))
            go_ret
            exact ⟨by simp, T⟩
        · by_cases p2 : 4096 < pk
          · have hq := wi_hi (a := 1) p2
            rw [hp.out] at hq; subst hq
            cases x <;> cases y <;> first | (exfalso; revert hxy; decide) | skip
            all_goals
              go_wp2_with (first | (go_at_call 54; (with_reducible refine (g4 _).mono ?_); rintro e w5 ⟨rfl, hb5⟩; replace T := spk T hb5 T.size; clear hb5))
              go_ret
              exact ⟨by simp, T⟩
          · have hq := wi_in p1 p2
            rw [hp.out] at hq; subst hq
            by_cases b1 : bt < 1
            · have hr := wi_lo (b := 16777216) b1
              rw [hb.out] at hr; subst hr
              cases x <;> cases y <;> first | (exfalso; revert hxy; decide) | skip
              all_goals
                go_wp2_with (first | (go_at_call 54; (with_reducible refine (g4 _).mono ?_); rintro e w5 ⟨rfl, hb5⟩; replace T := spk T hb5 T.size; clear hb5))
                go_ret
                exact ⟨by simp, T⟩
            · by_cases b2 : 16777216 < bt
              · have hr := wi_hi (a := 1) b2
                rw [hb.out] at hr; subst hr
                cases x <;> cases y <;> first | (exfalso; revert hxy; decide) | skip
                all_goals
                  go_wp2_with (first | (go_at_call 54; (with_reducible refine (g4 _).mono ?_); rintro e w5 ⟨rfl, hb5⟩; replace T := spk T hb5 T.size; clear hb5))
                  go_ret
                  exact ⟨by simp, T⟩
              · have hr := wi_in b1 b2
                rw [hb.out] at hr; subst hr
                generalize hs1 : (sh.r == 0) = s1
                generalize hs2 : (uu.r == 0) = s2
                cases x <;> cases y <;> first | (exfalso; revert hxy; decide) | skip
                all_goals cases z <;> cases v <;> cases s1 <;> cases s2
                all_goals
                  go_wp2_with (first | (go_at_call 54; (with_reducible refine (g4 _).mono ?_); rintro e w5 ⟨rfl, hb5⟩; replace T := spk T hb5 T.size; clear hb5))
                  go_ret
                  exact ⟨by simp, T⟩
      · cases x <;> cases y <;> first | (exfalso; revert hxy; decide) | skip
        go_wp2_with (first | (go_at_call 54; (with_reducible refine (g4 _).mono ?_); rintro e w5 ⟨rfl, hb5⟩; replace T := spk T hb5 T.size; clear hb5))
        go_ret
        exact ⟨by simp, T⟩
theorem rMay_any (p : Sp) (hp : p.ok) (w : World) :
    Calls Tryz.prog 33 #[spV p] w fun e w' => e = .returned (.int .i64 (mayN p)) ∧ Below w.heap.size w w' := by
  rw [← mayR_is p hp]
  unfold mayR
  by_cases t1 : p.id < 1
  · rw [if_neg (by unfold idB; rw [wi_lo t1]; simp)]; exact rMay_id0 p w t1
  by_cases t2 : 65535 < p.id
  · rw [if_neg (by unfold idB; rw [wi_hi t2]; simp)]; exact rMay_id1 p w t1 t2
  by_cases t3 : p.par < 0
  · rw [if_neg (by unfold idB; rw [wi_lo t3]; simp)]; exact rMay_id2 p w t1 t2 t3
  by_cases t4 : 65535 < p.par
  · rw [if_neg (by unfold idB; rw [wi_hi t4]; simp)]; exact rMay_id3 p w t1 t2 t3 t4
  by_cases t5 : p.par = p.id
  · rw [if_neg (by unfold idB; simp [t5])]; exact rMay_id4 p w t1 t2 t3 t4 (by simp [t5])
  have u5 : (p.par == p.id) = false := by simp [t5]
  rw [if_pos (by unfold idB; rw [wi_in t1 t2, wi_in t3 t4]; simp [t5])]
  obtain ⟨_, _, ⟨a1, a2, a3⟩, ⟨b1, b2, b3⟩, ⟨c1, c2, c3⟩, _⟩ := hp
  have h1 := fun w => kMay_any p.re.f p.re.l p.re.r w a1 a2 a3
  have h2 := fun w => kMay_any p.sh.f p.sh.l p.sh.r w b1 b2 b3
  have h3 := fun w => kMay_any p.up.f p.up.l p.up.r w c1 c2 c3
  cases hc : curB p
  · exact rMay_cur p w _ _ _ hc t1 t2 t3 t4 u5 h1 h2 h3
  · rw [if_pos rfl]
    have hc' : (mayC p.re = true ∧ mayC p.sh = true) ∧ mayC p.up = true := by unfold curB at hc; simpa using hc
    obtain ⟨⟨m1, m2⟩, m3⟩ := hc'
    unfold mayC at m1 m2 m3
    rw [m1] at h1
    rw [m2] at h2
    rw [m3] at h3
    obtain ⟨ii, qq, lf, re, sh, uu, pk, bt⟩ := p
    exact rMay_rest ii qq pk bt lf re sh uu w _ _ _ _ _ _ t1 t2 t3 t4 u5 h1 h2 h3 (fun w => rHas_any re w) (fun w => rHas_any sh w) (fun w => rHas_any uu w) (fun w => kBelow_any _ _ _ _ _ _ w a1 a2 a3 c1 c2 c3) rfl rfl
end Go.Proofs.YtpopcnebndgblaaGreat
