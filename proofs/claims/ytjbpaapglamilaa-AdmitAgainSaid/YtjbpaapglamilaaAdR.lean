/- What was dropped can be put again. Condition: numbers are what the fields can hold. -/
import Derived.Test.YtjbpaapglamilaaAdW
namespace Go.Proofs.Ytjbpaapglamilaa.H
open Go.ChangeShapes Go.WideShapes Go.Deep Go.RowKit W
set_option linter.unusedVariables false
set_option linter.unusedSimpArgs false
theorem del_ins : ∀ {L : Lv} {k : Int} {c : Cv}, k ∉ idsK L → delK (insK L k c) k = L
  | [], k, c, _ => by simp [insK, delK]
  | p :: L, k, c, h => by
    have hp : p.1 ≠ k := fun e => h (by simp [idsK, e])
    have hL : k ∉ idsK L := fun e => h (by unfold idsK at *; simp [e])
    rw [insK]
    split
    · unfold delK
      rw [List.filter_cons_of_pos (by simpa using hp)]
      have := del_ins (c := c) hL
      unfold delK at this
      rw [this]
    · have e : delK ((k, c) :: p :: L) k = delK (p :: L) k := by unfold delK; rw [List.filter_cons_of_neg (by simp)]
      rw [e, delK_none h]
theorem note_drop {b : Bk} {k : Int} {x : Cv} (hz : x ≠ zC) (hh : b.has k = false) : (b.note k x).has k = true ∧ (b.note k x).drop k false = b ∧ ((b.note k x).drop k true).settle = ⟨b.R, b.L, []⟩ ∧ ((b.note k x).drop k true).G.length = b.G.length + 1 ∧ (b.note k x).all.length = b.all.length + 1 ∧ ((b.note k x).drop k true).all.length = b.all.length + 1 := by
  have hn := hasK_no hh
  have e : b.note k x = ⟨b.R, insK b.L k x, b.G⟩ := by unfold Bk.note; rw [if_neg hz]
  have h1 : (b.note k x).has k = true := by
    rw [e]
    exact hasK_iff.2 (ids_insK.2 (.inl rfl))
  have ed : ∀ keep, (b.note k x).drop k keep = ⟨b.R, b.L, if keep then b.G ++ [(b.note k x).get k] else b.G⟩ := fun keep => by
    have : (b.note k x).drop k keep = { b.note k x with L := delK (b.note k x).L k, G := if keep then (b.note k x).G ++ [(b.note k x).get k] else (b.note k x).G } := if_pos h1
    rw [this]
    rw [e]
    simp only [del_ins hn]
  refine ⟨h1, ?_, ?_, ?_, ?_, ?_⟩
  · rw [ed]; rfl
  · rw [ed]; rfl
  · rw [ed]; simp
  · rw [Bk.all_len, Bk.all_len, e]
    have := insK_len b.L k x
    simp only [this]
    omega
  · rw [Bk.all_len, Bk.all_len, ed]
    simp
    omega
theorem put_again {b : Bk} {k : Int} {x : Cv} {n : Nat} (hF : b.Fit n) (hx : x.word) (hm : mB x = true) (hh : b.has k = false) (hk : kB (x :: b.all) b.R = true) : (⟨b.R, b.L, []⟩ : Bk).putE k x = 0 := by
  refine putE_ok hm hh ?_
  have hw : ∀ c ∈ x :: b.all, c.word := fun c hc => by
    rcases List.mem_cons.1 hc with rfl | hc
    · exact hx
    · exact hF.words c hc
  exact kB_sub hw ((List.sublist_append_right b.G (cvsK b.L)).cons_cons x) hk
section
variable {V0 w w' : World} {t n : Nat} {b b' : Bk} {k : Int} {x : Cv}
theorem bn_all (h : Bn V0 w t n b) (hn : n ≤ 200) {q : Nat} (hq : b.all.length = q) : Calls Try.prog 23 #[ptr t] w fun e w' => (∃ a c, e = .returned (.slice a q c) ∧ q ≤ c) ∧ Below w.heap.size w w' := by
  subst hq
  obtain ⟨χ, hf, h1⟩ := h
  refine (all_of h1 hn).mono ?_
  rintro e w' ⟨v, rfl, O, T⟩
  obtain ⟨a, c, rfl, hc, _⟩ := own_len O
  exact ⟨⟨a, c, rfl, hc⟩, T⟩
end
set_option maxHeartbeats 40000000 in
set_option maxRecDepth 100000 in
theorem AdmitAgain_walk (R : Int) (a : Option Addr) (n c : Nat) (xs : Nat → Ac) (id : Int) (x : Cv) (keep : Bool) (V0 : World) (hR : Word R) (hI : IsRow aV 6 V0 a n c xs) (hok : ∀ i, (xs i).ok) (hcm : c ≤ maxLen) (hid : I64 id) (hx : x.word) :
    Calls Try.prog 5 #[eU R, .slice a n c, eI id, .agg (cA x), .bool keep] V0 fun e w' => e = .returned (.bool true) ∧ Below V0.heap.size V0 w' := by
  have hLg := fun W => long_any (a := a) hI.1 W
  have hA := fun W => awake_any W
  by_cases hn : 60 < n
  · rw [decide_eq_true hn] at hLg
    go_enter Try.func5, Try.ntmps5
    go_wp2_with (first
      | (refine wl_box 25 rfl rfl rfl ?_; intro w1 X1 T1)
      | (go_at_call 20; (with_reducible refine (hA _).mono ?_); rintro e w2 ⟨rfl, T2⟩)
      | (go_at_call 21; (with_reducible refine (hLg _).mono ?_); rintro e w3 ⟨rfl, rfl⟩))
    go_ret
    exact ⟨rfl, ups T1 T2 T1.size⟩
  rw [decide_eq_false hn] at hLg
  by_cases hb : ¬ (1 ≤ R ∧ R ≤ 1048576)
  · have hPl := fun W => played_bad a n c R hR hb W
    clear hb
    go_enter Try.func5, Try.ntmps5
    go_wp2_with (first
      | (refine wl_box 25 rfl rfl rfl ?_; intro w1 X1 T1)
      | (go_at_call 20; (with_reducible refine (hA _).mono ?_); rintro e w2 ⟨rfl, T2⟩; have hp := nil_eq)
      | (go_at_call 21; (with_reducible refine (hLg _).mono ?_); rintro e w3 ⟨rfl, rfl⟩)
      | (go_at_call 22; (with_reducible refine (hPl _).mono ?_); rintro e w4 ⟨rfl, rfl⟩))
    go_ret
    exact ⟨rfl, ups T1 T2 T1.size⟩
  replace hb := Classical.not_not.1 hb
  go_enter Try.func5, Try.ntmps5
  go_upto_region 8 with (first
    | (refine wl_box 25 rfl rfl rfl ?_; intro w1 X1 T1; have hPl := fun W (hW : Below w1.heap.size w1 W) => played_any a n c xs R hR hb w1 W hW (hI.below T1) hok hcm (by omega))
    | (go_at_call 20; (with_reducible refine (hA _).mono ?_); rintro e w2 ⟨rfl, T2⟩; have hP2 := hPl w2 T2)
    | (go_at_call 21; (with_reducible refine (hLg _).mono ?_); rintro e w3 ⟨rfl, rfl⟩)
    | (go_at_call 22; (with_reducible refine hP2.mono ?_); rintro e w4 ⟨C, b, rfl, hbR, H4⟩; have hp := ptr_eq C))
  have hZ := Lib.hid (fun W (hW : Below w1.heap.size w1 W) => X1.below hW)
  have hT1 := Lib.hid T1
  have hF := H4.fit
  obtain ⟨N, hN⟩ : ∃ N, b.all.length = N := ⟨_, rfl⟩
  have hN60 : N ≤ 60 := by have := hF.few; rw [Bk.all_len] at hN; omega
  have hw1 : IntKind.i64.wrap ((N : Int) + 1) = (N : Int) + 1 := i64_id (by omega)
  have hMy : ∀ W, Calls Try.prog 24 #[.agg (cA x)] W fun e w' => e = .returned (.bool (mB x)) ∧ Below W.heap.size W w' := fun W => may_any x.f x.l x.r W hx.1 hx.2.1 hx.2.2
  have hend : ∀ W, Below w1.heap.size w1 W → Below V0.heap.size V0 W := fun W h => ups hT1.out h hT1.out.size
  have hfin := Lib.hid hend
  clear hend hPl hP2 hI hok hA hLg T2 T1 X1 hbR
  cases hh : b.has id with
  | true =>
    cases hm : mB x with
    | true =>
      have he : b.putE id x = 80 := putE_twice hm hh
      have hpb : b.put id x = b := put_no he (by decide)
      have hfx : b.fits x = b.fits x := rfl
      obtain ⟨q, hq⟩ : ∃ q, b.fits x = q := ⟨_, rfl⟩
      replace hfx := hq
      clear hq
      go_wp2_with (first
        | (refine wl_run (xl_load 25 (hZ.out _ H4.world) rfl rfl Try.underlying25 rfl size25 (by omega : 0 + 3 ≤ 3) (cA_all _)) rfl ?_; have hf1 := bn_fits H4 (by omega) hx hfx)
        | (go_at_call 10; (with_reducible refine hf1.mono ?_); rintro e w5 ⟨rfl, T5⟩; have H5 := H4.below T5; have hA1 := bn_all H5 (by omega) hN)
        | (go_at_call 23; (with_reducible refine hA1.mono ?_); rintro e w6 ⟨⟨a6, c6, rfl, hc6⟩, T6⟩; have H6 := H5.below T6; have hL6 := bn_live H6 hid; rw [hh] at hL6)
        | (go_at_call 12; (with_reducible refine hL6.mono ?_); rintro e w7 ⟨rfl, T7⟩; have H7 := H6.below T7)
        | (refine wl_alloc 25 rfl rfl zero25 ?_; intro w8 X8 T8)
        | (refine wl_store 25 X8 rfl rfl rfl rfl size25 rfl (by omega : 0 + 3 ≤ 3) (cA_one _) (spl_cc _ _) ?_; intro w9 X9 K9; have H9 := H7.below (K9.up T8 (Nat.le_refl _)))
        | (refine wl_run (xl_load 25 (hZ.out _ H9.world) rfl rfl Try.underlying25 rfl size25 (by omega : 0 + 3 ≤ 3) (cA_all _)) rfl ?_; have hP := bn_put H9 (by omega) hid hx he hpb)
        | (go_at_call 9; (with_reducible refine hP.mono ?_); rintro e wa ⟨rfl, Ha⟩))
      go_ret
      exact ⟨rfl, hfin.out _ Ha.world⟩
    | false =>
      rw [hm] at hMy
      have he : b.putE id x = 30 := by unfold Bk.putE; rw [hm]; rfl
      have hpb : b.put id x = b := put_no he (by decide)
      obtain ⟨q, hfx⟩ : ∃ q, b.fits x = q := ⟨_, rfl⟩
      go_wp2_with (first
        | (refine wl_run (xl_load 25 (hZ.out _ H4.world) rfl rfl Try.underlying25 rfl size25 (by omega : 0 + 3 ≤ 3) (cA_all _)) rfl ?_; have hf1 := bn_fits H4 (by omega) hx hfx)
        | (go_at_call 10; (with_reducible refine hf1.mono ?_); rintro e w5 ⟨rfl, T5⟩; have H5 := H4.below T5; have hA1 := bn_all H5 (by omega) hN)
        | (go_at_call 23; (with_reducible refine hA1.mono ?_); rintro e w6 ⟨⟨a6, c6, rfl, hc6⟩, T6⟩; have H6 := H5.below T6; have hL6 := bn_live H6 hid; rw [hh] at hL6)
        | (go_at_call 12; (with_reducible refine hL6.mono ?_); rintro e w7 ⟨rfl, T7⟩; have H7 := H6.below T7)
        | (refine wl_alloc 25 rfl rfl zero25 ?_; intro w8 X8 T8)
        | (refine wl_store 25 X8 rfl rfl rfl rfl size25 rfl (by omega : 0 + 3 ≤ 3) (cA_one _) (spl_cc _ _) ?_; intro w9 X9 K9; have H9 := H7.below (K9.up T8 (Nat.le_refl _)))
        | (refine wl_run (xl_load 25 (hZ.out _ H9.world) rfl rfl Try.underlying25 rfl size25 (by omega : 0 + 3 ≤ 3) (cA_all _)) rfl ?_; have hP := bn_put H9 (by omega) hid hx he hpb)
        | (go_at_call 9; (with_reducible refine hP.mono ?_); rintro e wa ⟨rfl, Ha⟩)
        | (refine wl_run (xl_load 25 (hZ.out _ Ha.world) rfl rfl Try.underlying25 rfl size25 (by omega : 0 + 3 ≤ 3) (cA_all _)) rfl ?_)
        | (go_at_call 24; (with_reducible refine (hMy _).mono ?_); rintro e wb ⟨rfl, Tb⟩))
      go_ret
      exact ⟨rfl, hfin.out _ (Ha.below Tb).world⟩
  | false =>
    cases hm : mB x with
    | false =>
      rw [hm] at hMy
      have he : b.putE id x = 30 := by unfold Bk.putE; rw [hm]; rfl
      have hpb : b.put id x = b := put_no he (by decide)
      have hfx : b.fits x = false := by unfold Bk.fits; rw [hm]; rfl
      go_wp2_with (first
        | (refine wl_run (xl_load 25 (hZ.out _ H4.world) rfl rfl Try.underlying25 rfl size25 (by omega : 0 + 3 ≤ 3) (cA_all _)) rfl ?_; have hf1 := bn_fits H4 (by omega) hx hfx)
        | (go_at_call 10; (with_reducible refine hf1.mono ?_); rintro e w5 ⟨rfl, T5⟩; have H5 := H4.below T5; have hA1 := bn_all H5 (by omega) hN)
        | (go_at_call 23; (with_reducible refine hA1.mono ?_); rintro e w6 ⟨⟨a6, c6, rfl, hc6⟩, T6⟩; have H6 := H5.below T6; have hL6 := bn_live H6 hid; rw [hh] at hL6)
        | (go_at_call 12; (with_reducible refine hL6.mono ?_); rintro e w7 ⟨rfl, T7⟩; have H7 := H6.below T7)
        | (refine wl_alloc 25 rfl rfl zero25 ?_; intro w8 X8 T8)
        | (refine wl_store 25 X8 rfl rfl rfl rfl size25 rfl (by omega : 0 + 3 ≤ 3) (cA_one _) (spl_cc _ _) ?_; intro w9 X9 K9; have H9 := H7.below (K9.up T8 (Nat.le_refl _)))
        | (refine wl_run (xl_load 25 (hZ.out _ H9.world) rfl rfl Try.underlying25 rfl size25 (by omega : 0 + 3 ≤ 3) (cA_all _)) rfl ?_; have hP := bn_put H9 (by omega) hid hx he hpb)
        | (go_at_call 9; (with_reducible refine hP.mono ?_); rintro e wa ⟨rfl, Ha⟩; have hA2 := bn_all Ha (by omega) hN)
        | (go_at_call 23; (with_reducible refine hA2.mono ?_); rintro e wb ⟨⟨ab, cb, rfl, hcb⟩, Tb⟩; have Hb := Ha.below Tb)
        | (refine wl_run (xl_load 25 (hZ.out _ Hb.world) rfl rfl Try.underlying25 rfl size25 (by omega : 0 + 3 ≤ 3) (cA_all _)) rfl ?_)
        | (go_at_call 24; (with_reducible refine (hMy _).mono ?_); rintro e wc ⟨rfl, Tc⟩))
      go_ret
      exact ⟨by simp, hfin.out _ (Hb.below Tc).world⟩
    | true =>
      rw [hm] at hMy
      cases hk : kB (x :: b.all) b.R with
      | false =>
        have he : b.putE id x = 170 := putE_no hm hh hk
        have hpb : b.put id x = b := put_no he (by decide)
        have hfx : b.fits x = false := by unfold Bk.fits; rw [hm, hk]; rfl
        go_wp2_with (first
          | (refine wl_run (xl_load 25 (hZ.out _ H4.world) rfl rfl Try.underlying25 rfl size25 (by omega : 0 + 3 ≤ 3) (cA_all _)) rfl ?_; have hf1 := bn_fits H4 (by omega) hx hfx)
          | (go_at_call 10; (with_reducible refine hf1.mono ?_); rintro e w5 ⟨rfl, T5⟩; have H5 := H4.below T5; have hA1 := bn_all H5 (by omega) hN)
          | (go_at_call 23; (with_reducible refine hA1.mono ?_); rintro e w6 ⟨⟨a6, c6, rfl, hc6⟩, T6⟩; have H6 := H5.below T6; have hL6 := bn_live H6 hid; rw [hh] at hL6)
          | (go_at_call 12; (with_reducible refine hL6.mono ?_); rintro e w7 ⟨rfl, T7⟩; have H7 := H6.below T7)
          | (refine wl_alloc 25 rfl rfl zero25 ?_; intro w8 X8 T8)
          | (refine wl_store 25 X8 rfl rfl rfl rfl size25 rfl (by omega : 0 + 3 ≤ 3) (cA_one _) (spl_cc _ _) ?_; intro w9 X9 K9; have H9 := H7.below (K9.up T8 (Nat.le_refl _)))
          | (refine wl_run (xl_load 25 (hZ.out _ H9.world) rfl rfl Try.underlying25 rfl size25 (by omega : 0 + 3 ≤ 3) (cA_all _)) rfl ?_; have hP := bn_put H9 (by omega) hid hx he hpb)
          | (go_at_call 9; (with_reducible refine hP.mono ?_); rintro e wa ⟨rfl, Ha⟩; have hA2 := bn_all Ha (by omega) hN)
          | (go_at_call 23; (with_reducible refine hA2.mono ?_); rintro e wb ⟨⟨ab, cb, rfl, hcb⟩, Tb⟩; have Hb := Ha.below Tb)
          | (refine wl_run (xl_load 25 (hZ.out _ Hb.world) rfl rfl Try.underlying25 rfl size25 (by omega : 0 + 3 ≤ 3) (cA_all _)) rfl ?_)
          | (go_at_call 24; (with_reducible refine (hMy _).mono ?_); rintro e wc ⟨rfl, Tc⟩))
        go_ret
        exact ⟨by simp, hfin.out _ (Hb.below Tc).world⟩
      | true =>
        have he : b.putE id x = 0 := putE_ok hm hh hk
        have hfx : b.fits x = true := by unfold Bk.fits; rw [hm, hk]; rfl
        have hpn : b.put id x = b.note id x := put_ok he rfl
        by_cases hz : x = zC
        · have hpb : b.put id x = b := by rw [hpn]; exact if_pos hz
          have hzd : decide (x = zC) = true := decide_eq_true hz
          replace hzd := Lib.hid hzd
          clear hz hk hm hpn
          go_wp2_with (first
            | (refine wl_run (xl_load 25 (hZ.out _ H4.world) rfl rfl Try.underlying25 rfl size25 (by omega : 0 + 3 ≤ 3) (cA_all _)) rfl ?_; have hf1 := bn_fits H4 (by omega) hx hfx)
            | (go_at_call 10; (with_reducible refine hf1.mono ?_); rintro e w5 ⟨rfl, T5⟩; have H5 := H4.below T5; have hA1 := bn_all H5 (by omega) hN)
            | (go_at_call 23; (with_reducible refine hA1.mono ?_); rintro e w6 ⟨⟨a6, c6, rfl, hc6⟩, T6⟩; have H6 := H5.below T6; have hL6 := bn_live H6 hid; rw [hh] at hL6)
            | (go_at_call 12; (with_reducible refine hL6.mono ?_); rintro e w7 ⟨rfl, T7⟩; have H7 := H6.below T7)
            | (refine wl_alloc 25 rfl rfl zero25 ?_; intro w8 X8 T8)
            | (refine wl_store 25 X8 rfl rfl rfl rfl size25 rfl (by omega : 0 + 3 ≤ 3) (cA_one _) (spl_cc _ _) ?_; intro w9 X9 K9; have H9 := H7.below (K9.up T8 (Nat.le_refl _)))
            | (refine wl_run (xl_load 25 (hZ.out _ H9.world) rfl rfl Try.underlying25 rfl size25 (by omega : 0 + 3 ≤ 3) (cA_all _)) rfl ?_; have hP := bn_put H9 (by omega) hid hx he hpb)
            | (go_at_call 9; (with_reducible refine hP.mono ?_); rintro e wa ⟨rfl, Ha⟩; have hA2 := bn_all Ha (by omega) hN)
            | (refine wl_run (xl_load 25 (hZ.out _ Ha.world) rfl rfl Try.underlying25 rfl size25 (by omega : 0 + 3 ≤ 3) (cA_all _)) rfl ?_)
            | (refine wl_run (xl_build0 25 built25 rfl) rfl ?_)
            | (refine wl_run (v := .bool true) ((xl_eq25 (p := x) (q := zC) rfl rfl rfl).trans (by rw [hzd.out])) rfl ?_)
            | (go_at_call 23; (with_reducible refine hA2.mono ?_); rintro e wb ⟨⟨ab, cb, rfl, hcb⟩, Tb⟩))
          go_ret
          exact ⟨by simp, hfin.out _ (Ha.below Tb).world⟩
        · obtain ⟨n1, n2, n3, n4, n5, n6⟩ := note_drop hz hh
          have hzd : decide (x = zC) = false := decide_eq_false hz
          replace hzd := Lib.hid hzd
          have hpa := put_again hF hx hm hh hk
          rw [hN] at n5 n6
          have hpb := hpn
          obtain ⟨b1, hb1⟩ : ∃ b1, b.note id x = b1 := ⟨_, rfl⟩
          rw [hb1] at n1 n2 n3 n4 n5 n6 hpb
          clear hz hpn hb1
          cases keep with
          | false =>
            have hpb3 : b.put id x = b1 := hpb
            go_wp2_with (first
              | (refine wl_run (xl_load 25 (hZ.out _ H4.world) rfl rfl Try.underlying25 rfl size25 (by omega : 0 + 3 ≤ 3) (cA_all _)) rfl ?_; have hf1 := bn_fits H4 (by omega) hx hfx)
              | (go_at_call 10; (with_reducible refine hf1.mono ?_); rintro e w5 ⟨rfl, T5⟩; have H5 := H4.below T5; have hA1 := bn_all H5 (by omega) hN)
              | (go_at_call 23; (with_reducible refine hA1.mono ?_); rintro e w6 ⟨⟨a6, c6, rfl, hc6⟩, T6⟩; have H6 := H5.below T6; have hL6 := bn_live H6 hid; rw [hh] at hL6)
              | (go_at_call 12; (with_reducible refine hL6.mono ?_); rintro e w7 ⟨rfl, T7⟩; have H7 := H6.below T7)
              | (refine wl_alloc 25 rfl rfl zero25 ?_; intro w8 X8 T8)
              | (refine wl_store 25 X8 rfl rfl rfl rfl size25 rfl (by omega : 0 + 3 ≤ 3) (cA_one _) (spl_cc _ _) ?_; intro w9 X9 K9; have H9 := H7.below (K9.up T8 (Nat.le_refl _)))
              | (refine wl_run (xl_load 25 (hZ.out _ H9.world) rfl rfl Try.underlying25 rfl size25 (by omega : 0 + 3 ≤ 3) (cA_all _)) rfl ?_; have hP := bn_put H9 (by omega) hid hx he hpb)
              | (go_at_call 9; (with_reducible refine hP.mono ?_); rintro e wa ⟨rfl, Ha⟩; have hA2 := bn_all Ha (by omega) n5)
              | (refine wl_run (xl_load 25 (hZ.out _ Ha.world) rfl rfl Try.underlying25 rfl size25 (by omega : 0 + 3 ≤ 3) (cA_all _)) rfl ?_)
              | (refine wl_run (xl_build0 25 built25 rfl) rfl ?_)
              | (refine wl_run (v := .bool false) ((xl_eq25 (p := x) (q := zC) rfl rfl rfl).trans (by rw [hzd.out])) rfl ?_)
              | (go_at_call 23; (with_reducible refine hA2.mono ?_); rintro e wb ⟨⟨ab, cb, rfl, hcb⟩, Tb⟩; have Hb := Ha.below Tb; have hD := bn_drop Hb (by omega) hid false n1 n2)
              | (go_at_call 14; (with_reducible refine hD.mono ?_); rintro e wc ⟨rfl, Hc⟩; have hP2 := bn_put Hc (by omega) hid hx he hpb3)
              | (refine wl_run (xl_load 25 (hZ.out _ Hc.world) rfl rfl Try.underlying25 rfl size25 (by omega : 0 + 3 ≤ 3) (cA_all _)) rfl ?_)
              | (go_at_call 9; (with_reducible refine hP2.mono ?_); rintro e wd ⟨rfl, Hd⟩))
            go_ret
            exact ⟨by simp, hfin.out _ Hd.world⟩
          | true =>
            obtain ⟨m, hmG⟩ : ∃ m, b.G.length = m := ⟨_, rfl⟩
            rw [hmG] at n4
            have hm60 : m ≤ 60 := by have := hF.few; omega
            have hml : ¬ ((m : Int) + 1) < 1 := by omega
            obtain ⟨b2, hb2⟩ : ∃ b2, b1.drop id true = b2 := ⟨_, rfl⟩
            rw [hb2] at n3 n4 n6
            obtain ⟨b3, hb3⟩ : ∃ b3, b2.settle = b3 := ⟨_, rfl⟩
            rw [hb3] at n3
            rw [← n3] at hpa
            clear n3
            go_wp2_with (first
              | (refine wl_run (xl_load 25 (hZ.out _ H4.world) rfl rfl Try.underlying25 rfl size25 (by omega : 0 + 3 ≤ 3) (cA_all _)) rfl ?_; have hf1 := bn_fits H4 (by omega) hx hfx)
              | (go_at_call 10; (with_reducible refine hf1.mono ?_); rintro e w5 ⟨rfl, T5⟩; have H5 := H4.below T5; have hA1 := bn_all H5 (by omega) hN)
              | (go_at_call 23; (with_reducible refine hA1.mono ?_); rintro e w6 ⟨⟨a6, c6, rfl, hc6⟩, T6⟩; have H6 := H5.below T6; have hL6 := bn_live H6 hid; rw [hh] at hL6)
              | (go_at_call 12; (with_reducible refine hL6.mono ?_); rintro e w7 ⟨rfl, T7⟩; have H7 := H6.below T7)
              | (refine wl_alloc 25 rfl rfl zero25 ?_; intro w8 X8 T8)
              | (refine wl_store 25 X8 rfl rfl rfl rfl size25 rfl (by omega : 0 + 3 ≤ 3) (cA_one _) (spl_cc _ _) ?_; intro w9 X9 K9; have H9 := H7.below (K9.up T8 (Nat.le_refl _)))
              | (refine wl_run (xl_load 25 (hZ.out _ H9.world) rfl rfl Try.underlying25 rfl size25 (by omega : 0 + 3 ≤ 3) (cA_all _)) rfl ?_; have hP := bn_put H9 (by omega) hid hx he hpb)
              | (go_at_call 9; (with_reducible refine hP.mono ?_); rintro e wa ⟨rfl, Ha⟩; have hA2 := bn_all Ha (by omega) n5)
              | (refine wl_run (xl_load 25 (hZ.out _ Ha.world) rfl rfl Try.underlying25 rfl size25 (by omega : 0 + 3 ≤ 3) (cA_all _)) rfl ?_)
              | (refine wl_run (xl_build0 25 built25 rfl) rfl ?_)
              | (refine wl_run (v := .bool false) ((xl_eq25 (p := x) (q := zC) rfl rfl rfl).trans (by rw [hzd.out])) rfl ?_)
              | (go_at_call 23; (with_reducible refine hA2.mono ?_); rintro e wb ⟨⟨ab, cb, rfl, hcb⟩, Tb⟩; have Hb := Ha.below Tb; have hD := bn_drop Hb (by omega) hid true n1 hb2)
              | (go_at_call 14; (with_reducible refine hD.mono ?_); rintro e wc ⟨rfl, Hc⟩; have hA3 := bn_all Hc (by omega) n6)
              | (go_at_call 23; (with_reducible refine hA3.mono ?_); rintro e wd ⟨⟨ad, cd, rfl, hcd⟩, Td⟩; have Hd := Hc.below Td; have hS := bn_settle Hd n4; rw [hb3] at hS)
              | (go_at_call 15; (with_reducible refine hS.mono ?_); rintro e we ⟨rfl, He⟩; have hP2 := bn_put He (by omega) hid hx hpa rfl)
              | (refine wl_run (xl_load 25 (hZ.out _ He.world) rfl rfl Try.underlying25 rfl size25 (by omega : 0 + 3 ≤ 3) (cA_all _)) rfl ?_)
              | (go_at_call 9; (with_reducible refine hP2.mono ?_); rintro e wf ⟨rfl, Hf⟩))
            go_ret
            exact ⟨by simp, hfin.out _ Hf.world⟩
end Go.Proofs.Ytjbpaapglamilaa.H
