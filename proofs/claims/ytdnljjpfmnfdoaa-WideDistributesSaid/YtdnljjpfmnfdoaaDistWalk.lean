/- The walk of WideDistributes, over what its callees answer. -/
import Derived.Test.YtdnljjpfmnfdoaaAwake
import Derived.WalkKit
import Derived.ProofKit
import Derived.Test.YtdnljjpfmnfdoaaHasB
import Derived.Deep.RegionHeld3
import Derived.Deep.DeepCutAuto
namespace Go.Proofs.Ytdnljjpfmnfdoaa.wideDistributes
open Go.RowKit W
set_option linter.unusedVariables false

/-- What a call of Mul, Plus, Minus, Cmp answers. -/
abbrev Mu (a b x y : Int) : Prop := ∀ w, Calls Try.prog 20 #[.int .u64 a, .int .u64 b] w fun e w' => e = .returned (.agg #[.int .u64 x, .int .u64 y]) ∧ Below w.heap.size w w'
abbrev Pl (a b c d x y e : Int) : Prop := ∀ w, Calls Try.prog 10 #[.agg #[.int .u64 a, .int .u64 b], .agg #[.int .u64 c, .int .u64 d]] w fun e' w' => e' = .returned (.tuple #[.agg #[.int .u64 x, .int .u64 y], .int .i64 e]) ∧ Below w.heap.size w w'
abbrev Mi (a b c d x y e : Int) : Prop := ∀ w, Calls Try.prog 12 #[.agg #[.int .u64 a, .int .u64 b], .agg #[.int .u64 c, .int .u64 d]] w fun e' w' => e' = .returned (.tuple #[.agg #[.int .u64 x, .int .u64 y], .int .i64 e]) ∧ Below w.heap.size w w'
abbrev Cm (a b c d z : Int) : Prop := ∀ w, Calls Try.prog 16 #[.agg #[.int .u64 a, .int .u64 b], .agg #[.int .u64 c, .int .u64 d]] w fun e' w' => e' = .returned (.int .i64 z) ∧ Below w.heap.size w w'

set_option maxRecDepth 100000 in
set_option maxHeartbeats 8000000 in
theorem yes (a b c s wh wl xh xl a1 a2 b1 b2 c1 c2 p1 p2 pe y1 y2 z1 z2 g : Int) (w : World) (a0 : 0 ≤ a) (aM : a ≤ 18446744073709551615) (b0 : 0 ≤ b) (bM : b ≤ 18446744073709551615) (c0 : 0 ≤ c) (cM : c ≤ 18446744073709551615)
    (s0 : 0 ≤ s) (sM : s ≤ 18446744073709551615) (hs : IntKind.u64.wrap (a + b) = s) (hk : s < a)
    (M1 : Mu a c a1 a2) (M2 : Mu b c b1 b2) (P1 : Pl a1 a2 b1 b2 p1 p2 pe) (M3 : Mu s c c1 c2) (P2 : Pl c1 c2 c 0 p1 p2 pe) (M4 : Mu c a a1 a2) (M5 : Mu a 1 0 a) (M6 : Mu a 0 0 0)
    (P3 : Pl wh wl xh xl y1 y2 g) (hg : Hid ((g = 10 ∧ y1 = 0 ∧ y2 = 0 ∧ Cm wh wl 0 0 1 ∧ Cm xh xl 0 0 1) ∨ (g = 0 ∧ Mi y1 y2 xh xl wh wl 0 ∧ Mi y1 y2 wh wl xh xl 0 ∧ Cm y1 y2 wh wl z1 ∧ Cm y1 y2 xh xl z2 ∧ 0 ≤ z1 ∧ 0 ≤ z2))) :
    Calls Try.prog 5 #[.int .u64 a, .int .u64 b, .int .u64 c, .agg #[.int .u64 wh, .int .u64 wl], .agg #[.int .u64 xh, .int .u64 xl]] w fun e w' => e = .returned (.bool true) ∧ Below w.heap.size w w' := by
  have hw : IntKind.u64.wrap c = c := IntWalk.u64_in _ (by omega)
  have hw0 : IntKind.u64.wrap 0 = 0 := rfl
  go_enter Try.func5, Try.ntmps5
  go_upto_region 8 with (first
      | (go_at_call 24; (with_reducible refine (awake_any _).mono ?_); rintro e w1 ⟨rfl, hb1⟩; have HA1 := ((Has.new w wh wl).alloc (.cells #[.int .u64 xh, .int .u64 xl] 24)).below hb1; obtain ⟨xA1, yA1, zA1⟩ := id HA1; have HB1 := (Has.new2 w (.cells #[.int .u64 wh, .int .u64 wl] 24) xh xl).below hb1; obtain ⟨xB1, yB1, zB1⟩ := id HB1)
      | (go_at_call 20; (with_reducible refine (M1 _).mono ?_); rintro e w2 ⟨rfl, hb2⟩; have HA2 := ((HA1).alloc (.cells #[.int .u64 (1), .int .u64 (s)] 24)).below hb2; obtain ⟨xA2, yA2, zA2⟩ := id HA2; have HB2 := ((HB1).alloc (.cells #[.int .u64 (1), .int .u64 (s)] 24)).below hb2; obtain ⟨xB2, yB2, zB2⟩ := id HB2; have HS2 := (Has.new w1 (1) (s)).below hb2; obtain ⟨xS2, yS2, zS2⟩ := id HS2)
      | (go_at_call 20; (with_reducible refine (M2 _).mono ?_); rintro e w3 ⟨rfl, hb3⟩; have HA3 := (HA2).below hb3; obtain ⟨xA3, yA3, zA3⟩ := id HA3; have HB3 := (HB2).below hb3; obtain ⟨xB3, yB3, zB3⟩ := id HB3; have HS3 := (HS2).below hb3; obtain ⟨xS3, yS3, zS3⟩ := id HS3)
      | (go_at_call 10; (with_reducible refine (P1 _).mono ?_); rintro e w4 ⟨rfl, hb4⟩; have HA4 := (HA3).below hb4; obtain ⟨xA4, yA4, zA4⟩ := id HA4; have HB4 := (HB3).below hb4; obtain ⟨xB4, yB4, zB4⟩ := id HB4; have HS4 := (HS3).below hb4; obtain ⟨xS4, yS4, zS4⟩ := id HS4))
  have HA0 := (HA4).alloc (.cells #[.int .u64 (p1), .int .u64 (p2)] 24)
  have HB0 := (HB4).alloc (.cells #[.int .u64 (p1), .int .u64 (p2)] 24)
  have HS0 := (HS4).alloc (.cells #[.int .u64 (p1), .int .u64 (p2)] 24)
  have HP0 := Has.new w4 (p1) (p2)
  have t1 := up (up2 w _ _) hb1 (up2 w _ _).size
  have t2 := up (t1.alloc t1.size _) hb2 (t1.alloc t1.size _).size
  have t3 := up t2 hb3 t2.size
  have t4 := up t3 hb4 t3.size
  have t0 := t4.alloc t4.size (.cells #[.int .u64 p1, .int .u64 p2] 24)
  clear hb1 hb2 hb3 hb4 t1 t2 t3 t4
  go_cut [15, 16] from 23 (fun s15 s16 wx => ∃ N : Nat, s15 = .pointer (some ⟨N, 0, none⟩) ∧ s16 = .int .i64 pe ∧ Has wx N p1 p2 ∧ Has wx w.heap.size wh wl ∧ Has wx (w.heap.size + 1) xh xl ∧ Has wx w4.heap.size p1 p2 ∧ Below w.heap.size w wx)
  case first =>
    go_region_held3 (fun w' => w'.cell? ⟨w1.heap.size, 0, none⟩ = some (.int .u64 1))
      (first | exact (HS0).2.1 | exact (HS0.alloc _).2.1 | exact (HS5).2.1 | exact (HS5.alloc _).2.1 | exact (HS6).2.1 | exact (HS6.alloc _).2.1 | exact ((HS6.setLt (by first | exact HS5.1 | exact HS6.1 | exact HS0.1 | (have := HS4.1; simp; omega)) _).setLt (by first | exact HS5.1 | exact HS6.1 | exact HS0.1 | (have := HS4.1; simp; omega)) _).2.1 | go_keep)
      (first
        | (go_at_call 20; (with_reducible refine (M3 _).mono ?_); rintro e w5 ⟨rfl, hb5⟩; (first | replace hb5 := undrew hb5 | replace hb5 := undrewN hb5 | skip); obtain ⟨hc5, hf5⟩ := bcell hb5; have hz5 := hb5.size; (first | have HA5 := HA0.below hb5 | have HA5 := (HA0.alloc (.cells #[.int .u64 0, .int .u64 0] 24)).below hb5); (first | have HB5 := HB0.below hb5 | have HB5 := (HB0.alloc (.cells #[.int .u64 0, .int .u64 0] 24)).below hb5); (first | have HS5 := HS0.below hb5 | have HS5 := (HS0.alloc (.cells #[.int .u64 0, .int .u64 0] 24)).below hb5); (first | have HP5 := HP0.below hb5 | have HP5 := (HP0.alloc (.cells #[.int .u64 0, .int .u64 0] 24)).below hb5); (try (have hn5 : w4.heap.size + 1 < w5.heap.size := (by have := hb5.size; simp at this; omega))))
        | (go_at_call 10; (with_reducible refine (P2 _).mono ?_); rintro e w6 ⟨rfl, hb6⟩; (first | replace hb6 := undrew hb6 | replace hb6 := undrewN hb6 | skip); obtain ⟨hc6, hf6⟩ := bcell hb6; have hz6 := hb6.size; (first | have HA6 := HA5.below hb6 | have HA6 := (HA5.alloc (.cells #[.int .u64 0, .int .u64 0] 24)).below hb6); (first | have HB6 := HB5.below hb6 | have HB6 := (HB5.alloc (.cells #[.int .u64 0, .int .u64 0] 24)).below hb6); (first | have HS6 := HS5.below hb6 | have HS6 := (HS5.alloc (.cells #[.int .u64 0, .int .u64 0] 24)).below hb6); (first | have HP6 := HP5.below hb6 | have HP6 := (HP5.alloc (.cells #[.int .u64 0, .int .u64 0] 24)).below hb6)))
    all_goals
      go_wp2_with fail
      go_meet
      first
        | exact ⟨_, rfl, rfl, Has.new _ _ _, HA6.alloc _, HB6.alloc _, HP6.alloc _, (up (up t0 hb5 t0.size) hb6 (up t0 hb5 t0.size).size).alloc (up (up t0 hb5 t0.size) hb6 (up t0 hb5 t0.size).size).size _⟩
        | exact ⟨_, rfl, rfl, ((Has.new w5 0 0).below hb6).store p1 p2, (HA6.setLt HA5.1 _).setLt HA5.1 _, (HB6.setLt HB5.1 _).setLt HB5.1 _, (HP6.setLt HP5.1 _).setLt HP5.1 _,
            ((up ((up t0 hb5 t0.size).alloc (up t0 hb5 t0.size).size _) hb6 ((up t0 hb5 t0.size).alloc (up t0 hb5 t0.size).size _).size).setCell (up t0 hb5 t0.size).size _).setCell (up t0 hb5 t0.size).size _⟩
        | exact ⟨_, rfl, rfl, (((Has.new2 w4 (.cells #[.int .u64 p1, .int .u64 p2] 24) 0 0).below hb5).below hb6).store p1 p2, (HA6.setLt (Nat.lt_succ_of_lt HA4.1) _).setLt (Nat.lt_succ_of_lt HA4.1) _, (HB6.setLt (Nat.lt_succ_of_lt HB4.1) _).setLt (Nat.lt_succ_of_lt HB4.1) _, (HP6.setLt (Nat.lt_succ_self _) _).setLt (Nat.lt_succ_self _) _,
            ((up (up (t0.alloc t0.size _) hb5 (t0.alloc t0.size _).size) hb6 (up (t0.alloc t0.size _) hb5 (t0.alloc t0.size _).size).size).setCell (by have := t0.size; simpa using this) _).setCell (by have := t0.size; simpa using this) _⟩
  case rest =>
    obtain ⟨N, rfl, rfl, HQc, HAc, HBc, HPc, tc⟩ := hcut
    clear HA0 HB0 HS0 HP0 t0
    obtain ⟨xAc, yAc, zAc⟩ := id HAc
    obtain ⟨xBc, yBc, zBc⟩ := id HBc
    obtain ⟨xPc, yPc, zPc⟩ := id HPc
    obtain ⟨xQc, yQc, zQc⟩ := id HQc
    rcases hg.out with ⟨rfl, rfl, rfl, C1, C2⟩ | ⟨rfl, D1, D2, C1, C2, Z1, Z2⟩
    · clear hg
      go_wp2_with (first
        | (go_at_call 20; (with_reducible refine (M1 _).mono ?_); rintro e w7 ⟨rfl, hb7⟩; have HA7 := (HAc).below hb7; obtain ⟨xA7, yA7, zA7⟩ := id HA7; have HB7 := (HBc).below hb7; obtain ⟨xB7, yB7, zB7⟩ := id HB7; have HP7 := (HPc).below hb7; obtain ⟨xP7, yP7, zP7⟩ := id HP7; have HQ7 := (HQc).below hb7; obtain ⟨xQ7, yQ7, zQ7⟩ := id HQ7)
        | (go_at_call 20; (with_reducible refine (M4 _).mono ?_); rintro e w8 ⟨rfl, hb8⟩; have HA8 := (HA7).below hb8; obtain ⟨xA8, yA8, zA8⟩ := id HA8; have HB8 := (HB7).below hb8; obtain ⟨xB8, yB8, zB8⟩ := id HB8; have HP8 := (HP7).below hb8; obtain ⟨xP8, yP8, zP8⟩ := id HP8; have HQ8 := (HQ7).below hb8; obtain ⟨xQ8, yQ8, zQ8⟩ := id HQ8)
        | (go_at_call 20; (with_reducible refine (M5 _).mono ?_); rintro e w9 ⟨rfl, hb9⟩; have HA9 := (HA8).below hb9; obtain ⟨xA9, yA9, zA9⟩ := id HA9; have HB9 := (HB8).below hb9; obtain ⟨xB9, yB9, zB9⟩ := id HB9; have HP9 := (HP8).below hb9; obtain ⟨xP9, yP9, zP9⟩ := id HP9; have HQ9 := (HQ8).below hb9; obtain ⟨xQ9, yQ9, zQ9⟩ := id HQ9)
        | (go_at_call 20; (with_reducible refine (M6 _).mono ?_); rintro e w10 ⟨rfl, hb10⟩; have HA10 := (HA9).below hb10; obtain ⟨xA10, yA10, zA10⟩ := id HA10; have HB10 := (HB9).below hb10; obtain ⟨xB10, yB10, zB10⟩ := id HB10; have HP10 := (HP9).below hb10; obtain ⟨xP10, yP10, zP10⟩ := id HP10; have HQ10 := (HQ9).below hb10; obtain ⟨xQ10, yQ10, zQ10⟩ := id HQ10)
        | (go_at_call 10; (with_reducible refine (P3 _).mono ?_); rintro e w11 ⟨rfl, hb11⟩; have HA11 := (HA10).below hb11; obtain ⟨xA11, yA11, zA11⟩ := id HA11; have HB11 := (HB10).below hb11; obtain ⟨xB11, yB11, zB11⟩ := id HB11; have HP11 := (HP10).below hb11; obtain ⟨xP11, yP11, zP11⟩ := id HP11; have HQ11 := (HQ10).below hb11; obtain ⟨xQ11, yQ11, zQ11⟩ := id HQ11)
        | (go_at_call 16; (with_reducible refine (C1 _).mono ?_); rintro e w12 ⟨rfl, hb12⟩; have HA12 := ((HA11).alloc (.cells #[.int .u64 (0), .int .u64 (0)] 24)).below hb12; obtain ⟨xA12, yA12, zA12⟩ := id HA12; have HB12 := ((HB11).alloc (.cells #[.int .u64 (0), .int .u64 (0)] 24)).below hb12; obtain ⟨xB12, yB12, zB12⟩ := id HB12; have HP12 := ((HP11).alloc (.cells #[.int .u64 (0), .int .u64 (0)] 24)).below hb12; obtain ⟨xP12, yP12, zP12⟩ := id HP12; have HQ12 := ((HQ11).alloc (.cells #[.int .u64 (0), .int .u64 (0)] 24)).below hb12; obtain ⟨xQ12, yQ12, zQ12⟩ := id HQ12; have HY12 := (Has.new w11 (0) (0)).below hb12; obtain ⟨xY12, yY12, zY12⟩ := id HY12)
        | (go_at_call 16; (with_reducible refine (C2 _).mono ?_); rintro e w13 ⟨rfl, hb13⟩; have HA13 := (HA12).below hb13; obtain ⟨xA13, yA13, zA13⟩ := id HA13; have HB13 := (HB12).below hb13; obtain ⟨xB13, yB13, zB13⟩ := id HB13; have HP13 := (HP12).below hb13; obtain ⟨xP13, yP13, zP13⟩ := id HP13; have HQ13 := (HQ12).below hb13; obtain ⟨xQ13, yQ13, zQ13⟩ := id HQ13; have HY13 := (HY12).below hb13; obtain ⟨xY13, yY13, zY13⟩ := id HY13))
      have e7 := up tc hb7 tc.size
      have e8 := up e7 hb8 e7.size
      have e9 := up e8 hb9 e8.size
      have e10 := up e9 hb10 e9.size
      have e11 := up e10 hb11 e10.size
      have e11Y := e11.alloc e11.size (.cells #[.int .u64 (0), .int .u64 (0)] 24)
      have e12 := up e11Y hb12 e11Y.size
      have e13 := up e12 hb13 e12.size
      go_ret
      exact ⟨rfl, e13⟩
    · clear hg
      go_wp2_with (first
        | (go_at_call 20; (with_reducible refine (M1 _).mono ?_); rintro e w7 ⟨rfl, hb7⟩; have HA7 := (HAc).below hb7; obtain ⟨xA7, yA7, zA7⟩ := id HA7; have HB7 := (HBc).below hb7; obtain ⟨xB7, yB7, zB7⟩ := id HB7; have HP7 := (HPc).below hb7; obtain ⟨xP7, yP7, zP7⟩ := id HP7; have HQ7 := (HQc).below hb7; obtain ⟨xQ7, yQ7, zQ7⟩ := id HQ7)
        | (go_at_call 20; (with_reducible refine (M4 _).mono ?_); rintro e w8 ⟨rfl, hb8⟩; have HA8 := (HA7).below hb8; obtain ⟨xA8, yA8, zA8⟩ := id HA8; have HB8 := (HB7).below hb8; obtain ⟨xB8, yB8, zB8⟩ := id HB8; have HP8 := (HP7).below hb8; obtain ⟨xP8, yP8, zP8⟩ := id HP8; have HQ8 := (HQ7).below hb8; obtain ⟨xQ8, yQ8, zQ8⟩ := id HQ8)
        | (go_at_call 20; (with_reducible refine (M5 _).mono ?_); rintro e w9 ⟨rfl, hb9⟩; have HA9 := (HA8).below hb9; obtain ⟨xA9, yA9, zA9⟩ := id HA9; have HB9 := (HB8).below hb9; obtain ⟨xB9, yB9, zB9⟩ := id HB9; have HP9 := (HP8).below hb9; obtain ⟨xP9, yP9, zP9⟩ := id HP9; have HQ9 := (HQ8).below hb9; obtain ⟨xQ9, yQ9, zQ9⟩ := id HQ9)
        | (go_at_call 20; (with_reducible refine (M6 _).mono ?_); rintro e w10 ⟨rfl, hb10⟩; have HA10 := (HA9).below hb10; obtain ⟨xA10, yA10, zA10⟩ := id HA10; have HB10 := (HB9).below hb10; obtain ⟨xB10, yB10, zB10⟩ := id HB10; have HP10 := (HP9).below hb10; obtain ⟨xP10, yP10, zP10⟩ := id HP10; have HQ10 := (HQ9).below hb10; obtain ⟨xQ10, yQ10, zQ10⟩ := id HQ10)
        | (go_at_call 10; (with_reducible refine (P3 _).mono ?_); rintro e w11 ⟨rfl, hb11⟩; have HA11 := (HA10).below hb11; obtain ⟨xA11, yA11, zA11⟩ := id HA11; have HB11 := (HB10).below hb11; obtain ⟨xB11, yB11, zB11⟩ := id HB11; have HP11 := (HP10).below hb11; obtain ⟨xP11, yP11, zP11⟩ := id HP11; have HQ11 := (HQ10).below hb11; obtain ⟨xQ11, yQ11, zQ11⟩ := id HQ11)
        | (go_at_call 12; (with_reducible refine (D1 _).mono ?_); rintro e w12 ⟨rfl, hb12⟩; have HA12 := ((HA11).alloc (.cells #[.int .u64 (y1), .int .u64 (y2)] 24)).below hb12; obtain ⟨xA12, yA12, zA12⟩ := id HA12; have HB12 := ((HB11).alloc (.cells #[.int .u64 (y1), .int .u64 (y2)] 24)).below hb12; obtain ⟨xB12, yB12, zB12⟩ := id HB12; have HP12 := ((HP11).alloc (.cells #[.int .u64 (y1), .int .u64 (y2)] 24)).below hb12; obtain ⟨xP12, yP12, zP12⟩ := id HP12; have HQ12 := ((HQ11).alloc (.cells #[.int .u64 (y1), .int .u64 (y2)] 24)).below hb12; obtain ⟨xQ12, yQ12, zQ12⟩ := id HQ12; have HY12 := (Has.new w11 (y1) (y2)).below hb12; obtain ⟨xY12, yY12, zY12⟩ := id HY12)
        | (go_at_call 12; (with_reducible refine (D2 _).mono ?_); rintro e w13 ⟨rfl, hb13⟩; have HA13 := ((HA12).alloc (.cells #[.int .u64 (wh), .int .u64 (wl)] 24)).below hb13; obtain ⟨xA13, yA13, zA13⟩ := id HA13; have HB13 := ((HB12).alloc (.cells #[.int .u64 (wh), .int .u64 (wl)] 24)).below hb13; obtain ⟨xB13, yB13, zB13⟩ := id HB13; have HP13 := ((HP12).alloc (.cells #[.int .u64 (wh), .int .u64 (wl)] 24)).below hb13; obtain ⟨xP13, yP13, zP13⟩ := id HP13; have HQ13 := ((HQ12).alloc (.cells #[.int .u64 (wh), .int .u64 (wl)] 24)).below hb13; obtain ⟨xQ13, yQ13, zQ13⟩ := id HQ13; have HY13 := ((HY12).alloc (.cells #[.int .u64 (wh), .int .u64 (wl)] 24)).below hb13; obtain ⟨xY13, yY13, zY13⟩ := id HY13; have HT13 := (Has.new w12 (wh) (wl)).below hb13; obtain ⟨xT13, yT13, zT13⟩ := id HT13)
        | (go_at_call 16; (with_reducible refine (C1 _).mono ?_); rintro e w14 ⟨rfl, hb14⟩; have HA14 := ((HA13).alloc (.cells #[.int .u64 (xh), .int .u64 (xl)] 24)).below hb14; obtain ⟨xA14, yA14, zA14⟩ := id HA14; have HB14 := ((HB13).alloc (.cells #[.int .u64 (xh), .int .u64 (xl)] 24)).below hb14; obtain ⟨xB14, yB14, zB14⟩ := id HB14; have HP14 := ((HP13).alloc (.cells #[.int .u64 (xh), .int .u64 (xl)] 24)).below hb14; obtain ⟨xP14, yP14, zP14⟩ := id HP14; have HQ14 := ((HQ13).alloc (.cells #[.int .u64 (xh), .int .u64 (xl)] 24)).below hb14; obtain ⟨xQ14, yQ14, zQ14⟩ := id HQ14; have HY14 := ((HY13).alloc (.cells #[.int .u64 (xh), .int .u64 (xl)] 24)).below hb14; obtain ⟨xY14, yY14, zY14⟩ := id HY14; have HT14 := ((HT13).alloc (.cells #[.int .u64 (xh), .int .u64 (xl)] 24)).below hb14; obtain ⟨xT14, yT14, zT14⟩ := id HT14; have HU14 := (Has.new w13 (xh) (xl)).below hb14; obtain ⟨xU14, yU14, zU14⟩ := id HU14)
        | (go_at_call 16; (with_reducible refine (C2 _).mono ?_); rintro e w15 ⟨rfl, hb15⟩; have HA15 := (HA14).below hb15; obtain ⟨xA15, yA15, zA15⟩ := id HA15; have HB15 := (HB14).below hb15; obtain ⟨xB15, yB15, zB15⟩ := id HB15; have HP15 := (HP14).below hb15; obtain ⟨xP15, yP15, zP15⟩ := id HP15; have HQ15 := (HQ14).below hb15; obtain ⟨xQ15, yQ15, zQ15⟩ := id HQ15; have HY15 := (HY14).below hb15; obtain ⟨xY15, yY15, zY15⟩ := id HY15; have HT15 := (HT14).below hb15; obtain ⟨xT15, yT15, zT15⟩ := id HT15; have HU15 := (HU14).below hb15; obtain ⟨xU15, yU15, zU15⟩ := id HU15))
      have e7 := up tc hb7 tc.size
      have e8 := up e7 hb8 e7.size
      have e9 := up e8 hb9 e8.size
      have e10 := up e9 hb10 e9.size
      have e11 := up e10 hb11 e10.size
      have e11Y := e11.alloc e11.size (.cells #[.int .u64 (y1), .int .u64 (y2)] 24)
      have e12 := up e11Y hb12 e11Y.size
      have e12T := e12.alloc e12.size (.cells #[.int .u64 (wh), .int .u64 (wl)] 24)
      have e13 := up e12T hb13 e12T.size
      have e13U := e13.alloc e13.size (.cells #[.int .u64 (xh), .int .u64 (xl)] 24)
      have e14 := up e13U hb14 e13U.size
      have e15 := up e14 hb15 e14.size
      go_ret
      exact ⟨rfl, e15⟩

set_option maxRecDepth 100000 in
set_option maxHeartbeats 8000000 in
theorem no (a b c s wh wl xh xl a1 a2 b1 b2 c1 c2 p1 p2 pe y1 y2 z1 z2 g : Int) (w : World) (a0 : 0 ≤ a) (aM : a ≤ 18446744073709551615) (b0 : 0 ≤ b) (bM : b ≤ 18446744073709551615) (c0 : 0 ≤ c) (cM : c ≤ 18446744073709551615)
    (s0 : 0 ≤ s) (sM : s ≤ 18446744073709551615) (hs : IntKind.u64.wrap (a + b) = s) (hk : a ≤ s)
    (M1 : Mu a c a1 a2) (M2 : Mu b c b1 b2) (P1 : Pl a1 a2 b1 b2 p1 p2 pe) (M3 : Mu s c c1 c2) (P2 : Pl c1 c2 0 0 p1 p2 pe) (M4 : Mu c a a1 a2) (M5 : Mu a 1 0 a) (M6 : Mu a 0 0 0)
    (P3 : Pl wh wl xh xl y1 y2 g) (hg : Hid ((g = 10 ∧ y1 = 0 ∧ y2 = 0 ∧ Cm wh wl 0 0 1 ∧ Cm xh xl 0 0 1) ∨ (g = 0 ∧ Mi y1 y2 xh xl wh wl 0 ∧ Mi y1 y2 wh wl xh xl 0 ∧ Cm y1 y2 wh wl z1 ∧ Cm y1 y2 xh xl z2 ∧ 0 ≤ z1 ∧ 0 ≤ z2))) :
    Calls Try.prog 5 #[.int .u64 a, .int .u64 b, .int .u64 c, .agg #[.int .u64 wh, .int .u64 wl], .agg #[.int .u64 xh, .int .u64 xl]] w fun e w' => e = .returned (.bool true) ∧ Below w.heap.size w w' := by
  have hw : IntKind.u64.wrap c = c := IntWalk.u64_in _ (by omega)
  have hw0 : IntKind.u64.wrap 0 = 0 := rfl
  go_enter Try.func5, Try.ntmps5
  go_upto_region 8 with (first
      | (go_at_call 24; (with_reducible refine (awake_any _).mono ?_); rintro e w1 ⟨rfl, hb1⟩; have HA1 := ((Has.new w wh wl).alloc (.cells #[.int .u64 xh, .int .u64 xl] 24)).below hb1; obtain ⟨xA1, yA1, zA1⟩ := id HA1; have HB1 := (Has.new2 w (.cells #[.int .u64 wh, .int .u64 wl] 24) xh xl).below hb1; obtain ⟨xB1, yB1, zB1⟩ := id HB1)
      | (go_at_call 20; (with_reducible refine (M1 _).mono ?_); rintro e w2 ⟨rfl, hb2⟩; have HA2 := ((HA1).alloc (.cells #[.int .u64 (0), .int .u64 (s)] 24)).below hb2; obtain ⟨xA2, yA2, zA2⟩ := id HA2; have HB2 := ((HB1).alloc (.cells #[.int .u64 (0), .int .u64 (s)] 24)).below hb2; obtain ⟨xB2, yB2, zB2⟩ := id HB2; have HS2 := (Has.new w1 (0) (s)).below hb2; obtain ⟨xS2, yS2, zS2⟩ := id HS2)
      | (go_at_call 20; (with_reducible refine (M2 _).mono ?_); rintro e w3 ⟨rfl, hb3⟩; have HA3 := (HA2).below hb3; obtain ⟨xA3, yA3, zA3⟩ := id HA3; have HB3 := (HB2).below hb3; obtain ⟨xB3, yB3, zB3⟩ := id HB3; have HS3 := (HS2).below hb3; obtain ⟨xS3, yS3, zS3⟩ := id HS3)
      | (go_at_call 10; (with_reducible refine (P1 _).mono ?_); rintro e w4 ⟨rfl, hb4⟩; have HA4 := (HA3).below hb4; obtain ⟨xA4, yA4, zA4⟩ := id HA4; have HB4 := (HB3).below hb4; obtain ⟨xB4, yB4, zB4⟩ := id HB4; have HS4 := (HS3).below hb4; obtain ⟨xS4, yS4, zS4⟩ := id HS4))
  have HA0 := (HA4).alloc (.cells #[.int .u64 (p1), .int .u64 (p2)] 24)
  have HB0 := (HB4).alloc (.cells #[.int .u64 (p1), .int .u64 (p2)] 24)
  have HS0 := (HS4).alloc (.cells #[.int .u64 (p1), .int .u64 (p2)] 24)
  have HP0 := Has.new w4 (p1) (p2)
  have t1 := up (up2 w _ _) hb1 (up2 w _ _).size
  have t2 := up (t1.alloc t1.size _) hb2 (t1.alloc t1.size _).size
  have t3 := up t2 hb3 t2.size
  have t4 := up t3 hb4 t3.size
  have t0 := t4.alloc t4.size (.cells #[.int .u64 p1, .int .u64 p2] 24)
  clear hb1 hb2 hb3 hb4 t1 t2 t3 t4
  go_cut [15, 16] from 23 (fun s15 s16 wx => ∃ N : Nat, s15 = .pointer (some ⟨N, 0, none⟩) ∧ s16 = .int .i64 pe ∧ Has wx N p1 p2 ∧ Has wx w.heap.size wh wl ∧ Has wx (w.heap.size + 1) xh xl ∧ Has wx w4.heap.size p1 p2 ∧ Below w.heap.size w wx)
  case first =>
    go_region_held3 (fun w' => w'.cell? ⟨w1.heap.size, 0, none⟩ = some (.int .u64 0))
      (first | exact (HS0).2.1 | exact (HS0.alloc _).2.1 | exact (HS5).2.1 | exact (HS5.alloc _).2.1 | exact (HS6).2.1 | exact (HS6.alloc _).2.1 | exact ((HS6.setLt (by first | exact HS5.1 | exact HS6.1 | exact HS0.1 | (have := HS4.1; simp; omega)) _).setLt (by first | exact HS5.1 | exact HS6.1 | exact HS0.1 | (have := HS4.1; simp; omega)) _).2.1 | go_keep)
      (first
        | (go_at_call 20; (with_reducible refine (M3 _).mono ?_); rintro e w5 ⟨rfl, hb5⟩; (first | replace hb5 := undrew hb5 | replace hb5 := undrewN hb5 | skip); obtain ⟨hc5, hf5⟩ := bcell hb5; have hz5 := hb5.size; (first | have HA5 := HA0.below hb5 | have HA5 := (HA0.alloc (.cells #[.int .u64 0, .int .u64 0] 24)).below hb5); (first | have HB5 := HB0.below hb5 | have HB5 := (HB0.alloc (.cells #[.int .u64 0, .int .u64 0] 24)).below hb5); (first | have HS5 := HS0.below hb5 | have HS5 := (HS0.alloc (.cells #[.int .u64 0, .int .u64 0] 24)).below hb5); (first | have HP5 := HP0.below hb5 | have HP5 := (HP0.alloc (.cells #[.int .u64 0, .int .u64 0] 24)).below hb5); (try (have hn5 : w4.heap.size + 1 < w5.heap.size := (by have := hb5.size; simp at this; omega))))
        | (go_at_call 10; (with_reducible refine (P2 _).mono ?_); rintro e w6 ⟨rfl, hb6⟩; (first | replace hb6 := undrew hb6 | replace hb6 := undrewN hb6 | skip); obtain ⟨hc6, hf6⟩ := bcell hb6; have hz6 := hb6.size; (first | have HA6 := HA5.below hb6 | have HA6 := (HA5.alloc (.cells #[.int .u64 0, .int .u64 0] 24)).below hb6); (first | have HB6 := HB5.below hb6 | have HB6 := (HB5.alloc (.cells #[.int .u64 0, .int .u64 0] 24)).below hb6); (first | have HS6 := HS5.below hb6 | have HS6 := (HS5.alloc (.cells #[.int .u64 0, .int .u64 0] 24)).below hb6); (first | have HP6 := HP5.below hb6 | have HP6 := (HP5.alloc (.cells #[.int .u64 0, .int .u64 0] 24)).below hb6)))
    all_goals
      go_wp2_with fail
      go_meet
      first
        | exact ⟨_, rfl, rfl, Has.new _ _ _, HA6.alloc _, HB6.alloc _, HP6.alloc _, (up (up t0 hb5 t0.size) hb6 (up t0 hb5 t0.size).size).alloc (up (up t0 hb5 t0.size) hb6 (up t0 hb5 t0.size).size).size _⟩
        | exact ⟨_, rfl, rfl, ((Has.new w5 0 0).below hb6).store p1 p2, (HA6.setLt HA5.1 _).setLt HA5.1 _, (HB6.setLt HB5.1 _).setLt HB5.1 _, (HP6.setLt HP5.1 _).setLt HP5.1 _,
            ((up ((up t0 hb5 t0.size).alloc (up t0 hb5 t0.size).size _) hb6 ((up t0 hb5 t0.size).alloc (up t0 hb5 t0.size).size _).size).setCell (up t0 hb5 t0.size).size _).setCell (up t0 hb5 t0.size).size _⟩
        | exact ⟨_, rfl, rfl, (((Has.new2 w4 (.cells #[.int .u64 p1, .int .u64 p2] 24) 0 0).below hb5).below hb6).store p1 p2, (HA6.setLt (Nat.lt_succ_of_lt HA4.1) _).setLt (Nat.lt_succ_of_lt HA4.1) _, (HB6.setLt (Nat.lt_succ_of_lt HB4.1) _).setLt (Nat.lt_succ_of_lt HB4.1) _, (HP6.setLt (Nat.lt_succ_self _) _).setLt (Nat.lt_succ_self _) _,
            ((up (up (t0.alloc t0.size _) hb5 (t0.alloc t0.size _).size) hb6 (up (t0.alloc t0.size _) hb5 (t0.alloc t0.size _).size).size).setCell (by have := t0.size; simpa using this) _).setCell (by have := t0.size; simpa using this) _⟩
  case rest =>
    obtain ⟨N, rfl, rfl, HQc, HAc, HBc, HPc, tc⟩ := hcut
    clear HA0 HB0 HS0 HP0 t0
    obtain ⟨xAc, yAc, zAc⟩ := id HAc
    obtain ⟨xBc, yBc, zBc⟩ := id HBc
    obtain ⟨xPc, yPc, zPc⟩ := id HPc
    obtain ⟨xQc, yQc, zQc⟩ := id HQc
    rcases hg.out with ⟨rfl, rfl, rfl, C1, C2⟩ | ⟨rfl, D1, D2, C1, C2, Z1, Z2⟩
    · clear hg
      go_wp2_with (first
        | (go_at_call 20; (with_reducible refine (M1 _).mono ?_); rintro e w7 ⟨rfl, hb7⟩; have HA7 := (HAc).below hb7; obtain ⟨xA7, yA7, zA7⟩ := id HA7; have HB7 := (HBc).below hb7; obtain ⟨xB7, yB7, zB7⟩ := id HB7; have HP7 := (HPc).below hb7; obtain ⟨xP7, yP7, zP7⟩ := id HP7; have HQ7 := (HQc).below hb7; obtain ⟨xQ7, yQ7, zQ7⟩ := id HQ7)
        | (go_at_call 20; (with_reducible refine (M4 _).mono ?_); rintro e w8 ⟨rfl, hb8⟩; have HA8 := (HA7).below hb8; obtain ⟨xA8, yA8, zA8⟩ := id HA8; have HB8 := (HB7).below hb8; obtain ⟨xB8, yB8, zB8⟩ := id HB8; have HP8 := (HP7).below hb8; obtain ⟨xP8, yP8, zP8⟩ := id HP8; have HQ8 := (HQ7).below hb8; obtain ⟨xQ8, yQ8, zQ8⟩ := id HQ8)
        | (go_at_call 20; (with_reducible refine (M5 _).mono ?_); rintro e w9 ⟨rfl, hb9⟩; have HA9 := (HA8).below hb9; obtain ⟨xA9, yA9, zA9⟩ := id HA9; have HB9 := (HB8).below hb9; obtain ⟨xB9, yB9, zB9⟩ := id HB9; have HP9 := (HP8).below hb9; obtain ⟨xP9, yP9, zP9⟩ := id HP9; have HQ9 := (HQ8).below hb9; obtain ⟨xQ9, yQ9, zQ9⟩ := id HQ9)
        | (go_at_call 20; (with_reducible refine (M6 _).mono ?_); rintro e w10 ⟨rfl, hb10⟩; have HA10 := (HA9).below hb10; obtain ⟨xA10, yA10, zA10⟩ := id HA10; have HB10 := (HB9).below hb10; obtain ⟨xB10, yB10, zB10⟩ := id HB10; have HP10 := (HP9).below hb10; obtain ⟨xP10, yP10, zP10⟩ := id HP10; have HQ10 := (HQ9).below hb10; obtain ⟨xQ10, yQ10, zQ10⟩ := id HQ10)
        | (go_at_call 10; (with_reducible refine (P3 _).mono ?_); rintro e w11 ⟨rfl, hb11⟩; have HA11 := (HA10).below hb11; obtain ⟨xA11, yA11, zA11⟩ := id HA11; have HB11 := (HB10).below hb11; obtain ⟨xB11, yB11, zB11⟩ := id HB11; have HP11 := (HP10).below hb11; obtain ⟨xP11, yP11, zP11⟩ := id HP11; have HQ11 := (HQ10).below hb11; obtain ⟨xQ11, yQ11, zQ11⟩ := id HQ11)
        | (go_at_call 16; (with_reducible refine (C1 _).mono ?_); rintro e w12 ⟨rfl, hb12⟩; have HA12 := ((HA11).alloc (.cells #[.int .u64 (0), .int .u64 (0)] 24)).below hb12; obtain ⟨xA12, yA12, zA12⟩ := id HA12; have HB12 := ((HB11).alloc (.cells #[.int .u64 (0), .int .u64 (0)] 24)).below hb12; obtain ⟨xB12, yB12, zB12⟩ := id HB12; have HP12 := ((HP11).alloc (.cells #[.int .u64 (0), .int .u64 (0)] 24)).below hb12; obtain ⟨xP12, yP12, zP12⟩ := id HP12; have HQ12 := ((HQ11).alloc (.cells #[.int .u64 (0), .int .u64 (0)] 24)).below hb12; obtain ⟨xQ12, yQ12, zQ12⟩ := id HQ12; have HY12 := (Has.new w11 (0) (0)).below hb12; obtain ⟨xY12, yY12, zY12⟩ := id HY12)
        | (go_at_call 16; (with_reducible refine (C2 _).mono ?_); rintro e w13 ⟨rfl, hb13⟩; have HA13 := (HA12).below hb13; obtain ⟨xA13, yA13, zA13⟩ := id HA13; have HB13 := (HB12).below hb13; obtain ⟨xB13, yB13, zB13⟩ := id HB13; have HP13 := (HP12).below hb13; obtain ⟨xP13, yP13, zP13⟩ := id HP13; have HQ13 := (HQ12).below hb13; obtain ⟨xQ13, yQ13, zQ13⟩ := id HQ13; have HY13 := (HY12).below hb13; obtain ⟨xY13, yY13, zY13⟩ := id HY13))
      have e7 := up tc hb7 tc.size
      have e8 := up e7 hb8 e7.size
      have e9 := up e8 hb9 e8.size
      have e10 := up e9 hb10 e9.size
      have e11 := up e10 hb11 e10.size
      have e11Y := e11.alloc e11.size (.cells #[.int .u64 (0), .int .u64 (0)] 24)
      have e12 := up e11Y hb12 e11Y.size
      have e13 := up e12 hb13 e12.size
      go_ret
      exact ⟨rfl, e13⟩
    · clear hg
      go_wp2_with (first
        | (go_at_call 20; (with_reducible refine (M1 _).mono ?_); rintro e w7 ⟨rfl, hb7⟩; have HA7 := (HAc).below hb7; obtain ⟨xA7, yA7, zA7⟩ := id HA7; have HB7 := (HBc).below hb7; obtain ⟨xB7, yB7, zB7⟩ := id HB7; have HP7 := (HPc).below hb7; obtain ⟨xP7, yP7, zP7⟩ := id HP7; have HQ7 := (HQc).below hb7; obtain ⟨xQ7, yQ7, zQ7⟩ := id HQ7)
        | (go_at_call 20; (with_reducible refine (M4 _).mono ?_); rintro e w8 ⟨rfl, hb8⟩; have HA8 := (HA7).below hb8; obtain ⟨xA8, yA8, zA8⟩ := id HA8; have HB8 := (HB7).below hb8; obtain ⟨xB8, yB8, zB8⟩ := id HB8; have HP8 := (HP7).below hb8; obtain ⟨xP8, yP8, zP8⟩ := id HP8; have HQ8 := (HQ7).below hb8; obtain ⟨xQ8, yQ8, zQ8⟩ := id HQ8)
        | (go_at_call 20; (with_reducible refine (M5 _).mono ?_); rintro e w9 ⟨rfl, hb9⟩; have HA9 := (HA8).below hb9; obtain ⟨xA9, yA9, zA9⟩ := id HA9; have HB9 := (HB8).below hb9; obtain ⟨xB9, yB9, zB9⟩ := id HB9; have HP9 := (HP8).below hb9; obtain ⟨xP9, yP9, zP9⟩ := id HP9; have HQ9 := (HQ8).below hb9; obtain ⟨xQ9, yQ9, zQ9⟩ := id HQ9)
        | (go_at_call 20; (with_reducible refine (M6 _).mono ?_); rintro e w10 ⟨rfl, hb10⟩; have HA10 := (HA9).below hb10; obtain ⟨xA10, yA10, zA10⟩ := id HA10; have HB10 := (HB9).below hb10; obtain ⟨xB10, yB10, zB10⟩ := id HB10; have HP10 := (HP9).below hb10; obtain ⟨xP10, yP10, zP10⟩ := id HP10; have HQ10 := (HQ9).below hb10; obtain ⟨xQ10, yQ10, zQ10⟩ := id HQ10)
        | (go_at_call 10; (with_reducible refine (P3 _).mono ?_); rintro e w11 ⟨rfl, hb11⟩; have HA11 := (HA10).below hb11; obtain ⟨xA11, yA11, zA11⟩ := id HA11; have HB11 := (HB10).below hb11; obtain ⟨xB11, yB11, zB11⟩ := id HB11; have HP11 := (HP10).below hb11; obtain ⟨xP11, yP11, zP11⟩ := id HP11; have HQ11 := (HQ10).below hb11; obtain ⟨xQ11, yQ11, zQ11⟩ := id HQ11)
        | (go_at_call 12; (with_reducible refine (D1 _).mono ?_); rintro e w12 ⟨rfl, hb12⟩; have HA12 := ((HA11).alloc (.cells #[.int .u64 (y1), .int .u64 (y2)] 24)).below hb12; obtain ⟨xA12, yA12, zA12⟩ := id HA12; have HB12 := ((HB11).alloc (.cells #[.int .u64 (y1), .int .u64 (y2)] 24)).below hb12; obtain ⟨xB12, yB12, zB12⟩ := id HB12; have HP12 := ((HP11).alloc (.cells #[.int .u64 (y1), .int .u64 (y2)] 24)).below hb12; obtain ⟨xP12, yP12, zP12⟩ := id HP12; have HQ12 := ((HQ11).alloc (.cells #[.int .u64 (y1), .int .u64 (y2)] 24)).below hb12; obtain ⟨xQ12, yQ12, zQ12⟩ := id HQ12; have HY12 := (Has.new w11 (y1) (y2)).below hb12; obtain ⟨xY12, yY12, zY12⟩ := id HY12)
        | (go_at_call 12; (with_reducible refine (D2 _).mono ?_); rintro e w13 ⟨rfl, hb13⟩; have HA13 := ((HA12).alloc (.cells #[.int .u64 (wh), .int .u64 (wl)] 24)).below hb13; obtain ⟨xA13, yA13, zA13⟩ := id HA13; have HB13 := ((HB12).alloc (.cells #[.int .u64 (wh), .int .u64 (wl)] 24)).below hb13; obtain ⟨xB13, yB13, zB13⟩ := id HB13; have HP13 := ((HP12).alloc (.cells #[.int .u64 (wh), .int .u64 (wl)] 24)).below hb13; obtain ⟨xP13, yP13, zP13⟩ := id HP13; have HQ13 := ((HQ12).alloc (.cells #[.int .u64 (wh), .int .u64 (wl)] 24)).below hb13; obtain ⟨xQ13, yQ13, zQ13⟩ := id HQ13; have HY13 := ((HY12).alloc (.cells #[.int .u64 (wh), .int .u64 (wl)] 24)).below hb13; obtain ⟨xY13, yY13, zY13⟩ := id HY13; have HT13 := (Has.new w12 (wh) (wl)).below hb13; obtain ⟨xT13, yT13, zT13⟩ := id HT13)
        | (go_at_call 16; (with_reducible refine (C1 _).mono ?_); rintro e w14 ⟨rfl, hb14⟩; have HA14 := ((HA13).alloc (.cells #[.int .u64 (xh), .int .u64 (xl)] 24)).below hb14; obtain ⟨xA14, yA14, zA14⟩ := id HA14; have HB14 := ((HB13).alloc (.cells #[.int .u64 (xh), .int .u64 (xl)] 24)).below hb14; obtain ⟨xB14, yB14, zB14⟩ := id HB14; have HP14 := ((HP13).alloc (.cells #[.int .u64 (xh), .int .u64 (xl)] 24)).below hb14; obtain ⟨xP14, yP14, zP14⟩ := id HP14; have HQ14 := ((HQ13).alloc (.cells #[.int .u64 (xh), .int .u64 (xl)] 24)).below hb14; obtain ⟨xQ14, yQ14, zQ14⟩ := id HQ14; have HY14 := ((HY13).alloc (.cells #[.int .u64 (xh), .int .u64 (xl)] 24)).below hb14; obtain ⟨xY14, yY14, zY14⟩ := id HY14; have HT14 := ((HT13).alloc (.cells #[.int .u64 (xh), .int .u64 (xl)] 24)).below hb14; obtain ⟨xT14, yT14, zT14⟩ := id HT14; have HU14 := (Has.new w13 (xh) (xl)).below hb14; obtain ⟨xU14, yU14, zU14⟩ := id HU14)
        | (go_at_call 16; (with_reducible refine (C2 _).mono ?_); rintro e w15 ⟨rfl, hb15⟩; have HA15 := (HA14).below hb15; obtain ⟨xA15, yA15, zA15⟩ := id HA15; have HB15 := (HB14).below hb15; obtain ⟨xB15, yB15, zB15⟩ := id HB15; have HP15 := (HP14).below hb15; obtain ⟨xP15, yP15, zP15⟩ := id HP15; have HQ15 := (HQ14).below hb15; obtain ⟨xQ15, yQ15, zQ15⟩ := id HQ15; have HY15 := (HY14).below hb15; obtain ⟨xY15, yY15, zY15⟩ := id HY15; have HT15 := (HT14).below hb15; obtain ⟨xT15, yT15, zT15⟩ := id HT15; have HU15 := (HU14).below hb15; obtain ⟨xU15, yU15, zU15⟩ := id HU15))
      have e7 := up tc hb7 tc.size
      have e8 := up e7 hb8 e7.size
      have e9 := up e8 hb9 e8.size
      have e10 := up e9 hb10 e9.size
      have e11 := up e10 hb11 e10.size
      have e11Y := e11.alloc e11.size (.cells #[.int .u64 (y1), .int .u64 (y2)] 24)
      have e12 := up e11Y hb12 e11Y.size
      have e12T := e12.alloc e12.size (.cells #[.int .u64 (wh), .int .u64 (wl)] 24)
      have e13 := up e12T hb13 e12T.size
      have e13U := e13.alloc e13.size (.cells #[.int .u64 (xh), .int .u64 (xl)] 24)
      have e14 := up e13U hb14 e13U.size
      have e15 := up e14 hb15 e14.size
      go_ret
      exact ⟨rfl, e15⟩
end Go.Proofs.Ytdnljjpfmnfdoaa.wideDistributes
