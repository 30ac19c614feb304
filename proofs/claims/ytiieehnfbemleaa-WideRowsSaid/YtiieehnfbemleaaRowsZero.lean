/- The walks of WideRows at rows that are too long, and where a row is empty. No condition but that an int can count them. -/
import Derived.Test.YtiieehnfbemleaaRowsWalk
namespace Go.Proofs.Ytiieehnfbemleaa
open Go.RowKit W
set_option linter.unusedVariables false
set_option maxRecDepth 100000 in
theorem rows_long (at' : Int) (ad bd : Option Addr) (la ca lb cb : Nat) (w : World) (h : 20 < la ∨ 20 < lb) (l1 : la ≤ 9223372036854775807) (l2 : lb ≤ 9223372036854775807) :
    Calls Try.prog 3 #[.slice ad la ca, .slice bd lb cb, .int .i64 at'] w fun e w' => e = .returned (.bool true) ∧ Below w.heap.size w w' := by
  obtain ⟨m, hm⟩ : ∃ m : Nat, min (la : Int) (lb : Int) = m := ⟨min la lb, by omega⟩
  by_cases h1 : 20 < la
  · clear h
    go_enter Try.func3, Try.ntmps3
    go_wp2_with (go_at_call 11; (with_reducible refine (awake_any _).mono ?_); rintro e w1 ⟨rfl, hb1⟩)
    go_ret
    exact ⟨rfl, hb1⟩
  · have h2 : 20 < lb := by omega
    have d1 : decide (20 < (la : Int)) = false := by simp; omega
    clear h h1
    go_enter Try.func3, Try.ntmps3
    go_wp2_with (go_at_call 11; (with_reducible refine (awake_any _).mono ?_); rintro e w1 ⟨rfl, hb1⟩)
    go_ret
    exact ⟨rfl, hb1⟩

set_option maxRecDepth 100000 in
set_option maxHeartbeats 2000000 in
theorem rows_some_some (at' : Int) (w : World) (xa xb : Addr) (la ca lb cb : Nat) (h2 : la ≤ 20) (h3 : lb ≤ 20) (hca : la ≤ ca) (hcb : lb ≤ cb) (hn : la = 0 ∨ lb = 0) :
    Calls Try.prog 3 #[.slice (some xa) la ca, .slice (some xb) lb cb, .int .i64 at'] w fun e w' => e = .returned (.bool true) ∧ Below w.heap.size w w' := by
  have D0 : ∀ (ad bd : Option Addr) (ca cb : Nat) (w : World), Calls Try.prog 12 #[.slice ad 0 ca, .slice bd 0 cb] w fun e w' => e = .returned (.tuple #[.agg #[.int .u64 0, .int .u64 0], .int .i64 0]) ∧ Below w.heap.size w w' := fun ad bd ca cb w => Dot_zero ad bd 0 ca 0 cb w (by omega) (by omega) (.inl rfl)
  have D1 : ∀ w, Calls Try.prog 12 #[.slice (some xa) la ca, .slice (some xb) lb cb] w fun e w' => e = .returned (.tuple #[.agg #[.int .u64 0, .int .u64 0], .int .i64 0]) ∧ Below w.heap.size w w' := fun w => Dot_zero _ _ _ _ _ _ w (by omega) (by omega) hn
  have D5 : ∀ w, Calls Try.prog 12 #[.slice (some xb) lb cb, .slice (some xa) la ca] w fun e w' => e = .returned (.tuple #[.agg #[.int .u64 0, .int .u64 0], .int .i64 0]) ∧ Below w.heap.size w w' := fun w => Dot_zero _ _ _ _ _ _ w (by omega) (by omega) hn.symm
  have P : ∀ w, Calls Try.prog 13 #[.agg #[.int .u64 0, .int .u64 0], .agg #[.int .u64 0, .int .u64 0]] w fun e w' => e = .returned (.tuple #[.agg #[.int .u64 0, .int .u64 0], .int .i64 0]) ∧ Below w.heap.size w w' := fun w => Plus_any 0 0 0 0 w ⟨by omega, by omega⟩ ⟨by omega, by omega⟩ ⟨by omega, by omega⟩ ⟨by omega, by omega⟩
  have hplace : (IntKind.u64.wrap at').tmod 1 = 0 := Int.tmod_one _
  have hmin : min (la : Int) (lb : Int) = 0 := by omega
  have d1 : decide (20 < (la : Int)) = false := by simp; omega
  have d2 : decide (20 < (lb : Int)) = false := by simp; omega
  clear hn
  have T := Below.refl w.heap.size w
  go_enter Try.func3, Try.ntmps3
  go_wp2_with (go_at_call 11; (with_reducible refine (awake_any _).mono ?_); rintro e w1 ⟨rfl, hb⟩; replace T := up T hb T.size; clear hb)
  refine wp_loop_rounds 1 ?_
  rw [rounds_succ]
  go_upto_region 14 with (first
    | (go_at_call 12; (with_reducible refine (D1 _).mono ?_); rintro e w2 ⟨rfl, hb⟩; have HP2 := Has.new w2 0 0; have T1 := up T hb T.size; have T2 := T1.alloc T1.size (.cells #[.int .u64 0, .int .u64 0] 26); clear hb T)
    | (go_at_call 12; (with_reducible refine (D0 _ _ _ _ _).mono ?_); rintro e w3 ⟨rfl, hb⟩; have HP3 := (HP2.below hb).alloc (.cells #[.int .u64 0, .int .u64 0] 26); have HQ3 := Has.new w3 0 0; have T3 := up T2 hb T2.size; have T4 := T3.alloc T3.size (.cells #[.int .u64 0, .int .u64 0] 26); clear hb))
  go_cut [16, 17] from 18 (fun s16 s17 wx => ∃ M : Nat, s16 = .pointer (some ⟨M, 0, none⟩) ∧ s17 = .int .i64 0 ∧ Has wx M 0 0 ∧ Below (w3.alloc (.cells #[.int .u64 0, .int .u64 0] 26)).heap.size (w3.alloc (.cells #[.int .u64 0, .int .u64 0] 26)) wx)
  case first =>
    go_region_held3 (fun _ => True) (trivial)
      (first
        | (go_at_call 12; (with_reducible refine (D0 _ _ _ _ (World.drew (World.alloc w3 (.cells #[.int .u64 0, .int .u64 0] 26)))).mono ?_); rintro e w5 ⟨rfl, hb⟩; have E5 := undrew hb; clear hb)
        | (go_at_call 12; (with_reducible refine (D0 _ _ _ _ _).mono ?_); rintro e w5 ⟨rfl, hb⟩; have F5 := undrew hb; have HN5 := (Own.new2 w3 (.cells #[.int .u64 0, .int .u64 0] 26) 0 0).below F5; obtain ⟨⟨xN, yN, zN⟩, fN, gN⟩ := id HN5; clear hb))
    all_goals
      go_wp2_with fail
      go_meet
      first
        | exact ⟨_, rfl, rfl, Has.new _ _ _, E5.alloc E5.size _⟩
        | exact ⟨_, rfl, rfl, (HN5.store 0 0).1, (((up1 _ _).trans (F5.mono (by simp))).setCell (by simp) _).setCell (by simp) _⟩
  case rest =>
    obtain ⟨M, rfl, rfl, HY, E1⟩ := hcut
    have HPc := HP3.below E1
    have HQc := HQ3.below E1
    have U5 := up T4 E1 T4.size
    clear HP3 HQ3 T1 T2 T3 T4 E1 HP2
    skip
    go_upto_region 15 with fail
    go_cut [18, 19] from 20 (fun s18 s19 wx => ∃ M2 : Nat, s18 = .pointer (some ⟨M2, 0, none⟩) ∧ s19 = .int .i64 0 ∧ Has wx M2 0 0 ∧ Below wc.heap.size wc wx)
    case first =>
      go_region_held3 (fun _ => True) (trivial)
        (first
          | (go_at_call 12; (with_reducible refine (D0 _ _ _ _ (World.drew wc)).mono ?_); rintro e w5 ⟨rfl, hb⟩; have E5 := undrew hb; clear hb)
          | (go_at_call 12; (with_reducible refine (D0 _ _ _ _ _).mono ?_); rintro e w5 ⟨rfl, hb⟩; have F5 := undrew hb; have HN5 := (Own.new wc 0 0).below F5; obtain ⟨⟨xN, yN, zN⟩, fN, gN⟩ := id HN5; clear hb))
      all_goals
        go_wp2_with fail
        go_meet
        first
          | exact ⟨_, rfl, rfl, Has.new _ _ _, E5.alloc E5.size _⟩
          | exact ⟨_, rfl, rfl, (HN5.store 0 0).1, (((up1 _ _).trans (F5.mono (by simp))).setCell (Nat.le_refl _) _).setCell (Nat.le_refl _) _⟩
    case rest =>
      obtain ⟨M2, rfl, rfl, HZ, E2⟩ := hcut
      have HPe := HPc.below E2
      have HQe := HQc.below E2
      have HYe := HY.below E2
      have U6 := up U5 E2 U5.size
      clear HPc HQc HY U5 E2
      obtain ⟨xP, yP, zP⟩ := id HPe
      obtain ⟨xQ, yQ, zQ⟩ := id HQe
      obtain ⟨xY, yY, zY⟩ := id HYe
      obtain ⟨xZ, yZ, zZ⟩ := id HZ
      go_wp2_with (first
        | (go_at_call 13; (with_reducible refine (P _).mono ?_); rintro e w6 ⟨rfl, hb⟩; have HPf := (HPe.below hb).alloc (.cells #[.int .u64 0, .int .u64 0] 26); have HQf := (HQe.below hb).alloc (.cells #[.int .u64 0, .int .u64 0] 26); have U7 := up U6 hb U6.size; have U8 := U7.alloc U7.size (.cells #[.int .u64 0, .int .u64 0] 26); have HBf := Has.new w6 0 0; obtain ⟨aP, bP, cP⟩ := id HPf; obtain ⟨aQ, bQ, cQ⟩ := id HQf; obtain ⟨aB, bB, cB⟩ := id HBf; clear hb)
        | (go_at_call 12; (with_reducible refine (D5 _).mono ?_); rintro e w7 ⟨rfl, hb⟩; have HPg := (HPf.below hb).alloc (.cells #[.int .u64 0, .int .u64 0] 26); have HRg := Has.new w7 0 0; have U9 := up U8 hb U8.size; have U10 := U9.alloc U9.size (.cells #[.int .u64 0, .int .u64 0] 26); obtain ⟨dP, eP, fP⟩ := id HPg; obtain ⟨dR, eR, fR⟩ := id HRg; clear hb))
      go_ret
      exact ⟨rfl, U10⟩

set_option maxRecDepth 100000 in
set_option maxHeartbeats 2000000 in
theorem rows_nil_some (at' : Int) (w : World) (xa xb : Addr) (la ca lb cb : Nat) (h2 : la ≤ 20) (h3 : lb ≤ 20) (hca : la ≤ ca) (hcb : lb ≤ cb) (hn : 0 = 0 ∨ lb = 0) :
    Calls Try.prog 3 #[.slice none 0 0, .slice (some xb) lb cb, .int .i64 at'] w fun e w' => e = .returned (.bool true) ∧ Below w.heap.size w w' := by
  have D0 : ∀ (ad bd : Option Addr) (ca cb : Nat) (w : World), Calls Try.prog 12 #[.slice ad 0 ca, .slice bd 0 cb] w fun e w' => e = .returned (.tuple #[.agg #[.int .u64 0, .int .u64 0], .int .i64 0]) ∧ Below w.heap.size w w' := fun ad bd ca cb w => Dot_zero ad bd 0 ca 0 cb w (by omega) (by omega) (.inl rfl)
  have D1 : ∀ w, Calls Try.prog 12 #[.slice none 0 0, .slice (some xb) lb cb] w fun e w' => e = .returned (.tuple #[.agg #[.int .u64 0, .int .u64 0], .int .i64 0]) ∧ Below w.heap.size w w' := fun w => Dot_zero _ _ _ _ _ _ w (by omega) (by omega) hn
  have D5 : ∀ w, Calls Try.prog 12 #[.slice (some xb) lb cb, .slice none 0 0] w fun e w' => e = .returned (.tuple #[.agg #[.int .u64 0, .int .u64 0], .int .i64 0]) ∧ Below w.heap.size w w' := fun w => Dot_zero _ _ _ _ _ _ w (by omega) (by omega) hn.symm
  have P : ∀ w, Calls Try.prog 13 #[.agg #[.int .u64 0, .int .u64 0], .agg #[.int .u64 0, .int .u64 0]] w fun e w' => e = .returned (.tuple #[.agg #[.int .u64 0, .int .u64 0], .int .i64 0]) ∧ Below w.heap.size w w' := fun w => Plus_any 0 0 0 0 w ⟨by omega, by omega⟩ ⟨by omega, by omega⟩ ⟨by omega, by omega⟩ ⟨by omega, by omega⟩
  have hplace : (IntKind.u64.wrap at').tmod 1 = 0 := Int.tmod_one _
  have hmin : min (0 : Int) (lb : Int) = 0 := by omega
  skip
  have d2 : decide (20 < (lb : Int)) = false := by simp; omega
  clear hn
  have T := Below.refl w.heap.size w
  go_enter Try.func3, Try.ntmps3
  go_wp2_with (go_at_call 11; (with_reducible refine (awake_any _).mono ?_); rintro e w1 ⟨rfl, hb⟩; replace T := up T hb T.size; clear hb)
  refine wp_loop_rounds 1 ?_
  rw [rounds_succ]
  go_upto_region 14 with (first
    | (go_at_call 12; (with_reducible refine (D1 _).mono ?_); rintro e w2 ⟨rfl, hb⟩; have HP2 := Has.new w2 0 0; have T1 := up T hb T.size; have T2 := T1.alloc T1.size (.cells #[.int .u64 0, .int .u64 0] 26); clear hb T)
    | (go_at_call 12; (with_reducible refine (D0 _ _ _ _ _).mono ?_); rintro e w3 ⟨rfl, hb⟩; have HP3 := (HP2.below hb).alloc (.cells #[.int .u64 0, .int .u64 0] 26); have HQ3 := Has.new w3 0 0; have T3 := up T2 hb T2.size; have T4 := T3.alloc T3.size (.cells #[.int .u64 0, .int .u64 0] 26); clear hb))
  go_cut [16, 17] from 18 (fun s16 s17 wx => ∃ M : Nat, s16 = .pointer (some ⟨M, 0, none⟩) ∧ s17 = .int .i64 0 ∧ Has wx M 0 0 ∧ Below (w3.alloc (.cells #[.int .u64 0, .int .u64 0] 26)).heap.size (w3.alloc (.cells #[.int .u64 0, .int .u64 0] 26)) wx)
  case first =>
    go_region_held3 (fun _ => True) (trivial)
      (first
        | (go_at_call 12; (with_reducible refine (D0 _ _ _ _ (World.drew (World.alloc w3 (.cells #[.int .u64 0, .int .u64 0] 26)))).mono ?_); rintro e w5 ⟨rfl, hb⟩; have E5 := undrew hb; clear hb)
        | (go_at_call 12; (with_reducible refine (D0 _ _ _ _ _).mono ?_); rintro e w5 ⟨rfl, hb⟩; have F5 := undrew hb; have HN5 := (Own.new2 w3 (.cells #[.int .u64 0, .int .u64 0] 26) 0 0).below F5; obtain ⟨⟨xN, yN, zN⟩, fN, gN⟩ := id HN5; clear hb))
    all_goals
      go_wp2_with fail
      go_meet
      first
        | exact ⟨_, rfl, rfl, Has.new _ _ _, E5.alloc E5.size _⟩
        | exact ⟨_, rfl, rfl, (HN5.store 0 0).1, (((up1 _ _).trans (F5.mono (by simp))).setCell (by simp) _).setCell (by simp) _⟩
  case rest =>
    obtain ⟨M, rfl, rfl, HY, E1⟩ := hcut
    have HPc := HP3.below E1
    have HQc := HQ3.below E1
    have U5 := up T4 E1 T4.size
    clear HP3 HQ3 T1 T2 T3 T4 E1 HP2
    skip
    go_upto_region 15 with fail
    go_cut [18, 19] from 20 (fun s18 s19 wx => ∃ M2 : Nat, s18 = .pointer (some ⟨M2, 0, none⟩) ∧ s19 = .int .i64 0 ∧ Has wx M2 0 0 ∧ Below wc.heap.size wc wx)
    case first =>
      go_region_held3 (fun _ => True) (trivial)
        (first
          | (go_at_call 12; (with_reducible refine (D0 _ _ _ _ (World.drew wc)).mono ?_); rintro e w5 ⟨rfl, hb⟩; have E5 := undrew hb; clear hb)
          | (go_at_call 12; (with_reducible refine (D0 _ _ _ _ _).mono ?_); rintro e w5 ⟨rfl, hb⟩; have F5 := undrew hb; have HN5 := (Own.new wc 0 0).below F5; obtain ⟨⟨xN, yN, zN⟩, fN, gN⟩ := id HN5; clear hb))
      all_goals
        go_wp2_with fail
        go_meet
        first
          | exact ⟨_, rfl, rfl, Has.new _ _ _, E5.alloc E5.size _⟩
          | exact ⟨_, rfl, rfl, (HN5.store 0 0).1, (((up1 _ _).trans (F5.mono (by simp))).setCell (Nat.le_refl _) _).setCell (Nat.le_refl _) _⟩
    case rest =>
      obtain ⟨M2, rfl, rfl, HZ, E2⟩ := hcut
      have HPe := HPc.below E2
      have HQe := HQc.below E2
      have HYe := HY.below E2
      have U6 := up U5 E2 U5.size
      clear HPc HQc HY U5 E2
      obtain ⟨xP, yP, zP⟩ := id HPe
      obtain ⟨xQ, yQ, zQ⟩ := id HQe
      obtain ⟨xY, yY, zY⟩ := id HYe
      obtain ⟨xZ, yZ, zZ⟩ := id HZ
      go_wp2_with (first
        | (go_at_call 13; (with_reducible refine (P _).mono ?_); rintro e w6 ⟨rfl, hb⟩; have HPf := (HPe.below hb).alloc (.cells #[.int .u64 0, .int .u64 0] 26); have HQf := (HQe.below hb).alloc (.cells #[.int .u64 0, .int .u64 0] 26); have U7 := up U6 hb U6.size; have U8 := U7.alloc U7.size (.cells #[.int .u64 0, .int .u64 0] 26); have HBf := Has.new w6 0 0; obtain ⟨aP, bP, cP⟩ := id HPf; obtain ⟨aQ, bQ, cQ⟩ := id HQf; obtain ⟨aB, bB, cB⟩ := id HBf; clear hb)
        | (go_at_call 12; (with_reducible refine (D5 _).mono ?_); rintro e w7 ⟨rfl, hb⟩; have HPg := (HPf.below hb).alloc (.cells #[.int .u64 0, .int .u64 0] 26); have HRg := Has.new w7 0 0; have U9 := up U8 hb U8.size; have U10 := U9.alloc U9.size (.cells #[.int .u64 0, .int .u64 0] 26); obtain ⟨dP, eP, fP⟩ := id HPg; obtain ⟨dR, eR, fR⟩ := id HRg; clear hb))
      go_ret
      exact ⟨rfl, U10⟩

set_option maxRecDepth 100000 in
set_option maxHeartbeats 2000000 in
theorem rows_some_nil (at' : Int) (w : World) (xa xb : Addr) (la ca lb cb : Nat) (h2 : la ≤ 20) (h3 : lb ≤ 20) (hca : la ≤ ca) (hcb : lb ≤ cb) (hn : la = 0 ∨ 0 = 0) :
    Calls Try.prog 3 #[.slice (some xa) la ca, .slice none 0 0, .int .i64 at'] w fun e w' => e = .returned (.bool true) ∧ Below w.heap.size w w' := by
  have D0 : ∀ (ad bd : Option Addr) (ca cb : Nat) (w : World), Calls Try.prog 12 #[.slice ad 0 ca, .slice bd 0 cb] w fun e w' => e = .returned (.tuple #[.agg #[.int .u64 0, .int .u64 0], .int .i64 0]) ∧ Below w.heap.size w w' := fun ad bd ca cb w => Dot_zero ad bd 0 ca 0 cb w (by omega) (by omega) (.inl rfl)
  have D1 : ∀ w, Calls Try.prog 12 #[.slice (some xa) la ca, .slice none 0 0] w fun e w' => e = .returned (.tuple #[.agg #[.int .u64 0, .int .u64 0], .int .i64 0]) ∧ Below w.heap.size w w' := fun w => Dot_zero _ _ _ _ _ _ w (by omega) (by omega) hn
  have D5 : ∀ w, Calls Try.prog 12 #[.slice none 0 0, .slice (some xa) la ca] w fun e w' => e = .returned (.tuple #[.agg #[.int .u64 0, .int .u64 0], .int .i64 0]) ∧ Below w.heap.size w w' := fun w => Dot_zero _ _ _ _ _ _ w (by omega) (by omega) hn.symm
  have P : ∀ w, Calls Try.prog 13 #[.agg #[.int .u64 0, .int .u64 0], .agg #[.int .u64 0, .int .u64 0]] w fun e w' => e = .returned (.tuple #[.agg #[.int .u64 0, .int .u64 0], .int .i64 0]) ∧ Below w.heap.size w w' := fun w => Plus_any 0 0 0 0 w ⟨by omega, by omega⟩ ⟨by omega, by omega⟩ ⟨by omega, by omega⟩ ⟨by omega, by omega⟩
  have hplace : (IntKind.u64.wrap at').tmod 1 = 0 := Int.tmod_one _
  have hmin : min (la : Int) (0 : Int) = 0 := by omega
  have d1 : decide (20 < (la : Int)) = false := by simp; omega
  skip
  clear hn
  have T := Below.refl w.heap.size w
  go_enter Try.func3, Try.ntmps3
  go_wp2_with (go_at_call 11; (with_reducible refine (awake_any _).mono ?_); rintro e w1 ⟨rfl, hb⟩; replace T := up T hb T.size; clear hb)
  refine wp_loop_rounds 1 ?_
  rw [rounds_succ]
  go_upto_region 14 with (first
    | (go_at_call 12; (with_reducible refine (D1 _).mono ?_); rintro e w2 ⟨rfl, hb⟩; have HP2 := Has.new w2 0 0; have T1 := up T hb T.size; have T2 := T1.alloc T1.size (.cells #[.int .u64 0, .int .u64 0] 26); clear hb T)
    | (go_at_call 12; (with_reducible refine (D0 _ _ _ _ _).mono ?_); rintro e w3 ⟨rfl, hb⟩; have HP3 := (HP2.below hb).alloc (.cells #[.int .u64 0, .int .u64 0] 26); have HQ3 := Has.new w3 0 0; have T3 := up T2 hb T2.size; have T4 := T3.alloc T3.size (.cells #[.int .u64 0, .int .u64 0] 26); clear hb))
  go_cut [16, 17] from 18 (fun s16 s17 wx => ∃ M : Nat, s16 = .pointer (some ⟨M, 0, none⟩) ∧ s17 = .int .i64 0 ∧ Has wx M 0 0 ∧ Below (w3.alloc (.cells #[.int .u64 0, .int .u64 0] 26)).heap.size (w3.alloc (.cells #[.int .u64 0, .int .u64 0] 26)) wx)
  case first =>
    go_region_held3 (fun _ => True) (trivial)
      (first
        | (go_at_call 12; (with_reducible refine (D0 _ _ _ _ (World.drew (World.alloc w3 (.cells #[.int .u64 0, .int .u64 0] 26)))).mono ?_); rintro e w5 ⟨rfl, hb⟩; have E5 := undrew hb; clear hb)
        | (go_at_call 12; (with_reducible refine (D0 _ _ _ _ _).mono ?_); rintro e w5 ⟨rfl, hb⟩; have F5 := undrew hb; have HN5 := (Own.new2 w3 (.cells #[.int .u64 0, .int .u64 0] 26) 0 0).below F5; obtain ⟨⟨xN, yN, zN⟩, fN, gN⟩ := id HN5; clear hb))
    all_goals
      go_wp2_with fail
      go_meet
      first
        | exact ⟨_, rfl, rfl, Has.new _ _ _, E5.alloc E5.size _⟩
        | exact ⟨_, rfl, rfl, (HN5.store 0 0).1, (((up1 _ _).trans (F5.mono (by simp))).setCell (by simp) _).setCell (by simp) _⟩
  case rest =>
    obtain ⟨M, rfl, rfl, HY, E1⟩ := hcut
    have HPc := HP3.below E1
    have HQc := HQ3.below E1
    have U5 := up T4 E1 T4.size
    clear HP3 HQ3 T1 T2 T3 T4 E1 HP2
    skip
    go_upto_region 15 with fail
    go_cut [18, 19] from 20 (fun s18 s19 wx => ∃ M2 : Nat, s18 = .pointer (some ⟨M2, 0, none⟩) ∧ s19 = .int .i64 0 ∧ Has wx M2 0 0 ∧ Below wc.heap.size wc wx)
    case first =>
      go_region_held3 (fun _ => True) (trivial)
        (first
          | (go_at_call 12; (with_reducible refine (D0 _ _ _ _ (World.drew wc)).mono ?_); rintro e w5 ⟨rfl, hb⟩; have E5 := undrew hb; clear hb)
          | (go_at_call 12; (with_reducible refine (D0 _ _ _ _ _).mono ?_); rintro e w5 ⟨rfl, hb⟩; have F5 := undrew hb; have HN5 := (Own.new wc 0 0).below F5; obtain ⟨⟨xN, yN, zN⟩, fN, gN⟩ := id HN5; clear hb))
      all_goals
        go_wp2_with fail
        go_meet
        first
          | exact ⟨_, rfl, rfl, Has.new _ _ _, E5.alloc E5.size _⟩
          | exact ⟨_, rfl, rfl, (HN5.store 0 0).1, (((up1 _ _).trans (F5.mono (by simp))).setCell (Nat.le_refl _) _).setCell (Nat.le_refl _) _⟩
    case rest =>
      obtain ⟨M2, rfl, rfl, HZ, E2⟩ := hcut
      have HPe := HPc.below E2
      have HQe := HQc.below E2
      have HYe := HY.below E2
      have U6 := up U5 E2 U5.size
      clear HPc HQc HY U5 E2
      obtain ⟨xP, yP, zP⟩ := id HPe
      obtain ⟨xQ, yQ, zQ⟩ := id HQe
      obtain ⟨xY, yY, zY⟩ := id HYe
      obtain ⟨xZ, yZ, zZ⟩ := id HZ
      go_wp2_with (first
        | (go_at_call 13; (with_reducible refine (P _).mono ?_); rintro e w6 ⟨rfl, hb⟩; have HPf := (HPe.below hb).alloc (.cells #[.int .u64 0, .int .u64 0] 26); have HQf := (HQe.below hb).alloc (.cells #[.int .u64 0, .int .u64 0] 26); have U7 := up U6 hb U6.size; have U8 := U7.alloc U7.size (.cells #[.int .u64 0, .int .u64 0] 26); have HBf := Has.new w6 0 0; obtain ⟨aP, bP, cP⟩ := id HPf; obtain ⟨aQ, bQ, cQ⟩ := id HQf; obtain ⟨aB, bB, cB⟩ := id HBf; clear hb)
        | (go_at_call 12; (with_reducible refine (D5 _).mono ?_); rintro e w7 ⟨rfl, hb⟩; have HPg := (HPf.below hb).alloc (.cells #[.int .u64 0, .int .u64 0] 26); have HRg := Has.new w7 0 0; have U9 := up U8 hb U8.size; have U10 := U9.alloc U9.size (.cells #[.int .u64 0, .int .u64 0] 26); obtain ⟨dP, eP, fP⟩ := id HPg; obtain ⟨dR, eR, fR⟩ := id HRg; clear hb))
      go_ret
      exact ⟨rfl, U10⟩

set_option maxRecDepth 100000 in
set_option maxHeartbeats 2000000 in
theorem rows_nil_nil (at' : Int) (w : World) (xa xb : Addr) (la ca lb cb : Nat) (h2 : la ≤ 20) (h3 : lb ≤ 20) (hca : la ≤ ca) (hcb : lb ≤ cb) (hn : 0 = 0 ∨ 0 = 0) :
    Calls Try.prog 3 #[.slice none 0 0, .slice none 0 0, .int .i64 at'] w fun e w' => e = .returned (.bool true) ∧ Below w.heap.size w w' := by
  have D0 : ∀ (ad bd : Option Addr) (ca cb : Nat) (w : World), Calls Try.prog 12 #[.slice ad 0 ca, .slice bd 0 cb] w fun e w' => e = .returned (.tuple #[.agg #[.int .u64 0, .int .u64 0], .int .i64 0]) ∧ Below w.heap.size w w' := fun ad bd ca cb w => Dot_zero ad bd 0 ca 0 cb w (by omega) (by omega) (.inl rfl)
  have D1 : ∀ w, Calls Try.prog 12 #[.slice none 0 0, .slice none 0 0] w fun e w' => e = .returned (.tuple #[.agg #[.int .u64 0, .int .u64 0], .int .i64 0]) ∧ Below w.heap.size w w' := fun w => Dot_zero _ _ _ _ _ _ w (by omega) (by omega) hn
  have D5 : ∀ w, Calls Try.prog 12 #[.slice none 0 0, .slice none 0 0] w fun e w' => e = .returned (.tuple #[.agg #[.int .u64 0, .int .u64 0], .int .i64 0]) ∧ Below w.heap.size w w' := fun w => Dot_zero _ _ _ _ _ _ w (by omega) (by omega) hn.symm
  have P : ∀ w, Calls Try.prog 13 #[.agg #[.int .u64 0, .int .u64 0], .agg #[.int .u64 0, .int .u64 0]] w fun e w' => e = .returned (.tuple #[.agg #[.int .u64 0, .int .u64 0], .int .i64 0]) ∧ Below w.heap.size w w' := fun w => Plus_any 0 0 0 0 w ⟨by omega, by omega⟩ ⟨by omega, by omega⟩ ⟨by omega, by omega⟩ ⟨by omega, by omega⟩
  have hplace : (IntKind.u64.wrap at').tmod 1 = 0 := Int.tmod_one _
  have hmin : min (0 : Int) (0 : Int) = 0 := by omega
  skip
  skip
  clear hn
  have T := Below.refl w.heap.size w
  go_enter Try.func3, Try.ntmps3
  go_wp2_with (go_at_call 11; (with_reducible refine (awake_any _).mono ?_); rintro e w1 ⟨rfl, hb⟩; replace T := up T hb T.size; clear hb)
  refine wp_loop_rounds 1 ?_
  rw [rounds_succ]
  go_upto_region 14 with (first
    | (go_at_call 12; (with_reducible refine (D1 _).mono ?_); rintro e w2 ⟨rfl, hb⟩; have HP2 := Has.new w2 0 0; have T1 := up T hb T.size; have T2 := T1.alloc T1.size (.cells #[.int .u64 0, .int .u64 0] 26); clear hb T)
    | (go_at_call 12; (with_reducible refine (D0 _ _ _ _ _).mono ?_); rintro e w3 ⟨rfl, hb⟩; have HP3 := (HP2.below hb).alloc (.cells #[.int .u64 0, .int .u64 0] 26); have HQ3 := Has.new w3 0 0; have T3 := up T2 hb T2.size; have T4 := T3.alloc T3.size (.cells #[.int .u64 0, .int .u64 0] 26); clear hb))
  go_cut [16, 17] from 18 (fun s16 s17 wx => ∃ M : Nat, s16 = .pointer (some ⟨M, 0, none⟩) ∧ s17 = .int .i64 0 ∧ Has wx M 0 0 ∧ Below (w3.alloc (.cells #[.int .u64 0, .int .u64 0] 26)).heap.size (w3.alloc (.cells #[.int .u64 0, .int .u64 0] 26)) wx)
  case first =>
    go_region_held3 (fun _ => True) (trivial)
      (first
        | (go_at_call 12; (with_reducible refine (D0 _ _ _ _ (World.drew (World.alloc w3 (.cells #[.int .u64 0, .int .u64 0] 26)))).mono ?_); rintro e w5 ⟨rfl, hb⟩; have E5 := undrew hb; clear hb)
        | (go_at_call 12; (with_reducible refine (D0 _ _ _ _ _).mono ?_); rintro e w5 ⟨rfl, hb⟩; have F5 := undrew hb; have HN5 := (Own.new2 w3 (.cells #[.int .u64 0, .int .u64 0] 26) 0 0).below F5; obtain ⟨⟨xN, yN, zN⟩, fN, gN⟩ := id HN5; clear hb))
    all_goals
      go_wp2_with fail
      go_meet
      first
        | exact ⟨_, rfl, rfl, Has.new _ _ _, E5.alloc E5.size _⟩
        | exact ⟨_, rfl, rfl, (HN5.store 0 0).1, (((up1 _ _).trans (F5.mono (by simp))).setCell (by simp) _).setCell (by simp) _⟩
  case rest =>
    obtain ⟨M, rfl, rfl, HY, E1⟩ := hcut
    have HPc := HP3.below E1
    have HQc := HQ3.below E1
    have U5 := up T4 E1 T4.size
    clear HP3 HQ3 T1 T2 T3 T4 E1 HP2
    skip
    go_upto_region 15 with fail
    go_cut [18, 19] from 20 (fun s18 s19 wx => ∃ M2 : Nat, s18 = .pointer (some ⟨M2, 0, none⟩) ∧ s19 = .int .i64 0 ∧ Has wx M2 0 0 ∧ Below wc.heap.size wc wx)
    case first =>
      go_region_held3 (fun _ => True) (trivial)
        (first
          | (go_at_call 12; (with_reducible refine (D0 _ _ _ _ (World.drew wc)).mono ?_); rintro e w5 ⟨rfl, hb⟩; have E5 := undrew hb; clear hb)
          | (go_at_call 12; (with_reducible refine (D0 _ _ _ _ _).mono ?_); rintro e w5 ⟨rfl, hb⟩; have F5 := undrew hb; have HN5 := (Own.new wc 0 0).below F5; obtain ⟨⟨xN, yN, zN⟩, fN, gN⟩ := id HN5; clear hb))
      all_goals
        go_wp2_with fail
        go_meet
        first
          | exact ⟨_, rfl, rfl, Has.new _ _ _, E5.alloc E5.size _⟩
          | exact ⟨_, rfl, rfl, (HN5.store 0 0).1, (((up1 _ _).trans (F5.mono (by simp))).setCell (Nat.le_refl _) _).setCell (Nat.le_refl _) _⟩
    case rest =>
      obtain ⟨M2, rfl, rfl, HZ, E2⟩ := hcut
      have HPe := HPc.below E2
      have HQe := HQc.below E2
      have HYe := HY.below E2
      have U6 := up U5 E2 U5.size
      clear HPc HQc HY U5 E2
      obtain ⟨xP, yP, zP⟩ := id HPe
      obtain ⟨xQ, yQ, zQ⟩ := id HQe
      obtain ⟨xY, yY, zY⟩ := id HYe
      obtain ⟨xZ, yZ, zZ⟩ := id HZ
      go_wp2_with (first
        | (go_at_call 13; (with_reducible refine (P _).mono ?_); rintro e w6 ⟨rfl, hb⟩; have HPf := (HPe.below hb).alloc (.cells #[.int .u64 0, .int .u64 0] 26); have HQf := (HQe.below hb).alloc (.cells #[.int .u64 0, .int .u64 0] 26); have U7 := up U6 hb U6.size; have U8 := U7.alloc U7.size (.cells #[.int .u64 0, .int .u64 0] 26); have HBf := Has.new w6 0 0; obtain ⟨aP, bP, cP⟩ := id HPf; obtain ⟨aQ, bQ, cQ⟩ := id HQf; obtain ⟨aB, bB, cB⟩ := id HBf; clear hb)
        | (go_at_call 12; (with_reducible refine (D5 _).mono ?_); rintro e w7 ⟨rfl, hb⟩; have HPg := (HPf.below hb).alloc (.cells #[.int .u64 0, .int .u64 0] 26); have HRg := Has.new w7 0 0; have U9 := up U8 hb U8.size; have U10 := U9.alloc U9.size (.cells #[.int .u64 0, .int .u64 0] 26); obtain ⟨dP, eP, fP⟩ := id HPg; obtain ⟨dR, eR, fR⟩ := id HRg; clear hb))
      go_ret
      exact ⟨rfl, U10⟩
end Go.Proofs.Ytiieehnfbemleaa
