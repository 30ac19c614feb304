/- Whatever copies of any curve start, a run tells what the document's tells: the walk of the statement. -/
import Derived.Test.YtejolaifdjcghaaGreatTelA
import Derived.Deep.DeepCutAuto
import Derived.Deep.CutBlock
namespace Go.Proofs.YtejolaifdjcghaaGreat
open Go.RowKit Go.Shelf W
set_option linter.unusedVariables false
set_option maxRecDepth 100000
set_option maxHeartbeats 8000000 in
theorem tel_ok (f l r : Int) (a : Option Addr) (n c : Nat) (xs : Nat → Ac) (at' : Int) (w : World) (hc : CvR f l r) (hw : ∀ i, (xs i).word) (hI : IsAcs w a n c xs) (hn : n ≤ 40)
    (hN4 : ∀ w0, Below w.heap.size w w0 → Calls Tryz.prog 4 #[.agg #[eU f, eU l, eU r]] w0 fun e w' => (∃ B : Nat, e = .returned (.pointer (some ⟨B, 0, none⟩)) ∧ RuB w' w.heap.size B f l r (fun i => (xs i).x) (fun i => (xs i).y) 0) ∧ Below w0.heap.size w0 w')
    (hN5 : ∀ w0, Below w.heap.size w w0 → Calls Tryz.prog 5 #[.agg #[eU f, eU l, eU r]] w0 fun e w' => (∃ B : Nat, e = .returned (.pointer (some ⟨B, 0, none⟩)) ∧ RdB w' w.heap.size B f l r (fun i => (xs i).x) (fun i => (xs i).y) 0) ∧ Below w0.heap.size w0 w') :
    Calls Tryz.prog 3 #[.agg #[eU f, eU l, eU r], .slice a n c, .int .i64 at'] w fun e w' => e = .returned (.bool true) ∧ Below w.heap.size w w' := by
  obtain ⟨X, hX⟩ : ∃ X : Nat → Int, X = fun i => (xs i).x := ⟨_, rfl⟩
  obtain ⟨Y, hY⟩ : ∃ Y : Nat → Int, Y = fun i => (xs i).y := ⟨_, rfl⟩
  rw [← hX, ← hY] at hN4 hN5
  have eX : ∀ i, (xs i).x = X i := fun i => by rw [hX]
  have eY : ∀ i, (xs i).y = Y i := fun i => by rw [hY]
  have wX : ∀ i, Word (X i) := fun i => by rw [← eX]; exact (hw i).1
  have wY : ∀ i, Word (Y i) := fun i => by rw [← eY]; exact (hw i).2.1
  have nY : ∀ i, 0 ≤ Y i := fun i => (wY i).1
  obtain ⟨m0, hm0⟩ : ∃ m0, w.heap.size = m0 := ⟨_, rfl⟩
  have hSame := fun (m Bb Br k i : Nat) (w : World) (hk : k ≤ 800) (hR : RuB w m Bb f l r X Y k) (hC : RdB w m0 Br f l r X Y k) => same_any hc nY m m0 Bb Br k (X i) (Y i) (xs i).t (xs i).n w hk (hw i).2.2.1 (hw i).2.2.2 hR hC
  have hSt := fun (Bb Br k : Nat) (w : World) (hk : k ≤ 800) (hm : m0 ≤ w.heap.size) (hR : RuB w m0 Bb f l r X Y k) (hC : RdB w m0 Br f l r X Y k) => tel_start1 nY m0 m0 Bb Br k w hk hm (wX k) (wY k) hR hC
  have hSc := fun (Bb Br k : Nat) (w : World) (hk : k ≤ 800) (hR : RuB w m0 Bb f l r X Y (k + 1)) (hC : RdB w m0 Br f l r X Y k) => tel_start2 m0 m0 Bb Br (k + 1) k w hk hR hC
  have hSo := fun (m B j k : Nat) (w : World) (hk : k ≤ 800) (hm : m ≤ w.heap.size) (h : RuC w m B f l r k) => tel_other m B k (Y j) (X j) w hk hm (wY j) (wX j) h
  have hcell : ∀ (k : Nat) w', k < n → Below w.heap.size w w' → ∃ b o, a = some ⟨b, o, none⟩ ∧ w'.cell? ⟨b, o + k * 4, none⟩ = some (.int .u64 (X k)) ∧ w'.cell? ⟨b, o + k * 4 + 1, none⟩ = some (.int .u64 (Y k)) ∧ w'.cell? ⟨b, o + k * 4 + 2, none⟩ = some (.int .u64 (xs k).t) ∧ w'.cell? ⟨b, o + k * 4 + 3, none⟩ = some (.int .u64 (xs k).n) := fun k w' hk T => by
    obtain ⟨h2, h3⟩ := hI
    rcases h3 with h3 | ⟨b, o, e, h3⟩
    · omega
    · have := (h3.below T).2 k hk
      rw [eX, eY] at this
      exact ⟨b, o, e, this⟩
  have hnc : (n : Int) ≤ (c : Int) := by have := hI.1; omega
  have hCpy := fun (B k : Nat) (w : World) (hk : k ≤ 800) (h : RuB w m0 B f l r X Y k) => tel_copy m0 B k w hk h
  have hsa := Lib.hid hSame
  have hst := Lib.hid hSt
  have hsc := Lib.hid hSc
  have hso := Lib.hid hSo
  have hce := Lib.hid hcell
  have hcp := Lib.hid hCpy
  have hm0h := Lib.hid hm0
  have nYh := Lib.hid nY
  have BC := Box.new w 24 #[eU f, eU l, eU r]
  have T := up1 w (.cells #[eU f, eU l, eU r] 24)
  have hn' : ¬ ((40 : Int) < (n : Int)) := by omega
  obtain ⟨c0, c1, c2⟩ := BC.three
  clear hSame hSt hSc hSo hcell hCpy hI hw wX wY nY eX eY hX hY hc hm0
  go_enter Tryz.func3, Tryz.ntmps3
  go_upto_region 3 with fail
  (try simp only [List.append_eq, List.cons_append, List.nil_append])
  go_region_held3 (fun w' => w'.cell? ⟨w.heap.size, 0, none⟩ = some (.int .u64 f) ∧ w'.cell? ⟨w.heap.size, 1, none⟩ = some (.int .u64 l) ∧ w'.cell? ⟨w.heap.size, 2, none⟩ = some (.int .u64 r))
    (first | exact ⟨c0, c1, c2⟩ | exact BC.three)
    (first
      | (go_at_call 4; (with_reducible refine (hN4 _ (by first | exact T | exact T.drew)).mono ?_); rintro e w1 ⟨⟨Bb, rfl, hR⟩, hb⟩; (first | replace hb := undrew hb | replace hb := undrewN hb | skip); replace BC := BC.below hb; replace T := up T hb T.size; clear hb)
      | (go_at_call 5; (with_reducible refine (hN5 _ (by first | exact T | exact T.drew)).mono ?_); rintro e w2 ⟨⟨Br, rfl, hC⟩, hb⟩; (first | replace hb := undrew hb | replace hb := undrewN hb | skip); replace hR := hR.below hb; replace BC := BC.below hb; replace T := up T hb T.size; clear hb))
  go_wp2_with fail
  have hm0 := hm0h.out
  rw [hm0] at hR hC
  clear hN4 hN5 BC hm0
  go_loopw [9] (fun s9 wr => ∃ k : Nat, s9 = .int .i64 k ∧ k ≤ n ∧ RuB wr m0 Bb f l r X Y k ∧ RdB wr m0 Br f l r X Y k ∧ Below w.heap.size w wr) (fun s9 _ => n - (intOf s9).toNat)
  case atStart => exact ⟨0, rfl, by omega, hR, hC, T⟩
  case round =>
    clear hR hC T
    rename World => WO
    obtain ⟨k, rfl, hk, hR, hC, T⟩ := hrel
    by_cases hlt : k < n
    · have i1 : (k : Int) < (n : Int) := by omega
      have i2 : (0 : Int) ≤ (k : Int) := by omega
      obtain ⟨b, o, rfl, x1, x2, x3, x4⟩ := hce.out k WO hlt T
      go_upto_if 33 with fail
      go_cut [] (fun wx => RuB wx m0 Bb f l r X Y k ∧ RdB wx m0 Br f l r X Y k ∧ Below w.heap.size w wx)
      case first =>
        by_cases hat : (k : Int) = at'
        · subst hat
          have hCp := hcp.out Bb k WO (by omega) hR
          go_wp2_with (first
            | (go_at_call 6; (with_reducible refine hCp.mono ?_); rintro e w3 ⟨⟨P, rfl, hP⟩, hb⟩; have TT := hb; clear hb x1 x2 x3 x4; obtain ⟨_, _, he, x1, x2, x3, x4⟩ := hce.out k _ hlt (up T TT T.size); cases he)
            | (go_at_call 7; (with_reducible refine (hsa.out WO.heap.size P Br k k _ (by omega) hP (hC.below TT)).mono ?_); rintro e w4 ⟨rfl, hb⟩; replace TT := up TT hb TT.size; replace hP := hP.below hb; clear hb x1 x2 x3 x4))
          have hP' : RuC w4 WO.heap.size P f l r k := ⟨X, Y, nYh.out, hP⟩
          clear hP hCp
          have hz := TT.size
          go_loopw [11] (fun s11 wx => ∃ j : Nat, s11 = .int .i64 j ∧ k ≤ j ∧ j ≤ n ∧ RuC wx WO.heap.size P f l r j ∧ Below WO.heap.size WO wx) (fun s11 _ => n - (intOf s11).toNat)
          case atStart => exact ⟨k, rfl, Nat.le_refl _, hk, hP', TT⟩
          case round =>
            clear hP' TT hz
            obtain ⟨j, rfl, hkj, hj, hP, TT⟩ := hrel
            by_cases hlt2 : j < n
            · have j1 : (j : Int) < (n : Int) := by omega
              have j2 : (0 : Int) ≤ (j : Int) := by omega
              obtain ⟨_, _, he, y1, y2, y3, y4⟩ := hce.out j _ hlt2 (up T TT T.size)
              cases he
              have hPP := Lib.hid hP
              have TTh := Lib.hid TT
              have TM : ∀ w5, Below WO.heap.size wr.drew w5 → Below WO.heap.size WO w5 := fun w5 q => TTh.out.drew.trans q
              have TMh := Lib.hid TM
              have hyk : ∀ w5, Below WO.heap.size wr.drew w5 → w5.cell? ⟨b, o + j * 4, none⟩ = some (.int .u64 (X j)) ∧ w5.cell? ⟨b, o + j * 4 + 1, none⟩ = some (.int .u64 (Y j)) := fun w5 q => by
                obtain ⟨_, _, he, z1, z2, _⟩ := hce.out j w5 hlt2 (up T (TMh.out w5 q) T.size)
                cases he
                exact ⟨z1, z2⟩
              have hykh := Lib.hid hyk
              have hzz := Lib.hid TT.size
              clear hP TT TM hyk y3 y4
              go_upto_region 18 with fail
              (try simp only [List.append_eq, List.cons_append, List.nil_append])
              go_region_held3 (fun w' => w'.cell? ⟨b, o + j * 4, none⟩ = some (.int .u64 (X j)) ∧ w'.cell? ⟨b, o + j * 4 + 1, none⟩ = some (.int .u64 (Y j)))
                (first | exact ⟨y1, y2⟩ | exact hykh.out _ hb2)
                (first | (go_at_call 8; refine (hso.out WO.heap.size P j j wr.drew (by omega) hzz.out (hPP.out.below (Below.refl _ _).drew)).mono ?_; rintro e w5 ⟨rfl, hP4, hb2⟩))
              all_goals go_wp2_with fail
              exact ⟨⟨j + 1, rfl, by omega, by omega, hP4, TMh.out _ hb2⟩, by simp [intOf]; omega⟩
            · obtain rfl : j = n := by omega
              have j1 : ¬ (j : Int) < (j : Int) := by omega
              go_wp2_with fail
              go_meet
              exact ⟨hR.below TT, hC.below TT, up T TT T.size⟩
        · have hb1 : ((k : Int) == at') = false := by simp only [beq_eq_false_iff_ne]; exact hat
          go_wp2_with fail
          go_meet
          exact ⟨hR, hC, T⟩
      case rest =>
        clear hR hC T x1 x2 x3 x4
        obtain ⟨hR, hC, T⟩ := hcut
        obtain ⟨_, _, he, x1, x2, x3, x4⟩ := hce.out k _ hlt T
        cases he
        go_upto_region 21 with (go_at_call 7; (with_reducible refine (hsa.out m0 Bb Br k k _ (by omega) hR hC).mono ?_); rintro e w5 ⟨rfl, hb⟩; replace T := up T hb T.size; replace hR := hR.below hb; replace hC := hC.below hb; clear hb x1 x2 x3 x4)
        obtain ⟨_, _, he, x1, x2, x3, x4⟩ := hce.out k _ hlt T
        cases he
        have hRh := Lib.hid hR
        have hCh := Lib.hid hC
        have Th := Lib.hid T
        have hz5 : m0 ≤ w5.drew.heap.size := by rw [← hm0h.out]; exact T.size
        have hz5h := Lib.hid hz5
        have TM : ∀ w6, Below m0 w5.drew w6 → Below w.heap.size w w6 := fun w6 q => Th.out.drew.trans (by rw [hm0h.out]; exact q)
        have hyk : ∀ w6, Below m0 w5.drew w6 → w6.cell? ⟨b, o + k * 4, none⟩ = some (.int .u64 (X k)) ∧ w6.cell? ⟨b, o + k * 4 + 1, none⟩ = some (.int .u64 (Y k)) := fun w6 q => by
          obtain ⟨_, _, he, z1, z2, _⟩ := hce.out k w6 hlt (TM w6 q)
          cases he
          exact ⟨z1, z2⟩
        have TMh := Lib.hid TM
        have hykh := Lib.hid hyk
        clear hR hC T TM hyk hz5
        (try simp only [List.append_eq, List.cons_append, List.nil_append])
        go_region_held3 (fun w' => w'.cell? ⟨b, o + k * 4, none⟩ = some (.int .u64 (X k)) ∧ w'.cell? ⟨b, o + k * 4 + 1, none⟩ = some (.int .u64 (Y k)))
          (first | exact ⟨x1, x2⟩ | exact hykh.out _ hb2)
          (first | (go_at_call 8; refine (hst.out Bb Br k w5.drew (by omega) hz5h.out hRh.out.drew hCh.out.drew).mono ?_; rintro e w6 ⟨rfl, hR2, hC2, hb2⟩))
        have T4 := TMh.out _ hb2
        clear x1 x2 x3 x4 hRh hCh Th TMh hykh hb2 hz5h
        obtain ⟨_, _, he, x1, x2, x3, x4⟩ := hce.out k _ hlt T4
        cases he
        have hR2h := Lib.hid hR2
        have hC4h := Lib.hid hC2
        have T4h := Lib.hid T4
        have TM : ∀ w7, Below m0 w6.drew w7 → Below w.heap.size w w7 := fun w7 q => T4h.out.drew.trans (by rw [hm0h.out]; exact q)
        have hyk : ∀ w7, Below m0 w6.drew w7 → w7.cell? ⟨b, o + k * 4, none⟩ = some (.int .u64 (X k)) ∧ w7.cell? ⟨b, o + k * 4 + 1, none⟩ = some (.int .u64 (Y k)) := fun w7 q => by
          obtain ⟨_, _, he, z1, z2, _⟩ := hce.out k w7 hlt (TM w7 q)
          cases he
          exact ⟨z1, z2⟩
        have TMh := Lib.hid TM
        have hykh := Lib.hid hyk
        clear hR2 hC2 T4 TM hyk
        go_upto_region 22 with fail
        (try simp only [List.append_eq, List.cons_append, List.nil_append])
        go_region_held3 (fun w' => w'.cell? ⟨b, o + k * 4, none⟩ = some (.int .u64 (X k)) ∧ w'.cell? ⟨b, o + k * 4 + 1, none⟩ = some (.int .u64 (Y k)))
          (first | exact ⟨x1, x2⟩ | exact hykh.out _ hb3)
          (first | (go_at_call 9; refine (hsc.out Bb Br k w6.drew (by omega) hR2h.out.drew hC4h.out.drew).mono ?_; rintro e w7 ⟨rfl, hR5, hC5, hb3⟩))
        have T5 := TMh.out _ hb3
        clear x1 x2 x3 x4 hR2h hC4h T4h TMh hykh hb3
        obtain ⟨_, _, he, x1, x2, x3, x4⟩ := hce.out k _ hlt T5
        cases he
        go_wp2_with (go_at_call 7; (with_reducible refine (hsa.out m0 Bb Br (k + 1) k _ (by omega) hR5 hC5).mono ?_); rintro e w8 ⟨rfl, hb⟩; replace T5 := up T5 hb T5.size; replace hR5 := hR5.below hb; replace hC5 := hC5.below hb; clear hb x1 x2 x3 x4)
        go_roundw
        case rel => exact ⟨k + 1, rfl, by omega, hR5, hC5, T5⟩
        case measure => simp [intOf]; omega
    · obtain rfl : k = n := by omega
      have i1 : ¬ (k : Int) < (k : Int) := by omega
      go_wp2_with fail
      go_ret
      exact ⟨rfl, T⟩
set_option maxHeartbeats 1000000 in
theorem tel_long (f l r : Int) (a : Option Addr) (n c : Nat) (at' : Int) (w : World) (hn : 40 < n) :
    Calls Tryz.prog 3 #[.agg #[eU f, eU l, eU r], .slice a n c, .int .i64 at'] w fun e w' => e = .returned (.bool true) ∧ Below w.heap.size w w' := by
  have hn' : ((40 : Int) < (n : Int)) := by omega
  go_enter Tryz.func3, Tryz.ntmps3
  go_wp2_with fail
  go_ret
  exact ⟨rfl, up1 _ _⟩
set_option maxHeartbeats 2000000 in
theorem tel_not (f l r : Int) (a : Option Addr) (n c : Nat) (at' : Int) (w : World) (hn : n ≤ 40)
    (hN4 : ∀ w0, Below w.heap.size w w0 → Calls Tryz.prog 4 #[.agg #[eU f, eU l, eU r]] w0 fun e w' => e = .returned (.pointer none) ∧ Below w0.heap.size w0 w')
    (hN5 : ∀ w0, Below w.heap.size w w0 → Calls Tryz.prog 5 #[.agg #[eU f, eU l, eU r]] w0 fun e w' => e = .returned (.pointer none) ∧ Below w0.heap.size w0 w') :
    Calls Tryz.prog 3 #[.agg #[eU f, eU l, eU r], .slice a n c, .int .i64 at'] w fun e w' => e = .returned (.bool true) ∧ Below w.heap.size w w' := by
  have BC := Box.new w 24 #[eU f, eU l, eU r]
  have T := up1 w (.cells #[eU f, eU l, eU r] 24)
  have hn' : ¬ ((40 : Int) < (n : Int)) := by omega
  obtain ⟨c0, c1, c2⟩ := BC.three
  go_enter Tryz.func3, Tryz.ntmps3
  go_upto_region 3 with fail
  (try simp only [List.append_eq, List.cons_append, List.nil_append])
  go_region_held3 (fun w' => w'.cell? ⟨w.heap.size, 0, none⟩ = some (.int .u64 f) ∧ w'.cell? ⟨w.heap.size, 1, none⟩ = some (.int .u64 l) ∧ w'.cell? ⟨w.heap.size, 2, none⟩ = some (.int .u64 r))
    (first | exact ⟨c0, c1, c2⟩ | exact BC.three)
    (first
      | (go_at_call 4; (with_reducible refine (hN4 _ (by first | exact T | exact T.drew)).mono ?_); rintro e w1 ⟨rfl, hb⟩; (first | replace hb := undrew hb | replace hb := undrewN hb | skip); replace BC := BC.below hb; replace T := up T hb T.size; clear hb)
      | (go_at_call 5; (with_reducible refine (hN5 _ (by first | exact T | exact T.drew)).mono ?_); rintro e w2 ⟨rfl, hb⟩; (first | replace hb := undrew hb | replace hb := undrewN hb | skip); replace BC := BC.below hb; replace T := up T hb T.size; clear hb))
  all_goals go_wp2_with fail
  all_goals go_ret
  all_goals exact ⟨by first | rfl | simp, T⟩
theorem RunTells_walk (f l r : Int) (a : Option Addr) (n c : Nat) (xs : Nat → Ac) (at' : Int) (w : World) (hf : Word f) (hl : Word l) (hr : Word r) (hI : IsAcs w a n c xs) (hw : ∀ i, (xs i).word) (hcm : c ≤ maxLen) (hnn : a = none → n = 0 ∧ c = 0) (ht : -9223372036854775808 ≤ at' ∧ at' < 9223372036854775808) :
    Calls Tryz.prog 3 #[.agg #[eU f, eU l, eU r], .slice a n c, .int .i64 at'] w fun e w' => e = .returned (.bool true) ∧ Below w.heap.size w w' := by
  by_cases hn : n ≤ 40
  · have h4 := fun w => ru_new f l r (fun i => (xs i).x) (fun i => (xs i).y) w hf hl hr
    have h5 := fun w' => d_new f l r w.heap.size (fun i => (xs i).x) (fun i => (xs i).y) w' hf hl hr
    by_cases hc : CvR f l r
    · refine tel_ok f l r a n c xs at' w hc hw hI hn (fun w0 T => (h4 w0).mono fun e w' h => ?_) (fun w0 T => (h5 w0).mono fun e w' h => ?_)
      · obtain ⟨h1, h2⟩ := h
        have := T.size
        rcases h1 with ⟨_, B, e1, e2⟩ | ⟨h1, _⟩
        · exact ⟨⟨B, e1, _, fun k hk => ⟨by omega, hk.2⟩, e2⟩, h2⟩
        · exact absurd hc h1
      · obtain ⟨h1, h2⟩ := h
        have := T.size
        rcases h1 with ⟨_, B, e1, e2, e3⟩ | ⟨h1, _⟩
        · exact ⟨⟨B, e1, by omega, e3⟩, h2⟩
        · exact absurd hc h1
    · refine tel_not f l r a n c at' w hn (fun w0 T => (h4 w0).mono fun e w' h => ?_) (fun w0 T => (h5 w0).mono fun e w' h => ?_)
      · obtain ⟨h1, h2⟩ := h
        rcases h1 with ⟨h1, _⟩ | ⟨_, h1⟩
        · exact absurd h1 hc
        · exact ⟨h1, h2⟩
      · obtain ⟨h1, h2⟩ := h
        rcases h1 with ⟨h1, _⟩ | ⟨_, h1⟩
        · exact absurd h1 hc
        · exact ⟨h1, h2⟩
  · exact tel_long f l r a n c at' w (by omega)
end Go.Proofs.YtejolaifdjcghaaGreat
