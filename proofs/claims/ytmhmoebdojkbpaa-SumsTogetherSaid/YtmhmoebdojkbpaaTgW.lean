/- Of what can be kept each part can be: the walk of the statement. -/
import Derived.Test.YtmhmoebdojkbpaaTgM
import Derived.Test.YtmhmoebdojkbpaaPdq
import Derived.Deep.DeepCutAuto
import Derived.Deep.CutBlock
namespace Go.Proofs.Ytmhmoebdojkbpaa
open Go.RowKit Go.Shelf Go.Maps W
set_option linter.unusedVariables false
set_option maxRecDepth 100000 in
set_option maxHeartbeats 16000000 in
theorem tg_some (b o n c : Nat) (xs : List Cv) (adk : Option Addr) (rate more t at' s m h l h1 l1 h2 l2 : Int) (k : Nat) (kb : Bool) (w : World) (hn0 : 0 < n) (hn : n ≤ 40) (hnc : n ≤ c) (hc : c ≤ maxLen) (hlen0 : xs.length = n) (hrow0 : CvRow w b o xs) (hadk : (if c = k then (some ⟨b, o, none⟩ : Option Addr) else some ⟨b, o + k * 3, none⟩) = adk) (hk : wrap64 ((IntKind.u64.wrap at').tmod ((n : Int) + 1)) = (k : Int)) (hkn : k ≤ n) (hs : IntKind.u64.wrap (rate + more) = s)
    (hAt1 : ∀ w', Below w.heap.size w w' → Calls Try.prog 10 #[.slice (some ⟨b, o, none⟩) k c, eU t] w' fun e w'' => e = .returned (.agg #[eU h1, eU l1]) ∧ Below w'.heap.size w' w'')
    (hAt2 : ∀ w', Below w.heap.size w w' → Calls Try.prog 10 #[.slice adk (n - k) (c - k), eU t] w' fun e w'' => e = .returned (.agg #[eU h2, eU l2]) ∧ Below w'.heap.size w' w'')
    (hPl : ∀ w', Calls Try.prog 26 #[.agg #[eU h1, eU l1], .agg #[eU h2, eU l2]] w' fun e w'' => e = .returned (.tuple #[.agg #[eU h, eU l], .int .i64 0]) ∧ Below w'.heap.size w' w'')
    (hAt : ∀ w', Below w.heap.size w w' → Calls Try.prog 10 #[.slice (some ⟨b, o, none⟩) n c, eU t] w' fun e w'' => e = .returned (.agg #[eU h, eU l]) ∧ Below w'.heap.size w' w'')
    (hLa : ∀ w', Below w.heap.size w w' → Calls Try.prog 15 #[.slice (some ⟨b, o, none⟩) n c, eU rate] w' fun e w'' => e = .returned (eU m) ∧ Below w'.heap.size w' w'')
    (hK : ∀ w', Below w.heap.size w w' → Calls Try.prog 17 #[.slice (some ⟨b, o, none⟩) n c, eU rate] w' fun e w'' => e = .returned (.bool kb) ∧ Below w'.heap.size w' w'')
    (hK1 : kb = true → ∀ w', Below w.heap.size w w' → Calls Try.prog 17 #[.slice (some ⟨b, o, none⟩) k c, eU rate] w' fun e w'' => e = .returned (.bool true) ∧ Below w'.heap.size w' w'')
    (hK2 : kb = true → ∀ w', Below w.heap.size w w' → Calls Try.prog 17 #[.slice adk (n - k) (c - k), eU rate] w' fun e w'' => e = .returned (.bool true) ∧ Below w'.heap.size w' w'')
    (hK3 : kb = true → ¬ s < rate → ∀ w', Below w.heap.size w w' → Calls Try.prog 17 #[.slice (some ⟨b, o, none⟩) n c, eU s] w' fun e w'' => e = .returned (.bool true) ∧ Below w'.heap.size w' w'')
    (hAtB : ∀ (w' : World) (g cp : Nat), IsCvs w' (some ⟨g, 0, none⟩) n cp xs.reverse → Calls Try.prog 10 #[.slice (some ⟨g, 0, none⟩) n cp, eU t] w' fun e w'' => e = .returned (.agg #[eU h, eU l]) ∧ Below w'.heap.size w' w'')
    (hLaB : ∀ (w' : World) (g cp : Nat), IsCvs w' (some ⟨g, 0, none⟩) n cp xs.reverse → Calls Try.prog 15 #[.slice (some ⟨g, 0, none⟩) n cp, eU rate] w' fun e w'' => e = .returned (eU m) ∧ Below w'.heap.size w' w'') :
    Calls Try.prog 7 #[.slice (some ⟨b, o, none⟩) n c, eU rate, eU more, eU t, .int .i64 at'] w fun e w' => e = .returned (.bool true) ∧ Below w.heap.size w w' := by
  have T := Below.refl w.heap.size w
  have h40 : ¬ (40 : Int) < (n : Int) := by omega
  have hk1 : (0 : Int) ≤ (k : Int) := by omega
  have hk2 : (k : Int) ≤ (n : Int) := by omega
  have hk3 : (k : Int) ≤ (c : Int) := by omega
  have hk4 : (n : Int) ≤ (c : Int) := by omega
  obtain ⟨i0, hi, hz0, hz1, hz2⟩ := info_parts infoC
  have hlen := Lib.hid hlen0
  have hrow := Lib.hid hrow0
  clear hlen0 hrow0
  go_enter Try.func7, Try.ntmps7
  go_upto_block 0 with (go_at_call 23; (with_reducible refine (awake_any _).mono ?_); rintro e w1 ⟨rfl, hb⟩; replace T := up T hb T.size; clear hb)
  rw [hk]
  clear hk h40
  go_cut [12] (fun s12 wx => ∃ (g cp : Nat), s12 = .slice (some ⟨g, 0, none⟩) n cp ∧ IsCvs wx (some ⟨g, 0, none⟩) n cp xs.reverse ∧ Below w.heap.size w wx)
  case first =>
    go_wp2_with fail
    go_loopw [12, 13] (fun s12 s13 wr => ∃ (j : Nat), s13 = .int .i64 ((n : Int) - 1 - (j : Int)) ∧ j ≤ n ∧ wr.ownsRow w.heap.size 31 3 s12 j (cvC (xs.reverse.take j)) ∧ Below w.heap.size w wr) (fun _ s13 _ => (intOf s13 + 1).toNat)
    case atStart => exact ⟨0, by simp, by omega, ⟨rfl, .inl ⟨rfl, rfl⟩⟩, T⟩
    case round =>
      clear T
      obtain ⟨j, rfl, hj, hown, T⟩ := hrel
      by_cases hlt : j < n
      · obtain ⟨i, hi'⟩ : ∃ i : Nat, n - 1 - j = i := ⟨_, rfl⟩
        have e1 : (n : Int) - 1 - (j : Int) = (i : Int) := by omega
        rw [e1]
        have i1 : (0 : Int) ≤ (i : Int) := by omega
        have i2 : (i : Int) < (n : Int) := by omega
        have hlx : xs.length = n := hlen.out
        obtain ⟨y1, y2, y3⟩ := (hrow.out.below T).2 i (by omega)
        have hrt := rev_take (xs := xs) (j := j) (by omega)
        have hxi : xs[xs.length - 1 - j]'(by omega) = xs[i]'(by omega) := by congr 1; omega
        rw [hxi] at hrt
        obtain ⟨cf, ef⟩ : ∃ x, (xs[i]'(by omega)).f = x := ⟨_, rfl⟩
        obtain ⟨cl, el⟩ : ∃ x, (xs[i]'(by omega)).l = x := ⟨_, rfl⟩
        obtain ⟨cr, er⟩ : ∃ x, (xs[i]'(by omega)).r = x := ⟨_, rfl⟩
        rw [ef] at y1 hrt
        rw [el] at y2 hrt
        rw [er] at y3 hrt
        have HRT := Lib.hid hrt
        have HE := Lib.hid hi'
        have hmx : j + 1 ≤ maxLen := by unfold maxLen; omega
        have hby : (j + 1) * 24 ≤ 140737488355328 := by omega
        have hbz : w.heap.size ≤ (wr.alloc (.cells #[eU cf, eU cl, eU cr] 31)).heap.size := Nat.le_trans T.size (by simp)
        have hown1 := Lib.hid (hown.alloc (.cells #[eU cf, eU cl, eU cr] 31))
        have h3a := Lib.hid (three_any wr cf cl cr)
        have h3o := Lib.hid (three_ones cf cl cr)
        clear ef el er hxi hrt hi' e1 hown hlx
        go_wp2_with (at_builtin; refine wpList_append_own _ rfl _ _ 22 rfl w.heap.size 31 i0 _ 3 24 Try.underlying22 hi hz0 hz1 hz2 rfl (by decide) _ j (cvC (xs.reverse.take j)) rfl hown1.out ⟨wr.heap.size, 0, none⟩ 1 1 [eU cf, eU cl, eU cr] rfl rfl h3a.out h3o.out hmx hby hbz ?_; intro v' w' hown' hgrow _; have T' := (T.alloc T.size (.cells #[eU cf, eU cl, eU cr] 31)).grown hgrow hbz (fun j e => (hown1.out.lt j e).1); clear hgrow)
        go_roundw
        case rel =>
          refine ⟨j + 1, ?_, by omega, ?_, T'⟩
          · have := HE.out
            go_num
          · rw [HRT.out]; exact hown'
        case measure =>
          have := HE.out
          first
            | (simp [intOf]; omega)
            | simp [intOf]
      · obtain rfl : j = n := by omega
        have i1 : ¬ (0 : Int) ≤ (j : Int) - 1 - (j : Int) := by omega
        have hlx : xs.length = j := hlen.out
        have hfull : cvC (xs.reverse.take j) = cvC xs.reverse := by rw [List.take_of_length_le (by rw [List.length_reverse]; omega)]
        rw [hfull] at hown
        obtain ⟨g, cap, rfl, hgc, hmine⟩ := row_cvs (xs := xs.reverse) (by simpa [hlx] using hown) (by rw [List.length_reverse]; omega)
        have hrl : xs.reverse.length = j := by rw [List.length_reverse]; exact hlx
        have AR := Lib.hid hmine
        have AL := Lib.hid hrl
        have AX := Lib.hid hlx
        clear hown hmine hfull hlx hrl
        go_wp2
        go_meet
        case rel => exact ⟨g, cap, by rw [AX.out], ⟨AL.out, by rw [← AL.out]; exact hgc, .inr ⟨g, 0, rfl, AR.out⟩⟩, T⟩
  case rest =>
    obtain ⟨g, cp, rfl, HI, T2⟩ := hcut
    clear hlen hrow i0 hi hz0 hz1 hz2 T
    have T := T2
    clear T2
    go_upto_region 11 with fail
    have T0 := T
    clear T
    have T := Below.refl wc.heap.size wc
    go_cut [14, 15] (fun s14 s15 wx => ∃ M : Nat, s14 = .pointer (some ⟨M, 0, none⟩) ∧ s15 = .int .i64 0 ∧ Has wx M h l ∧ IsCvs wx (some ⟨g, 0, none⟩) n cp xs.reverse ∧ Below w.heap.size w wx)
    case first =>
      go_region_held3 (fun _ => True) (trivial)
        (first
          | (go_at_call 10; (with_reducible refine (hAt1 _ (up T0 (by first | exact T | exact T.drew | exact T.drew.alloc T.size _ | exact (T.alloc T.size _).drew | exact T.alloc T.size _) T0.size)).mono ?_); rintro e w5 ⟨rfl, hb⟩; (first | replace hb := undrew hb | replace hb := undrewN hb | skip); (first | (have HN := (Own.new _ 0 0).below hb; have hN := T.size; replace T := up (T.alloc T.size _) hb (T.alloc T.size _).size) | (replace HN := HN.below hb; replace T := up T hb T.size) | (replace T := up T hb T.size)); (try (obtain ⟨⟨xN, yN, zN⟩, fN, gN⟩ := id HN)); clear hb)
          | (go_at_call 10; (with_reducible refine (hAt2 _ (up T0 (by first | exact T | exact T.drew | exact T.drew.alloc T.size _ | exact (T.alloc T.size _).drew | exact T.alloc T.size _) T0.size)).mono ?_); rintro e w6 ⟨rfl, hb⟩; (first | replace hb := undrew hb | replace hb := undrewN hb | skip); (first | (have HN := (Own.new _ 0 0).below hb; have hN := T.size; replace T := up (T.alloc T.size _) hb (T.alloc T.size _).size) | (replace HN := HN.below hb; replace T := up T hb T.size) | (replace T := up T hb T.size)); (try (obtain ⟨⟨xN, yN, zN⟩, fN, gN⟩ := id HN)); clear hb)
          | (go_at_call 26; (with_reducible refine (hPl _).mono ?_); rintro e w7 ⟨rfl, hb⟩; (first | replace hb := undrew hb | replace hb := undrewN hb | skip); (first | (have HN := (Own.new _ 0 0).below hb; have hN := T.size; replace T := up (T.alloc T.size _) hb (T.alloc T.size _).size) | (replace HN := HN.below hb; replace T := up T hb T.size) | (replace T := up T hb T.size)); (try (obtain ⟨⟨xN, yN, zN⟩, fN, gN⟩ := id HN)); clear hb))
      all_goals
        go_wp2_with fail
        go_meet
        first
          | exact ⟨_, rfl, rfl, Has.new _ _ _, HI.below (T.alloc T.size _), up T0 (T.alloc T.size _) T0.size⟩
          | exact ⟨_, rfl, rfl, (HN.store h l).1, HI.below ((T.setCell hN _).setCell hN _), up T0 ((T.setCell hN _).setCell hN _) T0.size⟩
    case rest =>
      clear T T0 HI
      obtain ⟨M, rfl, rfl, HM, HI, T0⟩ := hcut
      have T := Below.refl wc.heap.size wc
      obtain ⟨_, m1, m2⟩ := id HM
      go_upto_region 12 with fail
      go_cut [81] (fun s81 wx => s81 = .bool false ∧ Below w.heap.size w wx)
      case first =>
        go_region_held3 (fun w' => w'.cell? ⟨M, 0, none⟩ = some (.int .u64 h) ∧ w'.cell? ⟨M, 1, none⟩ = some (.int .u64 l))
          (first | exact HM.2)
          (first
            | (go_at_call 10; (with_reducible refine (hAt _ (up T0 (by first | exact T | exact T.drew | exact T.drew.alloc T.size _ | exact (T.alloc T.size _).drew | exact T.alloc T.size _) T0.size)).mono ?_); rintro e w5 ⟨rfl, hb⟩; (first | replace hb := undrew hb | replace hb := undrewN hb | skip); replace T := up T hb T.size; replace HM := HM.below hb; obtain ⟨_, m1, m2⟩ := id HM; clear hb)
            | (go_at_call 10; (with_reducible refine (hAtB _ _ _ (by first | exact HI.below T | exact HI.below T.drew)).mono ?_); rintro e w6 ⟨rfl, hb⟩; (first | replace hb := undrew hb | replace hb := undrewN hb | skip); replace T := up T hb T.size; replace HM := HM.below hb; obtain ⟨_, m1, m2⟩ := id HM; clear hb)
            | (go_at_call 15; (with_reducible refine (hLa _ (up T0 (by first | exact T | exact T.drew | exact T.drew.alloc T.size _ | exact (T.alloc T.size _).drew | exact T.alloc T.size _) T0.size)).mono ?_); rintro e w7 ⟨rfl, hb⟩; (first | replace hb := undrew hb | replace hb := undrewN hb | skip); replace T := up T hb T.size; replace HM := HM.below hb; obtain ⟨_, m1, m2⟩ := id HM; clear hb)
            | (go_at_call 15; (with_reducible refine (hLaB _ _ _ (by first | exact HI.below T | exact HI.below T.drew)).mono ?_); rintro e w8 ⟨rfl, hb⟩; (first | replace hb := undrew hb | replace hb := undrewN hb | skip); replace T := up T hb T.size; replace HM := HM.below hb; obtain ⟨_, m1, m2⟩ := id HM; clear hb))
        all_goals
          go_wp2_with fail
          go_meet
          exact ⟨rfl, up T0 T T0.size⟩
      case rest =>
        obtain ⟨rfl, T2⟩ := hcut
        clear T T0 HM HI m1 m2 hAt1 hAt2 hPl hAt hAtB hLa hLaB
        have T := T2
        clear T2
        cases kb
        · go_wp2_with (go_at_call 17; (with_reducible refine (hK _ T).mono ?_); rintro e w8 ⟨rfl, hb⟩; replace T := up T hb T.size; clear hb)
          go_ret
          exact ⟨rfl, T⟩
        · have K1 := hK1 rfl
          have K2 := hK2 rfl
          have K3 := hK3 rfl
          clear hK1 hK2 hK3
          by_cases hlt : s < rate
          · go_wp2_with (first
              | (go_at_call 17; (with_reducible refine (hK _ T).mono ?_); rintro e w8 ⟨rfl, hb⟩; replace T := up T hb T.size; clear hb hK)
              | (go_at_call 17; (with_reducible refine (K1 _ T).mono ?_); rintro e w9 ⟨rfl, hb⟩; replace T := up T hb T.size; clear hb K1)
              | (go_at_call 17; (with_reducible refine (K2 _ T).mono ?_); rintro e w10 ⟨rfl, hb⟩; replace T := up T hb T.size; clear hb K2))
            go_ret
            exact ⟨rfl, T⟩
          · have K4 := K3 (by omega)
            clear K3
            go_wp2_with (first
              | (go_at_call 17; (with_reducible refine (hK _ T).mono ?_); rintro e w8 ⟨rfl, hb⟩; replace T := up T hb T.size; clear hb hK)
              | (go_at_call 17; (with_reducible refine (K1 _ T).mono ?_); rintro e w9 ⟨rfl, hb⟩; replace T := up T hb T.size; clear hb K1)
              | (go_at_call 17; (with_reducible refine (K2 _ T).mono ?_); rintro e w10 ⟨rfl, hb⟩; replace T := up T hb T.size; clear hb K2)
              | (go_at_call 17; (with_reducible refine (K4 _ T).mono ?_); rintro e w11 ⟨rfl, hb⟩; replace T := up T hb T.size; clear hb))
            go_ret
            exact ⟨rfl, T⟩
set_option maxRecDepth 100000 in
set_option maxHeartbeats 16000000 in
theorem tg_none  (rate more t at' s m : Int) (k : Nat) (kb : Bool) (w : World)  (hk : wrap64 ((IntKind.u64.wrap at').tmod (((0 : Nat) : Int) + 1)) = (k : Int)) (hkn : k ≤ (0 : Nat)) (hs : IntKind.u64.wrap (rate + more) = s)
    (hAt1 : ∀ w', Below w.heap.size w w' → Calls Try.prog 10 #[.slice none 0 0, eU t] w' fun e w'' => e = .returned (.agg #[eU 0, eU 0]) ∧ Below w'.heap.size w' w'')
    (hAt2 : ∀ w', Below w.heap.size w w' → Calls Try.prog 10 #[.slice none 0 0, eU t] w' fun e w'' => e = .returned (.agg #[eU 0, eU 0]) ∧ Below w'.heap.size w' w'')
    (hPl : ∀ w', Calls Try.prog 26 #[.agg #[eU 0, eU 0], .agg #[eU 0, eU 0]] w' fun e w'' => e = .returned (.tuple #[.agg #[eU 0, eU 0], .int .i64 0]) ∧ Below w'.heap.size w' w'')
    (hAt : ∀ w', Below w.heap.size w w' → Calls Try.prog 10 #[.slice none 0 0, eU t] w' fun e w'' => e = .returned (.agg #[eU 0, eU 0]) ∧ Below w'.heap.size w' w'')
    (hLa : ∀ w', Below w.heap.size w w' → Calls Try.prog 15 #[.slice none 0 0, eU rate] w' fun e w'' => e = .returned (eU m) ∧ Below w'.heap.size w' w'')
    (hK : ∀ w', Below w.heap.size w w' → Calls Try.prog 17 #[.slice none 0 0, eU rate] w' fun e w'' => e = .returned (.bool kb) ∧ Below w'.heap.size w' w'')
    (hK1 : kb = true → ∀ w', Below w.heap.size w w' → Calls Try.prog 17 #[.slice none 0 0, eU rate] w' fun e w'' => e = .returned (.bool true) ∧ Below w'.heap.size w' w'')
    (hK2 : kb = true → ∀ w', Below w.heap.size w w' → Calls Try.prog 17 #[.slice none 0 0, eU rate] w' fun e w'' => e = .returned (.bool true) ∧ Below w'.heap.size w' w'')
    (hK3 : kb = true → ¬ s < rate → ∀ w', Below w.heap.size w w' → Calls Try.prog 17 #[.slice none 0 0, eU s] w' fun e w'' => e = .returned (.bool true) ∧ Below w'.heap.size w' w'')
    (hAtB : ∀ (w' : World), Calls Try.prog 10 #[.slice none 0 0, eU t] w' fun e w'' => e = .returned (.agg #[eU 0, eU 0]) ∧ Below w'.heap.size w' w'')
    (hLaB : ∀ (w' : World), Calls Try.prog 15 #[.slice none 0 0, eU rate] w' fun e w'' => e = .returned (eU m) ∧ Below w'.heap.size w' w'') :
    Calls Try.prog 7 #[.slice none 0 0, eU rate, eU more, eU t, .int .i64 at'] w fun e w' => e = .returned (.bool true) ∧ Below w.heap.size w w' := by
  have T := Below.refl w.heap.size w
  have h40 : ¬ (40 : Int) < ((0 : Nat) : Int) := by omega
  have hk1 : (0 : Int) ≤ (k : Int) := by omega
  have hk2 : (k : Int) ≤ ((0 : Nat) : Int) := by omega
  have hk3 : (k : Int) ≤ ((0 : Nat) : Int) := by omega
  have hk4 : ((0 : Nat) : Int) ≤ ((0 : Nat) : Int) := by omega
  obtain rfl : k = 0 := by omega
  go_enter Try.func7, Try.ntmps7
  go_upto_block 0 with (go_at_call 23; (with_reducible refine (awake_any _).mono ?_); rintro e w1 ⟨rfl, hb⟩; replace T := up T hb T.size; clear hb)
  go_wp2_with fail
  go_loopw [12, 13] (fun s12 s13 wr => s12 = .slice none 0 0 ∧ s13 = .int .i64 (-1) ∧ wr = w1) (fun _ _ _ => 0)
  case atStart => exact ⟨rfl, rfl, rfl⟩
  case round =>
    obtain ⟨rfl, rfl, rfl⟩ := hrel
    go_upto_region 11 with fail
    have T0 := T
    clear T
    have T := Below.refl wr.heap.size wr
    go_cut [14, 15] (fun s14 s15 wx => ∃ M : Nat, s14 = .pointer (some ⟨M, 0, none⟩) ∧ s15 = .int .i64 0 ∧ Has wx M 0 0 ∧ Below w.heap.size w wx)
    case first =>
      go_region_held3 (fun _ => True) (trivial)
        (first
          | (go_at_call 10; (with_reducible refine (hAt1 _ (up T0 (by first | exact T | exact T.drew | exact T.drew.alloc T.size _ | exact (T.alloc T.size _).drew | exact T.alloc T.size _) T0.size)).mono ?_); rintro e w5 ⟨rfl, hb⟩; (first | replace hb := undrew hb | replace hb := undrewN hb | skip); (first | (have HN := (Own.new _ 0 0).below hb; have hN := T.size; replace T := up (T.alloc T.size _) hb (T.alloc T.size _).size) | (replace HN := HN.below hb; replace T := up T hb T.size) | (replace T := up T hb T.size)); (try (obtain ⟨⟨xN, yN, zN⟩, fN, gN⟩ := id HN)); clear hb)
          | (go_at_call 10; (with_reducible refine (hAt2 _ (up T0 (by first | exact T | exact T.drew | exact T.drew.alloc T.size _ | exact (T.alloc T.size _).drew | exact T.alloc T.size _) T0.size)).mono ?_); rintro e w6 ⟨rfl, hb⟩; (first | replace hb := undrew hb | replace hb := undrewN hb | skip); (first | (have HN := (Own.new _ 0 0).below hb; have hN := T.size; replace T := up (T.alloc T.size _) hb (T.alloc T.size _).size) | (replace HN := HN.below hb; replace T := up T hb T.size) | (replace T := up T hb T.size)); (try (obtain ⟨⟨xN, yN, zN⟩, fN, gN⟩ := id HN)); clear hb)
          | (go_at_call 26; (with_reducible refine (hPl _).mono ?_); rintro e w7 ⟨rfl, hb⟩; (first | replace hb := undrew hb | replace hb := undrewN hb | skip); (first | (have HN := (Own.new _ 0 0).below hb; have hN := T.size; replace T := up (T.alloc T.size _) hb (T.alloc T.size _).size) | (replace HN := HN.below hb; replace T := up T hb T.size) | (replace T := up T hb T.size)); (try (obtain ⟨⟨xN, yN, zN⟩, fN, gN⟩ := id HN)); clear hb))
      all_goals
        go_wp2_with fail
        go_meet
        first
          | exact ⟨_, rfl, rfl, Has.new _ _ _, up T0 (T.alloc T.size _) T0.size⟩
          | exact ⟨_, rfl, rfl, (HN.store 0 0).1, up T0 ((T.setCell hN _).setCell hN _) T0.size⟩
    case rest =>
      clear T T0
      obtain ⟨M, rfl, rfl, HM, T0⟩ := hcut
      have T := Below.refl wc.heap.size wc
      obtain ⟨_, m1, m2⟩ := id HM
      go_upto_region 12 with fail
      go_cut [81] (fun s81 wx => s81 = .bool false ∧ Below w.heap.size w wx)
      case first =>
        go_region_held3 (fun w' => w'.cell? ⟨M, 0, none⟩ = some (.int .u64 0) ∧ w'.cell? ⟨M, 1, none⟩ = some (.int .u64 0))
          (first | exact HM.2)
          (first
            | (go_at_call 10; (with_reducible refine (hAt _ (up T0 (by first | exact T | exact T.drew | exact T.drew.alloc T.size _ | exact (T.alloc T.size _).drew | exact T.alloc T.size _) T0.size)).mono ?_); rintro e w5 ⟨rfl, hb⟩; (first | replace hb := undrew hb | replace hb := undrewN hb | skip); replace T := up T hb T.size; replace HM := HM.below hb; obtain ⟨_, m1, m2⟩ := id HM; clear hb)
            | (go_at_call 10; (with_reducible refine (hAtB _).mono ?_); rintro e w6 ⟨rfl, hb⟩; (first | replace hb := undrew hb | replace hb := undrewN hb | skip); replace T := up T hb T.size; replace HM := HM.below hb; obtain ⟨_, m1, m2⟩ := id HM; clear hb)
            | (go_at_call 15; (with_reducible refine (hLa _ (up T0 (by first | exact T | exact T.drew | exact T.drew.alloc T.size _ | exact (T.alloc T.size _).drew | exact T.alloc T.size _) T0.size)).mono ?_); rintro e w7 ⟨rfl, hb⟩; (first | replace hb := undrew hb | replace hb := undrewN hb | skip); replace T := up T hb T.size; replace HM := HM.below hb; obtain ⟨_, m1, m2⟩ := id HM; clear hb)
            | (go_at_call 15; (with_reducible refine (hLaB _).mono ?_); rintro e w8 ⟨rfl, hb⟩; (first | replace hb := undrew hb | replace hb := undrewN hb | skip); replace T := up T hb T.size; replace HM := HM.below hb; obtain ⟨_, m1, m2⟩ := id HM; clear hb))
        all_goals
          go_wp2_with fail
          go_meet
          exact ⟨rfl, up T0 T T0.size⟩
      case rest =>
        obtain ⟨rfl, T2⟩ := hcut
        clear T T0 HM m1 m2 hAt1 hAt2 hPl hAt hAtB hLa hLaB
        have T := T2
        clear T2
        cases kb
        · go_wp2_with (go_at_call 17; (with_reducible refine (hK _ T).mono ?_); rintro e w8 ⟨rfl, hb⟩; replace T := up T hb T.size; clear hb)
          go_ret
          exact ⟨rfl, T⟩
        · have K1 := hK1 rfl
          have K2 := hK2 rfl
          have K3 := hK3 rfl
          clear hK1 hK2 hK3
          by_cases hlt : s < rate
          · go_wp2_with (first
              | (go_at_call 17; (with_reducible refine (hK _ T).mono ?_); rintro e w8 ⟨rfl, hb⟩; replace T := up T hb T.size; clear hb hK)
              | (go_at_call 17; (with_reducible refine (K1 _ T).mono ?_); rintro e w9 ⟨rfl, hb⟩; replace T := up T hb T.size; clear hb K1)
              | (go_at_call 17; (with_reducible refine (K2 _ T).mono ?_); rintro e w10 ⟨rfl, hb⟩; replace T := up T hb T.size; clear hb K2))
            go_ret
            exact ⟨rfl, T⟩
          · have K4 := K3 (by omega)
            clear K3
            go_wp2_with (first
              | (go_at_call 17; (with_reducible refine (hK _ T).mono ?_); rintro e w8 ⟨rfl, hb⟩; replace T := up T hb T.size; clear hb hK)
              | (go_at_call 17; (with_reducible refine (K1 _ T).mono ?_); rintro e w9 ⟨rfl, hb⟩; replace T := up T hb T.size; clear hb K1)
              | (go_at_call 17; (with_reducible refine (K2 _ T).mono ?_); rintro e w10 ⟨rfl, hb⟩; replace T := up T hb T.size; clear hb K2)
              | (go_at_call 17; (with_reducible refine (K4 _ T).mono ?_); rintro e w11 ⟨rfl, hb⟩; replace T := up T hb T.size; clear hb))
            go_ret
            exact ⟨rfl, T⟩
set_option maxRecDepth 100000 in
set_option maxHeartbeats 16000000 in
theorem tg_empty (ad : Addr) (c : Nat) (rate more t at' s m : Int) (k : Nat) (kb : Bool) (w : World)  (hk : wrap64 ((IntKind.u64.wrap at').tmod (((0 : Nat) : Int) + 1)) = (k : Int)) (hkn : k ≤ (0 : Nat)) (hs : IntKind.u64.wrap (rate + more) = s)
    (hAt1 : ∀ w', Below w.heap.size w w' → Calls Try.prog 10 #[.slice (some ad) 0 c, eU t] w' fun e w'' => e = .returned (.agg #[eU 0, eU 0]) ∧ Below w'.heap.size w' w'')
    (hAt2 : ∀ w', Below w.heap.size w w' → Calls Try.prog 10 #[.slice (some ad) 0 c, eU t] w' fun e w'' => e = .returned (.agg #[eU 0, eU 0]) ∧ Below w'.heap.size w' w'')
    (hPl : ∀ w', Calls Try.prog 26 #[.agg #[eU 0, eU 0], .agg #[eU 0, eU 0]] w' fun e w'' => e = .returned (.tuple #[.agg #[eU 0, eU 0], .int .i64 0]) ∧ Below w'.heap.size w' w'')
    (hAt : ∀ w', Below w.heap.size w w' → Calls Try.prog 10 #[.slice (some ad) 0 c, eU t] w' fun e w'' => e = .returned (.agg #[eU 0, eU 0]) ∧ Below w'.heap.size w' w'')
    (hLa : ∀ w', Below w.heap.size w w' → Calls Try.prog 15 #[.slice (some ad) 0 c, eU rate] w' fun e w'' => e = .returned (eU m) ∧ Below w'.heap.size w' w'')
    (hK : ∀ w', Below w.heap.size w w' → Calls Try.prog 17 #[.slice (some ad) 0 c, eU rate] w' fun e w'' => e = .returned (.bool kb) ∧ Below w'.heap.size w' w'')
    (hK1 : kb = true → ∀ w', Below w.heap.size w w' → Calls Try.prog 17 #[.slice (some ad) 0 c, eU rate] w' fun e w'' => e = .returned (.bool true) ∧ Below w'.heap.size w' w'')
    (hK2 : kb = true → ∀ w', Below w.heap.size w w' → Calls Try.prog 17 #[.slice (some ad) 0 c, eU rate] w' fun e w'' => e = .returned (.bool true) ∧ Below w'.heap.size w' w'')
    (hK3 : kb = true → ¬ s < rate → ∀ w', Below w.heap.size w w' → Calls Try.prog 17 #[.slice (some ad) 0 c, eU s] w' fun e w'' => e = .returned (.bool true) ∧ Below w'.heap.size w' w'')
    (hAtB : ∀ (w' : World), Calls Try.prog 10 #[.slice none 0 0, eU t] w' fun e w'' => e = .returned (.agg #[eU 0, eU 0]) ∧ Below w'.heap.size w' w'')
    (hLaB : ∀ (w' : World), Calls Try.prog 15 #[.slice none 0 0, eU rate] w' fun e w'' => e = .returned (eU m) ∧ Below w'.heap.size w' w'') :
    Calls Try.prog 7 #[.slice (some ad) 0 c, eU rate, eU more, eU t, .int .i64 at'] w fun e w' => e = .returned (.bool true) ∧ Below w.heap.size w w' := by
  have T := Below.refl w.heap.size w
  have h40 : ¬ (40 : Int) < ((0 : Nat) : Int) := by omega
  have hk1 : (0 : Int) ≤ (k : Int) := by omega
  have hk2 : (k : Int) ≤ ((0 : Nat) : Int) := by omega
  have hk3 : (k : Int) ≤ (c : Int) := by omega
  have hk4 : ((0 : Nat) : Int) ≤ (c : Int) := by omega
  obtain rfl : k = 0 := by omega
  go_enter Try.func7, Try.ntmps7
  go_upto_block 0 with (go_at_call 23; (with_reducible refine (awake_any _).mono ?_); rintro e w1 ⟨rfl, hb⟩; replace T := up T hb T.size; clear hb)
  go_wp2_with fail
  go_loopw [12, 13] (fun s12 s13 wr => s12 = .slice none 0 0 ∧ s13 = .int .i64 (-1) ∧ wr = w1) (fun _ _ _ => 0)
  case atStart => exact ⟨rfl, rfl, rfl⟩
  case round =>
    obtain ⟨rfl, rfl, rfl⟩ := hrel
    go_upto_region 11 with fail
    have T0 := T
    clear T
    have T := Below.refl wr.heap.size wr
    go_cut [14, 15] (fun s14 s15 wx => ∃ M : Nat, s14 = .pointer (some ⟨M, 0, none⟩) ∧ s15 = .int .i64 0 ∧ Has wx M 0 0 ∧ Below w.heap.size w wx)
    case first =>
      go_region_held3 (fun _ => True) (trivial)
        (first
          | (go_at_call 10; (with_reducible refine (hAt1 _ (up T0 (by first | exact T | exact T.drew | exact T.drew.alloc T.size _ | exact (T.alloc T.size _).drew | exact T.alloc T.size _) T0.size)).mono ?_); rintro e w5 ⟨rfl, hb⟩; (first | replace hb := undrew hb | replace hb := undrewN hb | skip); (first | (have HN := (Own.new _ 0 0).below hb; have hN := T.size; replace T := up (T.alloc T.size _) hb (T.alloc T.size _).size) | (replace HN := HN.below hb; replace T := up T hb T.size) | (replace T := up T hb T.size)); (try (obtain ⟨⟨xN, yN, zN⟩, fN, gN⟩ := id HN)); clear hb)
          | (go_at_call 10; (with_reducible refine (hAt2 _ (up T0 (by first | exact T | exact T.drew | exact T.drew.alloc T.size _ | exact (T.alloc T.size _).drew | exact T.alloc T.size _) T0.size)).mono ?_); rintro e w6 ⟨rfl, hb⟩; (first | replace hb := undrew hb | replace hb := undrewN hb | skip); (first | (have HN := (Own.new _ 0 0).below hb; have hN := T.size; replace T := up (T.alloc T.size _) hb (T.alloc T.size _).size) | (replace HN := HN.below hb; replace T := up T hb T.size) | (replace T := up T hb T.size)); (try (obtain ⟨⟨xN, yN, zN⟩, fN, gN⟩ := id HN)); clear hb)
          | (go_at_call 26; (with_reducible refine (hPl _).mono ?_); rintro e w7 ⟨rfl, hb⟩; (first | replace hb := undrew hb | replace hb := undrewN hb | skip); (first | (have HN := (Own.new _ 0 0).below hb; have hN := T.size; replace T := up (T.alloc T.size _) hb (T.alloc T.size _).size) | (replace HN := HN.below hb; replace T := up T hb T.size) | (replace T := up T hb T.size)); (try (obtain ⟨⟨xN, yN, zN⟩, fN, gN⟩ := id HN)); clear hb))
      all_goals
        go_wp2_with fail
        go_meet
        first
          | exact ⟨_, rfl, rfl, Has.new _ _ _, up T0 (T.alloc T.size _) T0.size⟩
          | exact ⟨_, rfl, rfl, (HN.store 0 0).1, up T0 ((T.setCell hN _).setCell hN _) T0.size⟩
    case rest =>
      clear T T0
      obtain ⟨M, rfl, rfl, HM, T0⟩ := hcut
      have T := Below.refl wc.heap.size wc
      obtain ⟨_, m1, m2⟩ := id HM
      go_upto_region 12 with fail
      go_cut [81] (fun s81 wx => s81 = .bool false ∧ Below w.heap.size w wx)
      case first =>
        go_region_held3 (fun w' => w'.cell? ⟨M, 0, none⟩ = some (.int .u64 0) ∧ w'.cell? ⟨M, 1, none⟩ = some (.int .u64 0))
          (first | exact HM.2)
          (first
            | (go_at_call 10; (with_reducible refine (hAt _ (up T0 (by first | exact T | exact T.drew | exact T.drew.alloc T.size _ | exact (T.alloc T.size _).drew | exact T.alloc T.size _) T0.size)).mono ?_); rintro e w5 ⟨rfl, hb⟩; (first | replace hb := undrew hb | replace hb := undrewN hb | skip); replace T := up T hb T.size; replace HM := HM.below hb; obtain ⟨_, m1, m2⟩ := id HM; clear hb)
            | (go_at_call 10; (with_reducible refine (hAtB _).mono ?_); rintro e w6 ⟨rfl, hb⟩; (first | replace hb := undrew hb | replace hb := undrewN hb | skip); replace T := up T hb T.size; replace HM := HM.below hb; obtain ⟨_, m1, m2⟩ := id HM; clear hb)
            | (go_at_call 15; (with_reducible refine (hLa _ (up T0 (by first | exact T | exact T.drew | exact T.drew.alloc T.size _ | exact (T.alloc T.size _).drew | exact T.alloc T.size _) T0.size)).mono ?_); rintro e w7 ⟨rfl, hb⟩; (first | replace hb := undrew hb | replace hb := undrewN hb | skip); replace T := up T hb T.size; replace HM := HM.below hb; obtain ⟨_, m1, m2⟩ := id HM; clear hb)
            | (go_at_call 15; (with_reducible refine (hLaB _).mono ?_); rintro e w8 ⟨rfl, hb⟩; (first | replace hb := undrew hb | replace hb := undrewN hb | skip); replace T := up T hb T.size; replace HM := HM.below hb; obtain ⟨_, m1, m2⟩ := id HM; clear hb))
        all_goals
          go_wp2_with fail
          go_meet
          exact ⟨rfl, up T0 T T0.size⟩
      case rest =>
        obtain ⟨rfl, T2⟩ := hcut
        clear T T0 HM m1 m2 hAt1 hAt2 hPl hAt hAtB hLa hLaB
        have T := T2
        clear T2
        cases kb
        · go_wp2_with (go_at_call 17; (with_reducible refine (hK _ T).mono ?_); rintro e w8 ⟨rfl, hb⟩; replace T := up T hb T.size; clear hb)
          go_ret
          exact ⟨rfl, T⟩
        · have K1 := hK1 rfl
          have K2 := hK2 rfl
          have K3 := hK3 rfl
          clear hK1 hK2 hK3
          by_cases hlt : s < rate
          · go_wp2_with (first
              | (go_at_call 17; (with_reducible refine (hK _ T).mono ?_); rintro e w8 ⟨rfl, hb⟩; replace T := up T hb T.size; clear hb hK)
              | (go_at_call 17; (with_reducible refine (K1 _ T).mono ?_); rintro e w9 ⟨rfl, hb⟩; replace T := up T hb T.size; clear hb K1)
              | (go_at_call 17; (with_reducible refine (K2 _ T).mono ?_); rintro e w10 ⟨rfl, hb⟩; replace T := up T hb T.size; clear hb K2))
            go_ret
            exact ⟨rfl, T⟩
          · have K4 := K3 (by omega)
            clear K3
            go_wp2_with (first
              | (go_at_call 17; (with_reducible refine (hK _ T).mono ?_); rintro e w8 ⟨rfl, hb⟩; replace T := up T hb T.size; clear hb hK)
              | (go_at_call 17; (with_reducible refine (K1 _ T).mono ?_); rintro e w9 ⟨rfl, hb⟩; replace T := up T hb T.size; clear hb K1)
              | (go_at_call 17; (with_reducible refine (K2 _ T).mono ?_); rintro e w10 ⟨rfl, hb⟩; replace T := up T hb T.size; clear hb K2)
              | (go_at_call 17; (with_reducible refine (K4 _ T).mono ?_); rintro e w11 ⟨rfl, hb⟩; replace T := up T hb T.size; clear hb))
            go_ret
            exact ⟨rfl, T⟩
end Go.Proofs.Ytmhmoebdojkbpaa
