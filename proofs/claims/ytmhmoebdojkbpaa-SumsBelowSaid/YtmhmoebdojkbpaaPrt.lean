/- The library's partition of words round a pivot. -/
import Derived.Test.YtmhmoebdojkbpaaPeq
import Derived.Sort.WalkC4
namespace Go.Proofs.Ytmhmoebdojkbpaa
open Go.RowKit Go.Shelf Go.Sort W
set_option linter.unusedVariables false
set_option maxHeartbeats 12800000 in
set_option maxRecDepth 100000 in
theorem prt_any (blk off cap a b pv : Nat) (d : Array Int) (w : World) (hH : Holds eU w blk off d) (hap : a ≤ pv) (hpb : pv < b) (hb : b ≤ d.size) (hsz : d.size < 4611686018427387904) :
    Calls Try.prog 81 #[.slice (some ⟨blk, off, none⟩) d.size cap, .int .i64 a, .int .i64 b, .int .i64 pv] w fun e w' =>
      e = .returned (.tuple #[.int .i64 (Sort.partition lt d a b pv).1, .bool (Sort.partition lt d a b pv).2.1]) ∧ SRow w blk off d w' (Sort.partition lt d a b pv).2.2 := by
  obtain ⟨G0, hG0⟩ : ∃ G : Nat → Int, ∀ t, G t = d[t]! := ⟨fun t => d[t]!, fun _ => rfl⟩
  have hda : a < d.size := by omega
  have hdp : pv < d.size := by omega
  have ca : w.cell? ⟨blk, off + a, none⟩ = some (.int .u64 (G0 a)) := by rw [hG0]; exact (hH a hda).1
  have cp : w.cell? ⟨blk, off + pv, none⟩ = some (.int .u64 (G0 pv)) := by rw [hG0]; exact (hH pv hdp).1
  have fa := (hH a hda).2
  have fp := (hH pv hdp).2
  obtain ⟨v', hy'⟩ := cell?_setCell_some (w := w) (p := ⟨blk, off + a, none⟩) (x := .int .u64 (G0 pv)) (q := ⟨blk, off + pv, none⟩) cp
  have hsw : ∀ q, SRow w blk off d (((w.drewN q).setCell ⟨blk, off + a, none⟩ (eU (G0 pv))).setCell ⟨blk, off + pv, none⟩ (eU (G0 a))) (swp d a pv) := fun q => by
    rw [hG0, hG0]; exact (SRow.start hH).swap q a pv hda hdp
  have AW := Lib.hid hsw
  have AH := Lib.hid hH
  clear hsw hH hG0
  go_enter Try.func81, Try.ntmps81
  go_wp2
  go_region
  go_upto_block 0 with fail
  clear ca cp fa fp hy' v'
  have hR := AW.out 1
  clear AW
  obtain ⟨W1, hW1⟩ : ∃ W1, W1 = ((w.setCell ⟨blk, off + a, none⟩ (.int .u64 (G0 pv))).setCell ⟨blk, off + pv, none⟩ (.int .u64 (G0 a))).drew := ⟨_, rfl⟩
  have hR' : SRow w blk off d W1 (swp d a pv) := by rw [hW1]; exact hR
  rw [← hW1]
  clear hW1 hR
  obtain ⟨dk, hdk⟩ : ∃ dk, dk = swp d a pv := ⟨_, rfl⟩
  rw [← hdk] at hR'
  have e1 : ((a : Int) + 1) = ((a + 1 : Nat) : Int) := by omega
  have e2 : ((b : Int) - 1) = ((b - 1 : Nat) : Int) := by omega
  rw [e1, e2]
  clear e1 e2
  obtain ⟨i, hi⟩ : ∃ i, i = a + 1 := ⟨_, rfl⟩
  obtain ⟨j, hj⟩ : ∃ j, j = b - 1 := ⟨_, rfl⟩
  rw [← hi, ← hj]
  have hai : a < i := by omega
  have hij : i ≤ j + 1 := by omega
  have hjb : j < b := by omega
  have XI := Lib.hid hi
  have XJ := Lib.hid hj
  have XD := Lib.hid hdk
  have AR := Lib.hid hR'
  clear hi hj hdk hR'
  obtain ⟨G, hG⟩ : ∃ G : Nat → Int, ∀ t, G t = dk[t]! := ⟨fun t => dk[t]!, fun _ => rfl⟩
  have cells : ∀ W', SRow w blk off d W' dk → (∀ t, t < d.size → W'.cell? ⟨blk, off + t, none⟩ = some (.int .u64 (G t))) ∧ (∀ t, t < d.size → W'.frozen? ⟨blk, off + t, none⟩ = false) := fun W' h => ⟨fun t ht => by rw [hG]; exact (h.cells AH.out t ht).1, fun t ht => (h.cells AH.out t ht).2⟩
  have swaps : ∀ W', SRow w blk off d W' dk → ∀ q x y, x < d.size → y < d.size → SRow w blk off d (((W'.drewN q).setCell ⟨blk, off + x, none⟩ (eU (G y))).setCell ⟨blk, off + y, none⟩ (eU (G x))) (swp dk x y) := fun W' h q x y hx hy => by rw [hG, hG]; exact h.swap q x y hx hy
  have AC := Lib.hid cells
  have AP := Lib.hid swaps
  have AG := Lib.hid hG
  clear cells swaps hG
  go_upto_block 0 with fail
  go_cut [10]  (fun s wx => ∃ i2 : Nat, s = .int .i64 i2 ∧ i2 = scanUp (fun x => lt x dk[a]!) dk j i ∧ i ≤ i2 ∧ i2 ≤ j + 1 ∧ SRow w blk off d wx dk)
  case first =>
    go_wp2_with fail
    go_loopw [10] (fun s wr => ∃ i' : Nat, s = .int .i64 i' ∧ i ≤ i' ∧ i' ≤ j + 1 ∧ SRow w blk off d wr dk ∧ scanUp (fun x => lt x dk[a]!) dk j i' = scanUp (fun x => lt x dk[a]!) dk j i) (fun s _ => j + 1 - (intOf s).toNat)
    case atStart => exact ⟨i, rfl, Nat.le_refl _, hij, AR.out, rfl⟩
    case round =>
      obtain ⟨i', rfl, hii, hij', hR1, hS⟩ := hrel
      obtain ⟨hcw, hfw⟩ := AC.out _ hR1
      have AR1 := Lib.hid hR1
      have AS := Lib.hid hS
      clear hR1 hS
      by_cases hle : i' ≤ j
      · go_wp2_with fail
        go_big_quiet (first | (go_at_call 79; refine Calls.quiet_of_same (less_any _ _ _)))
        go_wp2
        · have ht : lt (G i') (G a) = true := by assumption
          go_roundw
          case rel => exact ⟨i' + 1, by go_num, by omega, by omega, AR1.out.drew nq, (scanUp_go (fun x => lt x dk[a]!) dk j i' hle (by rw [← AG.out a, ← AG.out i']; exact ht)).symm.trans AS.out⟩
          case measure => simp [intOf]; omega
        · have ht : lt (G i') (G a) = false := by assumption
          go_meet
          case rel => exact ⟨i', rfl, ((scanUp_end (fun x => lt x dk[a]!) dk j i' (Or.inr (by rw [← AG.out a, ← AG.out i']; exact ht))).symm.trans AS.out), hii, hij', AR1.out.drew nq⟩
      · go_wp2_with fail
        go_big_quiet (first | (go_at_call 79; refine Calls.quiet_of_same (less_any _ _ _)))
        go_wp2
        go_meet
        case rel => exact ⟨i', rfl, ((scanUp_end (fun x => lt x dk[a]!) dk j i' (Or.inl hle)).symm.trans AS.out), hii, hij', AR1.out.drew nq⟩
  case rest =>
    obtain ⟨i2, rfl, hi2, hii2, hij2, hR2⟩ := hcut
    have AI := Lib.hid hi2
    have AR2 := Lib.hid hR2
    clear hi2 hR2 AR
    go_upto_block 2 with fail
    go_cut [11]  (fun s wx => ∃ j2 : Nat, s = .int .i64 j2 ∧ j2 = scanDown (fun x => !lt x dk[a]!) dk i2 j ∧ j2 ≤ j ∧ i2 ≤ j2 + 1 ∧ SRow w blk off d wx dk)
    case first =>
      go_wp2_with fail
      go_loopw [11] (fun s wr => ∃ j' : Nat, s = .int .i64 j' ∧ j' ≤ j ∧ i2 ≤ j' + 1 ∧ SRow w blk off d wr dk ∧ scanDown (fun x => !lt x dk[a]!) dk i2 j' = scanDown (fun x => !lt x dk[a]!) dk i2 j) (fun s _ => (intOf s).toNat)
      case atStart => exact ⟨j, rfl, Nat.le_refl _, hij2, AR2.out, rfl⟩
      case round =>
        obtain ⟨j', rfl, hjj, hij', hR1, hS⟩ := hrel
        obtain ⟨hcw, hfw⟩ := AC.out _ hR1
        have AR1 := Lib.hid hR1
        have AS := Lib.hid hS
        clear hR1 hS
        by_cases hle : i2 ≤ j'
        · go_wp2_with fail
          go_big_quiet (first | (go_at_call 79; refine Calls.quiet_of_same (less_any _ _ _)))
          go_wp2
          · have ht : (!lt (G j') (G a)) = true := by assumption
            go_roundw
            case rel => exact ⟨j' - 1, by go_num, by omega, by omega, AR1.out.drew nq, (scanDown_go (fun x => !lt x dk[a]!) dk i2 j' hle (by omega) (by rw [← AG.out a, ← AG.out j']; exact ht)).symm.trans AS.out⟩
            case measure => simp [intOf]; omega
          · have ht : (!lt (G j') (G a)) = false := by assumption
            go_meet
            case rel => exact ⟨j', rfl, ((scanDown_end (fun x => !lt x dk[a]!) dk i2 j' (Or.inr (by rw [← AG.out a, ← AG.out j']; exact ht))).symm.trans AS.out), hjj, hij', AR1.out.drew nq⟩
        · go_wp2_with fail
          go_big_quiet (first | (go_at_call 79; refine Calls.quiet_of_same (less_any _ _ _)))
          go_wp2
          go_meet
          case rel => exact ⟨j', rfl, ((scanDown_end (fun x => !lt x dk[a]!) dk i2 j' (Or.inl hle)).symm.trans AS.out), hjj, hij', AR1.out.drew nq⟩
    case rest =>
      obtain ⟨j2, rfl, hj2, hjj2, hij3, hR3⟩ := hcut
      obtain ⟨hcw, hfw⟩ := AC.out _ hR3
      have AJ := Lib.hid hj2
      have AR3 := Lib.hid hR3
      clear hj2 hR3 AR2
      by_cases hle : i2 ≤ j2
      · have hlt := part_scans_lt lt a i j dk (by omega) AI.out AJ.out hle
        obtain ⟨v3, hy3⟩ := cell?_setCell_some (w := wc) (p := ⟨blk, off + i2, none⟩) (x := .int .u64 (G j2)) (q := ⟨blk, off + j2, none⟩) (hcw j2 (by omega))
        have hle2 : ¬ ((j2 : Int) < (i2 : Int)) := by omega
        obtain ⟨R, hRR⟩ : ∃ R, R = partLoop lt a (i2 + 1) (j2 - 1) (swp dk i2 j2) := ⟨_, rfl⟩
        have hP : Sort.partition lt d a b pv = (R.1, false, swp R.2 R.1 a) := by rw [hRR]; exact part_first_go lt d a b pv XI.out XJ.out XD.out AI.out AJ.out (by omega)
        have XP := Lib.hid hP
        have XR := Lib.hid hRR
        have XS := Lib.hid (AP.out _ AR3.out 1 i2 j2 (by omega) (by omega))
        clear hP hRR
        go_wp2
        go_region
        all_goals go_wp2
        go_loopw [10, 11] (fun s10 s11 wr => ∃ (i j : Nat) (dk : Array Int), s10 = .int .i64 i ∧ s11 = .int .i64 j ∧ a < i ∧ i ≤ j + 1 ∧ j < b ∧ SRow w blk off d wr dk ∧ partLoop lt a i j dk = R) (fun s10 s11 _ => (intOf s11).toNat + 1 - (intOf s10).toNat)
        case atStart => exact ⟨i2 + 1, j2 - 1, swp dk i2 j2, by go_num, by go_num, by omega, by omega, by omega, XS.out, XR.out.symm⟩
        case round =>
          clear XI XJ XD AR3 AI AJ XS XR AC AP AG hcw hfw hy3 v3 hle hlt hle2 hii2 hij2 hjj2 hij3 hai hij hjb
          obtain ⟨i, j, dk, rfl, rfl, hai, hij, hjb, hR, hE⟩ := hrel
          have AE := Lib.hid hE
          have AR := Lib.hid hR
          clear hE hR
          obtain ⟨G, hG⟩ : ∃ G : Nat → Int, ∀ t, G t = dk[t]! := ⟨fun t => dk[t]!, fun _ => rfl⟩
          have cells : ∀ W', SRow w blk off d W' dk → (∀ t, t < d.size → W'.cell? ⟨blk, off + t, none⟩ = some (.int .u64 (G t))) ∧ (∀ t, t < d.size → W'.frozen? ⟨blk, off + t, none⟩ = false) := fun W' h => ⟨fun t ht => by rw [hG]; exact (h.cells AH.out t ht).1, fun t ht => (h.cells AH.out t ht).2⟩
          have swaps : ∀ W', SRow w blk off d W' dk → ∀ q x y, x < d.size → y < d.size → SRow w blk off d (((W'.drewN q).setCell ⟨blk, off + x, none⟩ (eU (G y))).setCell ⟨blk, off + y, none⟩ (eU (G x))) (swp dk x y) := fun W' h q x y hx hy => by rw [hG, hG]; exact h.swap q x y hx hy
          have AC := Lib.hid cells
          have AP := Lib.hid swaps
          have AG := Lib.hid hG
          clear cells swaps hG
          go_upto_block 6 with fail
          go_cut [10]  (fun s wx => ∃ i2 : Nat, s = .int .i64 i2 ∧ i2 = scanUp (fun x => lt x dk[a]!) dk j i ∧ i ≤ i2 ∧ i2 ≤ j + 1 ∧ SRow w blk off d wx dk)
          case first =>
            go_wp2_with fail
            go_loopw [10] (fun s wr => ∃ i' : Nat, s = .int .i64 i' ∧ i ≤ i' ∧ i' ≤ j + 1 ∧ SRow w blk off d wr dk ∧ scanUp (fun x => lt x dk[a]!) dk j i' = scanUp (fun x => lt x dk[a]!) dk j i) (fun s _ => j + 1 - (intOf s).toNat)
            case atStart => exact ⟨i, rfl, Nat.le_refl _, hij, AR.out, rfl⟩
            case round =>
              obtain ⟨i', rfl, hii, hij', hR1, hS⟩ := hrel
              obtain ⟨hcw, hfw⟩ := AC.out _ hR1
              have AR1 := Lib.hid hR1
              have AS := Lib.hid hS
              clear hR1 hS
              by_cases hle : i' ≤ j
              · go_wp2_with fail
                go_big_quiet (first | (go_at_call 79; refine Calls.quiet_of_same (less_any _ _ _)))
                go_wp2
                · have ht : lt (G i') (G a) = true := by assumption
                  go_roundw
                  case rel => exact ⟨i' + 1, by go_num, by omega, by omega, AR1.out.drew nq, (scanUp_go (fun x => lt x dk[a]!) dk j i' hle (by rw [← AG.out a, ← AG.out i']; exact ht)).symm.trans AS.out⟩
                  case measure => simp [intOf]; omega
                · have ht : lt (G i') (G a) = false := by assumption
                  go_meet
                  case rel => exact ⟨i', rfl, ((scanUp_end (fun x => lt x dk[a]!) dk j i' (Or.inr (by rw [← AG.out a, ← AG.out i']; exact ht))).symm.trans AS.out), hii, hij', AR1.out.drew nq⟩
              · go_wp2_with fail
                go_big_quiet (first | (go_at_call 79; refine Calls.quiet_of_same (less_any _ _ _)))
                go_wp2
                go_meet
                case rel => exact ⟨i', rfl, ((scanUp_end (fun x => lt x dk[a]!) dk j i' (Or.inl hle)).symm.trans AS.out), hii, hij', AR1.out.drew nq⟩
          case rest =>
            obtain ⟨i2, rfl, hi2, hii2, hij2, hR2⟩ := hcut
            have AI := Lib.hid hi2
            have AR2 := Lib.hid hR2
            clear hi2 hR2 AR
            go_upto_block 8 with fail
            go_cut [11]  (fun s wx => ∃ j2 : Nat, s = .int .i64 j2 ∧ j2 = scanDown (fun x => !lt x dk[a]!) dk i2 j ∧ j2 ≤ j ∧ i2 ≤ j2 + 1 ∧ SRow w blk off d wx dk)
            case first =>
              go_wp2_with fail
              go_loopw [11] (fun s wr => ∃ j' : Nat, s = .int .i64 j' ∧ j' ≤ j ∧ i2 ≤ j' + 1 ∧ SRow w blk off d wr dk ∧ scanDown (fun x => !lt x dk[a]!) dk i2 j' = scanDown (fun x => !lt x dk[a]!) dk i2 j) (fun s _ => (intOf s).toNat)
              case atStart => exact ⟨j, rfl, Nat.le_refl _, hij2, AR2.out, rfl⟩
              case round =>
                obtain ⟨j', rfl, hjj, hij', hR1, hS⟩ := hrel
                obtain ⟨hcw, hfw⟩ := AC.out _ hR1
                have AR1 := Lib.hid hR1
                have AS := Lib.hid hS
                clear hR1 hS
                by_cases hle : i2 ≤ j'
                · go_wp2_with fail
                  go_big_quiet (first | (go_at_call 79; refine Calls.quiet_of_same (less_any _ _ _)))
                  go_wp2
                  · have ht : (!lt (G j') (G a)) = true := by assumption
                    go_roundw
                    case rel => exact ⟨j' - 1, by go_num, by omega, by omega, AR1.out.drew nq, (scanDown_go (fun x => !lt x dk[a]!) dk i2 j' hle (by omega) (by rw [← AG.out a, ← AG.out j']; exact ht)).symm.trans AS.out⟩
                    case measure => simp [intOf]; omega
                  · have ht : (!lt (G j') (G a)) = false := by assumption
                    go_meet
                    case rel => exact ⟨j', rfl, ((scanDown_end (fun x => !lt x dk[a]!) dk i2 j' (Or.inr (by rw [← AG.out a, ← AG.out j']; exact ht))).symm.trans AS.out), hjj, hij', AR1.out.drew nq⟩
                · go_wp2_with fail
                  go_big_quiet (first | (go_at_call 79; refine Calls.quiet_of_same (less_any _ _ _)))
                  go_wp2
                  go_meet
                  case rel => exact ⟨j', rfl, ((scanDown_end (fun x => !lt x dk[a]!) dk i2 j' (Or.inl hle)).symm.trans AS.out), hjj, hij', AR1.out.drew nq⟩
            case rest =>
              obtain ⟨j2, rfl, hj2, hjj2, hij3, hR3⟩ := hcut
              obtain ⟨hcw, hfw⟩ := AC.out _ hR3
              have AJ := Lib.hid hj2
              have AR3 := Lib.hid hR3
              clear hj2 hR3 AR2
              by_cases hle : i2 ≤ j2
              · have hlt := part_scans_lt lt a i j dk (by omega) AI.out AJ.out hle
                obtain ⟨v3, hy3⟩ := cell?_setCell_some (w := wc) (p := ⟨blk, off + i2, none⟩) (x := .int .u64 (G j2)) (q := ⟨blk, off + j2, none⟩) (hcw j2 (by omega))
                have hle2 : ¬ ((j2 : Int) < (i2 : Int)) := by omega
                go_wp2
                go_region
                all_goals go_wp2
                all_goals go_roundw
                case rel => exact ⟨i2 + 1, j2 - 1, swp dk i2 j2, by go_num, by go_num, by omega, by omega, by omega, AP.out _ AR3.out 1 i2 j2 (by omega) (by omega), (part_go lt a i j dk AI.out AJ.out (by omega)).symm.trans AE.out⟩
                case measure => simp [intOf]; omega
              · have e0 := (part_break lt a i j dk AI.out AJ.out (by omega)).symm.trans AE.out
                have e2 : Sort.partition lt d a b pv = (j2, false, swp dk j2 a) := by rw [XP.out, ← e0]
                clear e0
                have X2 := Lib.hid e2
                clear e2
                have hlt : (j2 : Int) < (i2 : Int) := by omega
                have hlj : j2 < d.size := by omega
                obtain ⟨v3, hy3⟩ := cell?_setCell_some (w := wc) (p := ⟨blk, off + j2, none⟩) (x := .int .u64 (G a)) (q := ⟨blk, off + a, none⟩) (hcw a (by omega))
                go_wp2
                go_region
                all_goals go_wp2
                all_goals go_ret2
                rw [X2.out]
                exact ⟨rfl, AP.out _ AR3.out 1 j2 a (by omega) (by omega)⟩
      · have e2 : Sort.partition lt d a b pv = (j2, true, swp dk j2 a) := part_first_break lt d a b pv XI.out XJ.out XD.out AI.out AJ.out (by omega)
        have X2 := Lib.hid e2
        clear e2
        have hlt : (j2 : Int) < (i2 : Int) := by omega
        have hlj : j2 < d.size := by omega
        obtain ⟨v3, hy3⟩ := cell?_setCell_some (w := wc) (p := ⟨blk, off + j2, none⟩) (x := .int .u64 (G a)) (q := ⟨blk, off + a, none⟩) (hcw a (by omega))
        go_wp2
        go_region
        all_goals go_wp2
        all_goals go_ret2
        rw [X2.out]
        exact ⟨rfl, AP.out _ AR3.out 1 j2 a (by omega) (by omega)⟩
end Go.Proofs.Ytmhmoebdojkbpaa
