/- The library's partition of words that are all at least the pivot. -/
import Derived.Test.YtmhmoebdojkbpaaBrk
import Derived.Sort.WalkC
import Derived.Deep.DeepCutAuto
import Derived.Deep.CutBlock
namespace Go.Proofs.Ytmhmoebdojkbpaa
open Go.RowKit Go.Shelf Go.Sort W
set_option linter.unusedVariables false
set_option maxHeartbeats 6400000 in
set_option maxRecDepth 100000 in
theorem peq_any (blk off cap a b pv : Nat) (d : Array Int) (w : World) (hH : Holds eU w blk off d) (hap : a ≤ pv) (hpb : pv < b) (hb : b ≤ d.size) (hsz : d.size < 4611686018427387904) :
    Calls Try.prog 80 #[.slice (some ⟨blk, off, none⟩) d.size cap, .int .i64 a, .int .i64 b, .int .i64 pv] w fun e w' => e = .returned (.int .i64 (Sort.partitionEqual lt d a b pv).1) ∧ SRow w blk off d w' (Sort.partitionEqual lt d a b pv).2 := by
  obtain ⟨G0, hG0⟩ : ∃ G : Nat → Int, ∀ t, G t = d[t]! := ⟨fun t => d[t]!, fun _ => rfl⟩
  have hda : a < d.size := by omega
  have hdp : pv < d.size := by omega
  have ca : w.cell? ⟨blk, off + a, none⟩ = some (.int .u64 (G0 a)) := by rw [hG0]; exact (hH a hda).1
  have cp : w.cell? ⟨blk, off + pv, none⟩ = some (.int .u64 (G0 pv)) := by rw [hG0]; exact (hH pv hdp).1
  have fa := (hH a hda).2
  have fp := (hH pv hdp).2
  obtain ⟨v', hy'⟩ := cell?_setCell_some (w := w) (p := ⟨blk, off + a, none⟩) (x := .int .u64 (G0 pv)) (q := ⟨blk, off + pv, none⟩) cp
  have hsw : ∀ q, SRow w blk off d (((w.drewN q).setCell ⟨blk, off + a, none⟩ (eU (G0 pv))).setCell ⟨blk, off + pv, none⟩ (eU (G0 a))) (swp d a pv) := fun q => by
    rw [hG0, hG0]; exact (SRow.start hH).swap q a pv hda hdp
  have AW := Lib.hid hsw
  have AH := Lib.hid hH
  clear hsw hH hG0
  go_enter Try.func80, Try.ntmps80
  go_wp2
  go_region
  all_goals go_wp2
  go_loopw [9, 10] (fun s9 s10 wr => ∃ (i j : Nat) (dk : Array Int), s9 = .int .i64 i ∧ s10 = .int .i64 j ∧ a < i ∧ i ≤ j + 1 ∧ j < b ∧ SRow w blk off d wr dk ∧ partEqLoop lt a i j dk = partEqLoop lt a (a + 1) (b - 1) (swp d a pv)) (fun s9 s10 _ => (intOf s10).toNat + 1 - (intOf s9).toNat)
  case atStart => exact ⟨a + 1, b - 1, swp d a pv, by go_num, by go_num, by omega, by omega, by omega, AW.out 1, rfl⟩
  case round =>
    obtain ⟨i, j, dk, rfl, rfl, hai, hij, hjb, hR, hE⟩ := hrel
    have AE := Lib.hid hE
    have AR := Lib.hid hR
    clear ca cp fa fp hy' v' AW hE hR
    obtain ⟨G, hG⟩ : ∃ G : Nat → Int, ∀ t, G t = dk[t]! := ⟨fun t => dk[t]!, fun _ => rfl⟩
    have cells : ∀ W', SRow w blk off d W' dk → (∀ t, t < d.size → W'.cell? ⟨blk, off + t, none⟩ = some (.int .u64 (G t))) ∧ (∀ t, t < d.size → W'.frozen? ⟨blk, off + t, none⟩ = false) := fun W' h => ⟨fun t ht => by rw [hG]; exact (h.cells AH.out t ht).1, fun t ht => (h.cells AH.out t ht).2⟩
    have swaps : ∀ W', SRow w blk off d W' dk → ∀ q x y, x < d.size → y < d.size → SRow w blk off d (((W'.drewN q).setCell ⟨blk, off + x, none⟩ (eU (G y))).setCell ⟨blk, off + y, none⟩ (eU (G x))) (swp dk x y) := fun W' h q x y hx hy => by rw [hG, hG]; exact h.swap q x y hx hy
    have AC := Lib.hid cells
    have AP := Lib.hid swaps
    have AG := Lib.hid hG
    clear cells swaps hG
    go_upto_block 2 with fail
    go_cut [9]  (fun s wx => ∃ i2 : Nat, s = .int .i64 i2 ∧ i2 = scanUp (fun x => !lt dk[a]! x) dk j i ∧ i ≤ i2 ∧ i2 ≤ j + 1 ∧ SRow w blk off d wx dk)
    case first =>
      go_wp2_with fail
      go_loopw [9] (fun s wr => ∃ i' : Nat, s = .int .i64 i' ∧ i ≤ i' ∧ i' ≤ j + 1 ∧ SRow w blk off d wr dk ∧ scanUp (fun x => !lt dk[a]! x) dk j i' = scanUp (fun x => !lt dk[a]! x) dk j i) (fun s _ => j + 1 - (intOf s).toNat)
      case atStart => exact ⟨i, rfl, Nat.le_refl _, hij, AR.out, rfl⟩
      case round =>
        obtain ⟨i', rfl, hii, hij', hR1, hS⟩ := hrel
        obtain ⟨hcw, hfw⟩ := AC.out _ hR1
        have AR1 := Lib.hid hR1
        have AS := Lib.hid hS
        clear hR1 hS
        by_cases hle : i' ≤ j
        · go_wp2_with fail
          go_big_quiet (first | (go_at_call 79; refine Calls.quiet_of_same (less_any _ _ _)))
          go_wp2
          · have ht : (!lt (G a) (G i')) = true := by assumption
            go_roundw
            case rel => exact ⟨i' + 1, by go_num, by omega, by omega, AR1.out.drew nq, (scanUp_go (fun x => !lt dk[a]! x) dk j i' hle (by rw [← AG.out a, ← AG.out i']; exact ht)).symm.trans AS.out⟩
            case measure => simp [intOf]; omega
          · have ht : (!lt (G a) (G i')) = false := by assumption
            go_meet
            case rel => exact ⟨i', rfl, ((scanUp_end (fun x => !lt dk[a]! x) dk j i' (Or.inr (by rw [← AG.out a, ← AG.out i']; exact ht))).symm.trans AS.out), hii, hij', AR1.out.drew nq⟩
        · go_wp2_with fail
          go_big_quiet (first | (go_at_call 79; refine Calls.quiet_of_same (less_any _ _ _)))
          go_wp2
          go_meet
          case rel => exact ⟨i', rfl, ((scanUp_end (fun x => !lt dk[a]! x) dk j i' (Or.inl hle)).symm.trans AS.out), hii, hij', AR1.out.drew nq⟩
    case rest =>
      obtain ⟨i2, rfl, hi2, hii2, hij2, hR2⟩ := hcut
      have AI := Lib.hid hi2
      have AR2 := Lib.hid hR2
      clear hi2 hR2 AR
      go_upto_block 4 with fail
      go_cut [10]  (fun s wx => ∃ j2 : Nat, s = .int .i64 j2 ∧ j2 = scanDown (fun x => lt dk[a]! x) dk i2 j ∧ j2 ≤ j ∧ i2 ≤ j2 + 1 ∧ SRow w blk off d wx dk)
      case first =>
        go_wp2_with fail
        go_loopw [10] (fun s wr => ∃ j' : Nat, s = .int .i64 j' ∧ j' ≤ j ∧ i2 ≤ j' + 1 ∧ SRow w blk off d wr dk ∧ scanDown (fun x => lt dk[a]! x) dk i2 j' = scanDown (fun x => lt dk[a]! x) dk i2 j) (fun s _ => (intOf s).toNat)
        case atStart => exact ⟨j, rfl, Nat.le_refl _, hij2, AR2.out, rfl⟩
        case round =>
          obtain ⟨j', rfl, hjj, hij', hR1, hS⟩ := hrel
          obtain ⟨hcw, hfw⟩ := AC.out _ hR1
          have AR1 := Lib.hid hR1
          have AS := Lib.hid hS
          clear hR1 hS
          by_cases hle : i2 ≤ j'
          · go_wp2_with fail
            go_big_quiet (first | (go_at_call 79; refine Calls.quiet_of_same (less_any _ _ _)))
            go_wp2
            · have ht : lt (G a) (G j') = true := by assumption
              go_roundw
              case rel => exact ⟨j' - 1, by go_num, by omega, by omega, AR1.out.drew nq, (scanDown_go (fun x => lt dk[a]! x) dk i2 j' hle (by omega) (by rw [← AG.out a, ← AG.out j']; exact ht)).symm.trans AS.out⟩
              case measure => simp [intOf]; omega
            · have ht : lt (G a) (G j') = false := by assumption
              go_meet
              case rel => exact ⟨j', rfl, ((scanDown_end (fun x => lt dk[a]! x) dk i2 j' (Or.inr (by rw [← AG.out a, ← AG.out j']; exact ht))).symm.trans AS.out), hjj, hij', AR1.out.drew nq⟩
          · go_wp2_with fail
            go_big_quiet (first | (go_at_call 79; refine Calls.quiet_of_same (less_any _ _ _)))
            go_wp2
            go_meet
            case rel => exact ⟨j', rfl, ((scanDown_end (fun x => lt dk[a]! x) dk i2 j' (Or.inl hle)).symm.trans AS.out), hjj, hij', AR1.out.drew nq⟩
      case rest =>
        obtain ⟨j2, rfl, hj2, hjj2, hij3, hR3⟩ := hcut
        obtain ⟨hcw, hfw⟩ := AC.out _ hR3
        have AJ := Lib.hid hj2
        have AR3 := Lib.hid hR3
        clear hj2 hR3 AR2
        by_cases hle : i2 ≤ j2
        · have hlt := scans_lt lt a i j dk (by omega) AI.out AJ.out hle
          obtain ⟨v3, hy3⟩ := cell?_setCell_some (w := wc) (p := ⟨blk, off + i2, none⟩) (x := .int .u64 (G j2)) (q := ⟨blk, off + j2, none⟩) (hcw j2 (by omega))
          have hle2 : ¬ ((j2 : Int) < (i2 : Int)) := by omega
          go_wp2
          go_region
          all_goals go_wp2
          all_goals go_roundw
          case rel => exact ⟨i2 + 1, j2 - 1, swp dk i2 j2, by go_num, by go_num, by omega, by omega, by omega, AP.out _ AR3.out 1 i2 j2 (by omega) (by omega), (partEq_go lt a i j dk AI.out AJ.out (by omega)).symm.trans AE.out⟩
          case measure => simp [intOf]; omega
        · have hlt : (j2 : Int) < (i2 : Int) := by omega
          go_wp2
          go_ret
          have e := partEq_break lt a i j dk AI.out AJ.out (by omega)
          have e2 : Sort.partitionEqual lt d a b pv = (i2, dk) := by unfold Sort.partitionEqual; rw [← AE.out, e]
          rw [e2]
          exact ⟨rfl, AR3.out⟩
end Go.Proofs.Ytmhmoebdojkbpaa
