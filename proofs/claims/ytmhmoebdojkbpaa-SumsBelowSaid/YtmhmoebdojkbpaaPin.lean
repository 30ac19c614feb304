/- The library's insertion of few words that stand askew. -/
import Derived.Test.YtmhmoebdojkbpaaPrt
import Derived.Sort.WalkA6
namespace Go.Proofs.Ytmhmoebdojkbpaa
open Go.RowKit Go.Shelf Go.Sort W
set_option linter.unusedVariables false
set_option maxHeartbeats 6400000 in
set_option maxRecDepth 100000 in
theorem pin_any (blk off cap a b : Nat) (d : Array Int) (w : World) (hH : Holds eU w blk off d) (hab : a < b) (hb : b ≤ d.size) (hsz : d.size < 4611686018427387904) :
    Calls Try.prog 78 #[.slice (some ⟨blk, off, none⟩) d.size cap, .int .i64 a, .int .i64 b] w fun e w' => e = .returned (.bool (Sort.partialInsertionSort lt d a b).2) ∧ SRow w blk off d w' (Sort.partialInsertionSort lt d a b).1 := by
  have AH := Lib.hid hH
  have A0 := Lib.hid (SRow.start hH)
  clear hH
  go_enter Try.func78, Try.ntmps78
  go_wp2
  go_loopw [7, 8] (fun s7 s8 wr => ∃ (i s : Nat) (dk : Array Int), s7 = .int .i64 i ∧ s8 = .int .i64 s ∧ s ≤ 5 ∧ a < i ∧ i ≤ b ∧ SRow w blk off d wr dk ∧ partialIns lt a b (5 - s) i dk = partialIns lt a b 5 (a + 1) d) (fun _ s8 _ => 5 - (intOf s8).toNat)
  case atStart => exact ⟨a + 1, 0, d, by go_num, rfl, by omega, by omega, by omega, A0.out, rfl⟩
  case round =>
    obtain ⟨i, s, dk, rfl, rfl, hs5, hai, hib, hR, hO⟩ := hrel
    have AR := Lib.hid hR
    have AO := Lib.hid hO
    clear hR hO A0
    go_upto_block 2 with fail
    · have hs : s < 5 := by omega
      obtain ⟨G, hG⟩ : ∃ G : Nat → Int, ∀ t, G t = dk[t]! := ⟨fun t => dk[t]!, fun _ => rfl⟩
      have cells : ∀ W', SRow w blk off d W' dk → (∀ t, t < d.size → W'.cell? ⟨blk, off + t, none⟩ = some (.int .u64 (G t))) ∧ (∀ t, t < d.size → W'.frozen? ⟨blk, off + t, none⟩ = false) := fun W' h => ⟨fun t ht => by rw [hG]; exact (h.cells AH.out t ht).1, fun t ht => (h.cells AH.out t ht).2⟩
      have swaps : ∀ W', SRow w blk off d W' dk → ∀ q x y, x < d.size → y < d.size → SRow w blk off d (((W'.drewN q).setCell ⟨blk, off + x, none⟩ (eU (G y))).setCell ⟨blk, off + y, none⟩ (eU (G x))) (swp dk x y) := fun W' h q x y hx hy => by rw [hG, hG]; exact h.swap q x y hx hy
      have AC := Lib.hid cells
      have AP := Lib.hid swaps
      have AG := Lib.hid hG
      clear cells swaps hG
      go_upto_block 2 with fail
      go_cut [7] (fun s7 wx => ∃ k : Nat, s7 = .int .i64 k ∧ k = scanSorted lt dk b i ∧ i ≤ k ∧ k ≤ b ∧ SRow w blk off d wx dk)
      case first =>
        go_wp2_with fail
        go_loopw [7] (fun s7 wr => ∃ k : Nat, s7 = .int .i64 k ∧ i ≤ k ∧ k ≤ b ∧ SRow w blk off d wr dk ∧ scanSorted lt dk b k = scanSorted lt dk b i) (fun s7 _ => b - (intOf s7).toNat)
        case atStart => exact ⟨i, rfl, Nat.le_refl _, hib, AR.out, rfl⟩
        case round =>
          obtain ⟨k, rfl, hik, hkb, hR1, hS⟩ := hrel
          obtain ⟨hcw, hfw⟩ := AC.out _ hR1
          have AR1 := Lib.hid hR1
          have AS := Lib.hid hS
          clear hR1 hS
          by_cases hlt : k < b
          · go_wp2_with fail
            go_big_quiet (first | (go_at_call 79; refine Calls.quiet_of_same (less_any _ _ _)))
            go_wp2
            · have hl : lt (G k) (G (k - 1)) = false := by
                have h : (!lt (G k) (G (k - 1))) = true := by assumption
                simpa using h
              go_roundw
              case rel => exact ⟨k + 1, by go_num, by omega, by omega, AR1.out.drew nq, by rw [← AS.out, scanSorted_go lt dk b k hlt (by rw [← AG.out, ← AG.out]; exact hl)]⟩
              case measure => simp [intOf]; omega
            · have hl : lt (G k) (G (k - 1)) = true := by
                have h : (!lt (G k) (G (k - 1))) = false := by assumption
                simpa using h
              go_meet
              case rel => exact ⟨k, rfl, by rw [← AS.out, scanSorted_stop lt dk b k (Or.inr (by rw [← AG.out, ← AG.out]; exact hl))], hik, hkb, AR1.out.drew nq⟩
          · go_wp2_with fail
            go_big_quiet (first | (go_at_call 79; refine Calls.quiet_of_same (less_any _ _ _)))
            go_wp2
            go_meet
            case rel => exact ⟨k, rfl, by rw [← AS.out, scanSorted_stop lt dk b k (Or.inl hlt)], hik, hkb, AR1.out.drew nq⟩
      case rest =>
        obtain ⟨k, rfl, hk, hik, hkb, hR2⟩ := hcut
        obtain ⟨hcw, hfw⟩ := AC.out _ hR2
        have AK := Lib.hid hk
        have AR2 := Lib.hid hR2
        clear hk hR2 AR
        by_cases hkb' : k = b
        · have hv : Sort.partialInsertionSort lt d a b = (dk, true) := by
            unfold Sort.partialInsertionSort
            rw [← AO.out, pi_true lt a b s i dk hs (by rw [← AK.out]; exact hkb')]
          have AV := Lib.hid hv
          clear AK AO hv
          subst hkb'
          go_wp2
          go_ret
          rw [AV.out]
          exact ⟨rfl, AR2.out⟩
        · have hkz : ¬ ((k : Int) = (b : Int)) := by omega
          by_cases h50 : b - a < 50
          · have h50z : (b : Int) - (a : Int) < 50 := by omega
            have hv : Sort.partialInsertionSort lt d a b = (dk, false) := by
              unfold Sort.partialInsertionSort
              rw [← AO.out, pi_short lt a b s i dk hs (by rw [← AK.out]; exact hkb') h50]
            have AV := Lib.hid hv
            clear AK AO hv
            go_wp2
            go_ret
            rw [AV.out]
            exact ⟨rfl, AR2.out⟩
          · have h50z : ¬ ((b : Int) - (a : Int) < 50) := by omega
            have XS := Lib.hid (AP.out _ AR2.out 1 k (k - 1) (by omega) (by omega))
            go_wp2
            go_region
            go_upto_if 61 with fail
            go_cut [] (fun wx => SRow w blk off d wx (fixDown lt a k (swp dk k (k - 1))))
            case first =>
              by_cases h2 : k - a ≥ 2
              · have h2z : (2 : Int) ≤ (k : Int) - (a : Int) := by omega
                clear hcw hfw
                go_wp2
                go_loopw [9] (fun s9 wr => ∃ (j : Nat) (dj : Array Int), s9 = .int .i64 j ∧ j ≤ k - 1 ∧ SRow w blk off d wr dj ∧ shiftDown lt j dj = shiftDown lt (k - 1) (swp dk k (k - 1))) (fun s9 _ => (intOf s9).toNat)
                case atStart => exact ⟨k - 1, swp dk k (k - 1), by congr 1; omega, Nat.le_refl _, XS.out, rfl⟩
                case round =>
                  clear AC AP AG XS AR2
                  obtain ⟨j, dj, rfl, hjk, hR1, hD⟩ := hrel
                  obtain ⟨G, hG⟩ : ∃ G : Nat → Int, ∀ t, G t = dj[t]! := ⟨fun t => dj[t]!, fun _ => rfl⟩
                  have cells : ∀ W', SRow w blk off d W' dj → (∀ t, t < d.size → W'.cell? ⟨blk, off + t, none⟩ = some (.int .u64 (G t))) ∧ (∀ t, t < d.size → W'.frozen? ⟨blk, off + t, none⟩ = false) := fun W' h => ⟨fun t ht => by rw [hG]; exact (h.cells AH.out t ht).1, fun t ht => (h.cells AH.out t ht).2⟩
                  have swaps : ∀ W', SRow w blk off d W' dj → ∀ q x y, x < d.size → y < d.size → SRow w blk off d (((W'.drewN q).setCell ⟨blk, off + x, none⟩ (eU (G y))).setCell ⟨blk, off + y, none⟩ (eU (G x))) (swp dj x y) := fun W' h q x y hx hy => by rw [hG, hG]; exact h.swap q x y hx hy
                  have AC := Lib.hid cells
                  have AP := Lib.hid swaps
                  have AG := Lib.hid hG
                  clear cells swaps hG
                  obtain ⟨hcw, hfw⟩ := AC.out _ hR1
                  have AR1 := Lib.hid hR1
                  have AD := Lib.hid hD
                  clear hR1 hD
                  by_cases hj : 1 ≤ j
                  · have hjz : (1 : Int) ≤ (j : Int) := by omega
                    go_wp2_with fail
                    go_big_quiet (first | (go_at_call 79; refine Calls.quiet_of_same (less_any _ _ _)))
                    go_wp2
                    · have hl : lt (G j) (G (j - 1)) = false := by
                        have h : (!lt (G j) (G (j - 1))) = true := by assumption
                        simpa using h
                      go_meet
                      case rel =>
                        unfold fixDown
                        rw [if_pos h2, ← AD.out, shiftDown_stop lt j dj (Or.inr (by rw [← AG.out, ← AG.out]; exact hl))]
                        exact AR1.out.drew nq
                    · have hl : lt (G j) (G (j - 1)) = true := by
                        have h : (!lt (G j) (G (j - 1))) = false := by assumption
                        simpa using h
                      go_region
                      all_goals go_wp2
                      go_roundw
                      case rel => exact ⟨j - 1, swp dj j (j - 1), by congr 1; omega, by omega, AP.out _ AR1.out (nq + 1) j (j - 1) (by omega) (by omega), by rw [← AD.out, shiftDown_go lt j dj (by omega) (by rw [← AG.out, ← AG.out]; exact hl)]⟩
                      case measure => simp [intOf]; omega
                  · have hjz : ¬ ((1 : Int) ≤ (j : Int)) := by omega
                    go_wp2
                    go_meet
                    case rel =>
                      unfold fixDown
                      rw [if_pos h2, ← AD.out, shiftDown_stop lt j dj (Or.inl (by omega))]
                      exact AR1.out
              · have h2z : ¬ ((2 : Int) ≤ (k : Int) - (a : Int)) := by omega
                go_wp2
                go_meet
                case rel =>
                  unfold fixDown
                  rw [if_neg h2]
                  exact XS.out
            case rest =>
              obtain ⟨dj, hdj⟩ : ∃ dj, dj = fixDown lt a k (swp dk k (k - 1)) := ⟨_, rfl⟩
              rw [← hdj] at hcut
              have AD := Lib.hid hdj
              have AS := Lib.hid hcut
              clear hdj hcut XS AR2 hcw hfw AC AP AG
              by_cases h3 : b - k ≥ 2
              · have h3z : (2 : Int) ≤ (b : Int) - (k : Int) := by omega
                go_wp2
                go_loopw [10] (fun s10 wr => ∃ (j : Nat) (du : Array Int), s10 = .int .i64 j ∧ k + 1 ≤ j ∧ j ≤ b ∧ SRow w blk off d wr du ∧ shiftUp lt b j du = shiftUp lt b (k + 1) dj) (fun s10 _ => b - (intOf s10).toNat)
                case atStart => exact ⟨k + 1, dj, by go_num, Nat.le_refl _, by omega, AS.out, rfl⟩
                case round =>
                  clear AS
                  obtain ⟨j, du, rfl, hkj, hjb, hR1, hU⟩ := hrel
                  obtain ⟨G, hG⟩ : ∃ G : Nat → Int, ∀ t, G t = du[t]! := ⟨fun t => du[t]!, fun _ => rfl⟩
                  have cells : ∀ W', SRow w blk off d W' du → (∀ t, t < d.size → W'.cell? ⟨blk, off + t, none⟩ = some (.int .u64 (G t))) ∧ (∀ t, t < d.size → W'.frozen? ⟨blk, off + t, none⟩ = false) := fun W' h => ⟨fun t ht => by rw [hG]; exact (h.cells AH.out t ht).1, fun t ht => (h.cells AH.out t ht).2⟩
                  have swaps : ∀ W', SRow w blk off d W' du → ∀ q x y, x < d.size → y < d.size → SRow w blk off d (((W'.drewN q).setCell ⟨blk, off + x, none⟩ (eU (G y))).setCell ⟨blk, off + y, none⟩ (eU (G x))) (swp du x y) := fun W' h q x y hx hy => by rw [hG, hG]; exact h.swap q x y hx hy
                  have AC := Lib.hid cells
                  have AP := Lib.hid swaps
                  have AG := Lib.hid hG
                  clear cells swaps hG
                  obtain ⟨hcw, hfw⟩ := AC.out _ hR1
                  have AR1 := Lib.hid hR1
                  have AU := Lib.hid hU
                  clear hR1 hU
                  by_cases hj : j < b
                  · have hjz : (j : Int) < (b : Int) := by omega
                    go_wp2_with fail
                    go_big_quiet (first | (go_at_call 79; refine Calls.quiet_of_same (less_any _ _ _)))
                    go_wp2
                    · have hl : lt (G j) (G (j - 1)) = false := by
                        have h : (!lt (G j) (G (j - 1))) = true := by assumption
                        simpa using h
                      go_roundw
                      case rel =>
                        refine ⟨k, s + 1, du, rfl, by go_num, by omega, by omega, by omega, AR1.out.drew nq, ?_⟩
                        rw [← AO.out, pi_go lt a b s i k dk hs AK.out.symm (by omega) (by omega), ← AD.out, show fixUp lt b k dj = du from by unfold fixUp; rw [if_pos h3, ← AU.out, shiftUp_stop lt b j du (Or.inr (by rw [← AG.out, ← AG.out]; exact hl))]]
                      case measure => simp [intOf]; omega
                    · have hl : lt (G j) (G (j - 1)) = true := by
                        have h : (!lt (G j) (G (j - 1))) = false := by assumption
                        simpa using h
                      go_region
                      all_goals go_wp2
                      go_roundw
                      case rel => exact ⟨j + 1, swp du j (j - 1), by go_num, by omega, by omega, AP.out _ AR1.out (nq + 1) j (j - 1) (by omega) (by omega), by rw [← AU.out, shiftUp_go lt b j du (by omega) (by rw [← AG.out, ← AG.out]; exact hl)]⟩
                      case measure => simp [intOf]; omega
                  · have hjz : ¬ ((j : Int) < (b : Int)) := by omega
                    go_wp2
                    go_roundw
                    case rel =>
                      refine ⟨k, s + 1, du, rfl, by go_num, by omega, by omega, by omega, AR1.out, ?_⟩
                      rw [← AO.out, pi_go lt a b s i k dk hs AK.out.symm (by omega) (by omega), ← AD.out, show fixUp lt b k dj = du from by unfold fixUp; rw [if_pos h3, ← AU.out, shiftUp_stop lt b j du (Or.inl hj)]]
                    case measure => simp [intOf]; omega
              · have h3z : ¬ ((2 : Int) ≤ (b : Int) - (k : Int)) := by omega
                go_wp2
                go_roundw
                case rel =>
                  refine ⟨k, s + 1, dj, rfl, by go_num, by omega, by omega, by omega, AS.out, ?_⟩
                  rw [← AO.out, pi_go lt a b s i k dk hs AK.out.symm (by omega) (by omega), ← AD.out, show fixUp lt b k dj = dj from by unfold fixUp; rw [if_neg h3]]
                case measure => simp [intOf]; omega
    · obtain rfl : s = 5 := by omega
      have hv : Sort.partialInsertionSort lt d a b = (dk, false) := by
        unfold Sort.partialInsertionSort
        rw [← AO.out, pi_end]
      rw [hv]
      clear AO hv
      go_ret
      exact ⟨rfl, AR.out⟩
end Go.Proofs.Ytmhmoebdojkbpaa
