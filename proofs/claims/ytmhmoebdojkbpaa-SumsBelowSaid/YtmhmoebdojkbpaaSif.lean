/- The library's sifting of a heap of words. -/
import Derived.Test.YtmhmoebdojkbpaaSrt
import Derived.Sort.WalkB2
namespace Go.Proofs.Ytmhmoebdojkbpaa
open Go.RowKit Go.Shelf Go.Sort W
set_option linter.unusedVariables false
set_option maxHeartbeats 4000000 in
set_option maxRecDepth 100000 in
theorem sif_any (blk off cap lo hi F : Nat) (d : Array Int) (w : World) (hH : Holds eU w blk off d) (hlo : lo ≤ hi) (hb : F + hi ≤ d.size) (hsz : d.size < 4611686018427387904) :
    Calls Try.prog 86 #[.slice (some ⟨blk, off, none⟩) d.size cap, .int .i64 lo, .int .i64 hi, .int .i64 F] w fun e w' => e = .returned (.tuple #[]) ∧ SRow w blk off d w' (Sort.siftDown lt hi F lo d) := by
  go_enter Try.func86, Try.ntmps86
  go_wp2
  go_loopw [8] (fun s8 wr => ∃ (r : Nat) (dk : Array Int), s8 = .int .i64 r ∧ r ≤ hi ∧ SRow w blk off d wr dk ∧ Sort.siftDown lt hi F r dk = Sort.siftDown lt hi F lo d) (fun s8 _ => hi - (intOf s8).toNat)
  case atStart => exact ⟨lo, d, rfl, hlo, SRow.start hH, rfl⟩
  case round =>
    obtain ⟨r, dk, rfl, hr, hR, hE0⟩ := hrel
    obtain ⟨G, hG0⟩ : ∃ G : Nat → Int, ∀ t, G t = dk[t]! := ⟨fun t => dk[t]!, fun _ => rfl⟩
    have hcw : ∀ t, t < d.size → wr.cell? ⟨blk, off + t, none⟩ = some (.int .u64 (G t)) := fun t ht => by rw [hG0]; exact (hR.cells hH t ht).1
    have hfw : ∀ t, t < d.size → wr.frozen? ⟨blk, off + t, none⟩ = false := fun t ht => (hR.cells hH t ht).2
    have hRh := Lib.hid hR
    have hE := Lib.hid hE0
    have hG := Lib.hid hG0
    clear hR hE0 hG0 hH
    by_cases h0 : hi ≤ 2 * r + 1
    · have h0z : (hi : Int) ≤ 2 * (r : Int) + 1 := by omega
      go_wp2
      go_end0
      refine ⟨rfl, ?_⟩
      have e := hE.out
      rw [sd_end lt dk h0] at e
      rw [← e]
      exact hRh.out
    · have h0z : ¬ ((hi : Int) ≤ 2 * (r : Int) + 1) := by omega
      by_cases h1 : 2 * r + 2 < hi
      · have h1z : 2 * (r : Int) + 1 + 1 < (hi : Int) := by omega
        go_wp2_with fail
        go_big_quiet (first | (go_at_call 79; refine Calls.quiet_of_same (less_any _ _ _)))
        go_wp2_with fail
        · have hL : lt (G (F + 2 * r + 1)) (G (F + 2 * r + 2)) = true := by assumption
          revert nq; intro nq1
          have hcw2 : ∀ t, t < d.size → (wr.drewN nq1).cell? ⟨blk, off + t, none⟩ = some (.int .u64 (G t)) := hcw
          have hfw2 : ∀ t, t < d.size → (wr.drewN nq1).frozen? ⟨blk, off + t, none⟩ = false := hfw
          have hR2 := Lib.hid (hRh.out.drew nq1)
          clear hcw hfw hRh
          generalize wr.drewN nq1 = wr2 at hcw2 hfw2 hR2 ⊢
          have hcw := hcw2; have hfw := hfw2; have hRh := hR2; clear hcw2 hfw2 hR2
          go_big_quiet (first | (go_at_call 79; refine Calls.quiet_of_same (less_any _ _ _)))
          go_wp2_with fail
          · have hS : lt (G (F + r)) (G (F + 2 * r + 2)) = false := by
              have : (!lt (G (F + r)) (G (F + 2 * r + 2))) = true := by assumption
              simpa using this
            (try simp only [Exit.inBlock, Exit.then]); refine bodyPost_ret (results_none rfl _ _ _) rfl ?_
            refine ⟨rfl, ?_⟩
            have e := hE.out
            rw [sd_right_stop lt dk h1 (by rw [← hG.out, ← hG.out]; exact hL) (by rw [← hG.out, ← hG.out]; exact hS)] at e
            rw [← e]
            exact hRh.out.drew nq
          · have hS : lt (G (F + r)) (G (F + 2 * r + 2)) = true := by
              have : (!lt (G (F + r)) (G (F + 2 * r + 2))) = false := by assumption
              simpa using this
            have hcw3 : ∀ t, t < d.size → (wr2.drewN nq).cell? ⟨blk, off + t, none⟩ = some (.int .u64 (G t)) := hcw
            have hfw3 : ∀ t, t < d.size → (wr2.drewN nq).frozen? ⟨blk, off + t, none⟩ = false := hfw
            have hR3 := Lib.hid (hRh.out.drew nq)
            clear hcw hfw hRh
            generalize wr2.drewN nq = wr3 at hcw3 hfw3 hR3 ⊢
            go_region
            go_wp2
            go_roundw
            case rel =>
              have sw := hR3.out.swap 1 (F + r) (F + (2 * r + 2)) (by omega) (by omega)
              refine ⟨2 * r + 2, swp dk (F + r) (F + (2 * r + 2)), by go_num, by omega, ?_, ?_⟩
              · rw [← hG.out, ← hG.out] at sw
                exact sw
              · have e := hE.out
                rw [sd_right_go lt dk h1 (by rw [← hG.out, ← hG.out]; exact hL) (by rw [← hG.out, ← hG.out]; exact hS)] at e
                exact e
            case measure => simp [intOf]; omega
        · have hL : lt (G (F + 2 * r + 1)) (G (F + 2 * r + 2)) = false := by assumption
          revert nq; intro nq1
          have hcw2 : ∀ t, t < d.size → (wr.drewN nq1).cell? ⟨blk, off + t, none⟩ = some (.int .u64 (G t)) := hcw
          have hfw2 : ∀ t, t < d.size → (wr.drewN nq1).frozen? ⟨blk, off + t, none⟩ = false := hfw
          have hR2 := Lib.hid (hRh.out.drew nq1)
          clear hcw hfw hRh
          generalize wr.drewN nq1 = wr2 at hcw2 hfw2 hR2 ⊢
          have hcw := hcw2; have hfw := hfw2; have hRh := hR2; clear hcw2 hfw2 hR2
          go_big_quiet (first | (go_at_call 79; refine Calls.quiet_of_same (less_any _ _ _)))
          go_wp2_with fail
          · have hS : lt (G (F + r)) (G (F + 2 * r + 1)) = false := by
              have : (!lt (G (F + r)) (G (F + 2 * r + 1))) = true := by assumption
              simpa using this
            (try simp only [Exit.inBlock, Exit.then]); refine bodyPost_ret (results_none rfl _ _ _) rfl ?_
            refine ⟨rfl, ?_⟩
            have e := hE.out
            rw [sd_left_stop lt dk (by omega) (fun _ => by rw [← hG.out, ← hG.out]; exact hL) (by rw [← hG.out, ← hG.out]; exact hS)] at e
            rw [← e]
            exact hRh.out.drew nq
          · have hS : lt (G (F + r)) (G (F + 2 * r + 1)) = true := by
              have : (!lt (G (F + r)) (G (F + 2 * r + 1))) = false := by assumption
              simpa using this
            have hcw3 : ∀ t, t < d.size → (wr2.drewN nq).cell? ⟨blk, off + t, none⟩ = some (.int .u64 (G t)) := hcw
            have hfw3 : ∀ t, t < d.size → (wr2.drewN nq).frozen? ⟨blk, off + t, none⟩ = false := hfw
            have hR3 := Lib.hid (hRh.out.drew nq)
            clear hcw hfw hRh
            generalize wr2.drewN nq = wr3 at hcw3 hfw3 hR3 ⊢
            go_region
            go_wp2
            go_roundw
            case rel =>
              have sw := hR3.out.swap 1 (F + r) (F + (2 * r + 1)) (by omega) (by omega)
              refine ⟨2 * r + 1, swp dk (F + r) (F + (2 * r + 1)), by go_num, by omega, ?_, ?_⟩
              · rw [← hG.out, ← hG.out] at sw
                exact sw
              · have e := hE.out
                rw [sd_left_go lt dk (by omega) (fun _ => by rw [← hG.out, ← hG.out]; exact hL) (by rw [← hG.out, ← hG.out]; exact hS)] at e
                exact e
            case measure => simp [intOf]; omega
      · have h1z : decide (2 * (r : Int) + 1 + 1 < (hi : Int)) = false := decide_eq_false (by omega)
        go_wp2_with fail
        go_big_quiet (first | (go_at_call 79; refine Calls.quiet_of_same (less_any _ _ _)))
        go_wp2_with fail
        revert nq; intro nq1
        have hcw2 : ∀ t, t < d.size → (wr.drewN nq1).cell? ⟨blk, off + t, none⟩ = some (.int .u64 (G t)) := hcw
        have hfw2 : ∀ t, t < d.size → (wr.drewN nq1).frozen? ⟨blk, off + t, none⟩ = false := hfw
        have hR2 := Lib.hid (hRh.out.drew nq1)
        clear hcw hfw hRh
        generalize wr.drewN nq1 = wr2 at hcw2 hfw2 hR2 ⊢
        have hcw := hcw2; have hfw := hfw2; have hRh := hR2; clear hcw2 hfw2 hR2
        go_big_quiet (first | (go_at_call 79; refine Calls.quiet_of_same (less_any _ _ _)))
        go_wp2_with fail
        · have hS : lt (G (F + r)) (G (F + 2 * r + 1)) = false := by
            have : (!lt (G (F + r)) (G (F + 2 * r + 1))) = true := by assumption
            simpa using this
          (try simp only [Exit.inBlock, Exit.then]); refine bodyPost_ret (results_none rfl _ _ _) rfl ?_
          refine ⟨rfl, ?_⟩
          have e := hE.out
          rw [sd_left_stop lt dk (by omega) (fun hx => absurd hx h1) (by rw [← hG.out, ← hG.out]; exact hS)] at e
          rw [← e]
          exact hRh.out.drew nq
        · have hS : lt (G (F + r)) (G (F + 2 * r + 1)) = true := by
            have : (!lt (G (F + r)) (G (F + 2 * r + 1))) = false := by assumption
            simpa using this
          have hcw3 : ∀ t, t < d.size → (wr2.drewN nq).cell? ⟨blk, off + t, none⟩ = some (.int .u64 (G t)) := hcw
          have hfw3 : ∀ t, t < d.size → (wr2.drewN nq).frozen? ⟨blk, off + t, none⟩ = false := hfw
          have hR3 := Lib.hid (hRh.out.drew nq)
          clear hcw hfw hRh
          generalize wr2.drewN nq = wr3 at hcw3 hfw3 hR3 ⊢
          go_region
          go_wp2
          go_roundw
          case rel =>
            have sw := hR3.out.swap 1 (F + r) (F + (2 * r + 1)) (by omega) (by omega)
            refine ⟨2 * r + 1, swp dk (F + r) (F + (2 * r + 1)), by go_num, by omega, ?_, ?_⟩
            · rw [← hG.out, ← hG.out] at sw
              exact sw
            · have e := hE.out
              rw [sd_left_go lt dk (by omega) (fun hx => absurd hx h1) (by rw [← hG.out, ← hG.out]; exact hS)] at e
              exact e
          case measure => simp [intOf]; omega
end Go.Proofs.Ytmhmoebdojkbpaa
