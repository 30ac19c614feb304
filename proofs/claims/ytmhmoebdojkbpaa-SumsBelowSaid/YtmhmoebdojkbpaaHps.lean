/- The library's heap sort of a part of a row of words. -/
import Derived.Test.YtmhmoebdojkbpaaSif
import Derived.Sort.WalkB3
namespace Go.Proofs.Ytmhmoebdojkbpaa
open Go.RowKit Go.Shelf Go.Sort W
set_option linter.unusedVariables false
theorem SRow.holds {w : World} {blk off : Nat} {d dk : Array Int} {wr : World} (h : SRow w blk off d wr dk) (hH : Holds eU w blk off d) : Holds eU wr blk off dk := by
  obtain ⟨hs, n, rfl⟩ := h
  exact holds_putRow eU _ blk off d dk (holds_ahead eU w n blk off d hH) hs
theorem SRow.trans {w : World} {blk off : Nat} {d dk de : Array Int} {wr w' : World} (h : SRow w blk off d wr dk) (h' : SRow wr blk off dk w' de) : SRow w blk off d w' de := by
  obtain ⟨hs, n, rfl⟩ := h
  obtain ⟨hs', m, rfl⟩ := h'
  exact ⟨hs'.trans hs, n + m, putRow_ahead_putRow eU w n m blk off _ _ hs'⟩
theorem hb_go (hi F k : Nat) (d : Array Int) : Sort.heapBuild lt hi F (k + 1) d = Sort.heapBuild lt hi F k (Sort.siftDown lt hi F k d) := rfl
theorem hp_go (F k : Nat) (d : Array Int) : Sort.heapPop lt F (k + 1) d = Sort.heapPop lt F k (Sort.siftDown lt k F 0 (swp d F (F + k))) := rfl
set_option maxHeartbeats 2000000 in
set_option maxRecDepth 100000 in
theorem hps_any (blk off cap a b : Nat) (d : Array Int) (w : World) (hH : Holds eU w blk off d) (hab : a ≤ b) (hb : b ≤ d.size) (hsz : d.size < 4611686018427387904) :
    Calls Try.prog 74 #[.slice (some ⟨blk, off, none⟩) d.size cap, .int .i64 a, .int .i64 b] w fun e w' => e = .returned (.tuple #[]) ∧ SRow w blk off d w' (Sort.heapSort lt d a b) := by
  have hba : ((b - a : Nat) : Int) = (b : Int) - (a : Int) := by omega
  have hst := half_start hab
  go_enter Try.func74, Try.ntmps74
  go_wp2
  go_loopw [9] (fun s9 wr => ∃ (j : Int) (dk : Array Int), s9 = .int .i64 j ∧ -1 ≤ j ∧ j ≤ (b : Int) - (a : Int) ∧ SRow w blk off d wr dk ∧ Sort.heapBuild lt (b - a) a (j + 1).toNat dk = Sort.heapBuild lt (b - a) a ((b - a - 1) / 2 + 1) d) (fun s9 _ => (intOf s9 + 1).toNat)
  case atStart => exact ⟨((b : Int) - (a : Int) - 1).tdiv 2, d, by go_num, by omega, by omega, SRow.start hH, by congr 1; omega⟩
  case round =>
    obtain ⟨j, dk, rfl, hj1, hj2, hR, hE⟩ := hrel
    by_cases hlt : 0 ≤ j
    · obtain ⟨jn, rfl⟩ : ∃ jn : Nat, j = jn := ⟨j.toNat, by omega⟩
      have hc := sif_any blk off cap jn (b - a) a dk wr (hR.holds hH) (by omega) (by rw [hR.1]; omega) (by rw [hR.1]; omega)
      rw [hR.1, hba] at hc
      have hRh := Lib.hid hR
      have hEh := Lib.hid hE
      clear hR hE
      go_wp2_with (go_at_call 86; refine hc.mono ?_; rintro e w' ⟨rfl, hS⟩)
      go_roundw
      case rel => exact ⟨(jn : Int) - 1, Sort.siftDown lt (b - a) a jn dk, by go_num, by omega, by omega, hRh.out.trans hS, by have e := hEh.out; rw [show ((jn : Int) + 1).toNat = jn + 1 by omega, hb_go] at e; rw [show ((jn : Int) - 1 + 1).toNat = jn by omega]; exact e⟩
      case measure => simp [intOf] <;> omega
    · obtain rfl : j = -1 := by omega
      have hE2 : dk = Sort.heapBuild lt (b - a) a ((b - a - 1) / 2 + 1) d := hE
      have hRh := Lib.hid hR
      clear hR hE
      go_wp2
      go_loopw [10] (fun s10 wr => ∃ (j : Int) (dj : Array Int), s10 = .int .i64 j ∧ -1 ≤ j ∧ j + 1 ≤ (b : Int) - (a : Int) ∧ SRow w blk off d wr dj ∧ Sort.heapPop lt a (j + 1).toNat dj = Sort.heapPop lt a (b - a) dk) (fun s10 _ => (intOf s10 + 1).toNat)
      case atStart => exact ⟨(b : Int) - (a : Int) - 1, dk, by go_num, by omega, by omega, hRh.out, by congr 1; omega⟩
      case round =>
        obtain ⟨j, dj, rfl, hj1, hj2, hR, hE⟩ := hrel
        by_cases hlt : 0 ≤ j
        · obtain ⟨jn, rfl⟩ : ∃ jn : Nat, j = jn := ⟨j.toNat, by omega⟩
          obtain ⟨G, hG⟩ : ∃ G : Nat → Int, ∀ t, G t = dj[t]! := ⟨fun t => dj[t]!, fun _ => rfl⟩
          have hcw : ∀ t, t < d.size → wr.cell? ⟨blk, off + t, none⟩ = some (.int .u64 (G t)) := fun t ht => by rw [hG]; exact (hR.cells hH t ht).1
          have hfw : ∀ t, t < d.size → wr.frozen? ⟨blk, off + t, none⟩ = false := fun t ht => (hR.cells hH t ht).2
          have hc : ∀ wx, SRow w blk off d wx (swp dj a (a + jn)) → Calls Try.prog 86 #[.slice (some ⟨blk, off, none⟩) d.size cap, .int .i64 0, .int .i64 jn, .int .i64 a] wx fun e w' => e = .returned (.tuple #[]) ∧ SRow wx blk off (swp dj a (a + jn)) w' (Sort.siftDown lt jn a 0 (swp dj a (a + jn))) := fun wx hx => by
            have h := sif_any blk off cap 0 jn a (swp dj a (a + jn)) wx (hx.holds hH) (by omega) (by rw [hx.1]; omega) (by rw [hx.1]; omega)
            rw [hx.1] at h
            exact h
          have next : ∀ q, SRow w blk off d (((wr.drewN q).setCell ⟨blk, off + a, none⟩ (eU (G (a + jn)))).setCell ⟨blk, off + (a + jn), none⟩ (eU (G a))) (swp dj a (a + jn)) := fun q => by
            rw [hG, hG]; exact hR.swap q a (a + jn) (by omega) (by omega)
          have hEh := Lib.hid hE
          have hn := Lib.hid next
          have hHh := Lib.hid hH
          clear hR hE next hH hG
          by_cases hz : jn = 0
          · subst hz
            have hc0 : ∀ wx, SRow w blk off d wx (swp dj a a) → Calls Try.prog 86 #[.slice (some ⟨blk, off, none⟩) d.size cap, .int .i64 0, .int .i64 0, .int .i64 a] wx fun e w' => e = .returned (.tuple #[]) ∧ SRow wx blk off (swp dj a a) w' (Sort.siftDown lt 0 a 0 (swp dj a a)) := hc
            have hn0 : Go.RowKit.Hid (∀ q, SRow w blk off d (((wr.drewN q).setCell ⟨blk, off + a, none⟩ (eU (G a))).setCell ⟨blk, off + a, none⟩ (eU (G a))) (swp dj a a)) := hn
            clear hn hc
            go_wp2_with fail
            go_region
            all_goals go_wp2_with (go_at_call 86; refine (hc0 _ (hn0.out 1)).mono ?_; rintro e w' ⟨rfl, hS⟩)
            go_roundw
            case rel => exact ⟨-1, _, by go_num, by omega, by omega, (hn0.out 1).trans hS, by have e := hEh.out; exact e⟩
            case measure => simp [intOf] <;> omega
          · go_wp2_with fail
            go_region
            all_goals go_wp2_with (go_at_call 86; refine (hc _ (hn.out 1)).mono ?_; rintro e w' ⟨rfl, hS⟩)
            go_roundw
            case rel => exact ⟨(jn : Int) - 1, _, by go_num, by omega, by omega, (hn.out 1).trans hS, by have e := hEh.out; rw [show ((jn : Int) + 1).toNat = jn + 1 by omega, hp_go] at e; rw [show ((jn : Int) - 1 + 1).toNat = jn by omega]; exact e⟩
            case measure => simp [intOf] <;> omega
        · obtain rfl : j = -1 := by omega
          have hE3 : dj = Sort.heapPop lt a (b - a) dk := hE
          go_wp2
          go_end0
          refine ⟨rfl, ?_⟩
          unfold Sort.heapSort
          rw [← hE2, ← hE3]
          exact hR
end Go.Proofs.Ytmhmoebdojkbpaa
