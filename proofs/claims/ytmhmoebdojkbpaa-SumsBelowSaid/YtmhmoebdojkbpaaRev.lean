/- The library's reversal of a part of a row of words. -/
import Derived.Test.YtmhmoebdojkbpaaSrt
namespace Go.Proofs.Ytmhmoebdojkbpaa
open Go.RowKit Go.Shelf Go.Sort W
set_option linter.unusedVariables false
set_option maxHeartbeats 4000000 in
theorem rev_any (blk off cap a b : Nat) (d : Array Int) (w : World) (hH : Holds eU w blk off d) (hab : a ≤ b) (hb : b ≤ d.size) (hsz : d.size < 4611686018427387904) :
    Calls Try.prog 77 #[.slice (some ⟨blk, off, none⟩) d.size cap, .int .i64 a, .int .i64 b] w fun e w' => e = .returned (.tuple #[]) ∧ SRow w blk off d w' (Sort.reverseRange d a b) := by
  go_enter Try.func77, Try.ntmps77
  go_wp2
  go_loopw [6, 7] (fun s6 s7 wr => ∃ (i : Nat) (j : Int) (dk : Array Int), s6 = .int .i64 i ∧ s7 = .int .i64 j ∧ i ≤ b ∧ -1 ≤ j ∧ j < (b : Int) ∧ SRow w blk off d wr dk ∧ reverseLoop i j.toNat dk = reverseLoop a (b - 1) d) (fun s6 s7 _ => (intOf s7 - intOf s6).toNat)
  case atStart => exact ⟨a, (b : Int) - 1, d, rfl, by go_num, by omega, by omega, by omega, SRow.start hH, by congr 1; omega⟩
  case round =>
    obtain ⟨i, j, dk, rfl, rfl, hib, hj1, hj2, hR, hE⟩ := hrel
    by_cases hlt : (i : Int) < j
    · obtain ⟨jn, rfl⟩ : ∃ jn : Nat, j = jn := ⟨j.toNat, by omega⟩
      have hij : i < jn := by omega
      obtain ⟨G, hG⟩ : ∃ G : Nat → Int, ∀ t, G t = dk[t]! := ⟨fun t => dk[t]!, fun _ => rfl⟩
      have hcw : ∀ t, t < d.size → wr.cell? ⟨blk, off + t, none⟩ = some (.int .u64 (G t)) := fun t ht => by rw [hG]; exact (hR.cells hH t ht).1
      have hfw : ∀ t, t < d.size → wr.frozen? ⟨blk, off + t, none⟩ = false := fun t ht => (hR.cells hH t ht).2
      have next : ∀ q, SRow w blk off d (((wr.drewN q).setCell ⟨blk, off + i, none⟩ (eU (G jn))).setCell ⟨blk, off + jn, none⟩ (eU (G i))) (swp dk i jn) := fun q => by
        rw [hG, hG]; exact hR.swap q i jn (by omega) (by omega)
      have hE2 : reverseLoop (i + 1) ((jn : Int) - 1).toNat (swp dk i jn) = reverseLoop a (b - 1) d := by
        rw [← hE]
        have e1 : ((jn : Int)).toNat = jn := by omega
        have e2 : ((jn : Int) - 1).toNat = jn - 1 := by omega
        rw [e1, e2]
        conv => rhs; rw [reverseLoop, if_pos hij]
      have hnx := Lib.hid next
      have hEh := Lib.hid hE2
      have hjd : jn < d.size := by omega
      have hid : i < d.size := by omega
      clear next hE hE2 hG hR hH
      go_wp2_with fail
      go_region
      all_goals go_wp2
      go_roundw
      case rel => exact ⟨i + 1, (jn : Int) - 1, swp dk i jn, by go_num, by go_num, by omega, by omega, by omega, hnx.out 1, hEh.out⟩
      case measure => simp [intOf]; omega
    · go_wp2
      go_end0
      refine ⟨rfl, ?_⟩
      have : ¬ i < j.toNat := by omega
      rw [reverseLoop, if_neg this] at hE
      unfold Sort.reverseRange
      rw [← hE]
      exact hR
end Go.Proofs.Ytmhmoebdojkbpaa
