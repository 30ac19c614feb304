/- The library's sort of words, up to twelve of them: by insertion. -/
import Derived.Test.YtpopcnebndgblaaGreatColW
import Derived.Test.YtpopcnebndgblaaGreatShelf
import Derived.Sort.WalkA
import Derived.Sort.WalkA14
import Derived.Sort.Walk13a
import Derived.Sort.LotA
import Derived.Sort.AssemblyPlain
import Derived.BigGuard
import Derived.BigCall
import Derived.CellFam
import Derived.Deep.Draws
import Derived.Deep.QuietTactic
import Derived.BigQuiet
namespace Go.Proofs.YtpopcnebndgblaaGreat
open Go.RowKit Go.Shelf Go.Sort W
set_option linter.unusedVariables false
abbrev lt : Int → Int → Bool := ltInt
theorem nan_any (x : Int) (w : World) : Calls Tryz.prog 130 #[eU x] w fun e w' => e = .returned (.bool false) ∧ w' = w := by
  go_enter Tryz.func130, Tryz.ntmps130
  go_wp2
  go_ret
  exact ⟨by simp, rfl⟩
theorem less_any (x y : Int) (w : World) : Calls Tryz.prog 137 #[eU x, eU y] w fun e w' => e = .returned (.bool (lt x y)) ∧ w' = w := by
  go_enter Tryz.func137, Tryz.ntmps137
  go_wp2_with (go_at_call 130; refine (nan_any _ _).mono ?_; rintro e w' ⟨rfl, rfl⟩)
  go_ret
  exact ⟨rfl, rfl⟩
/-- The row at blk holds dk in a world that has come of w by draws and by turns of that row alone. -/
def SRow (w : World) (blk off : Nat) (d : Array Int) (wr : World) (dk : Array Int) : Prop := dk.size = d.size ∧ ∃ n, wr = putRow eU (Sort.ahead w n) blk off dk
theorem SRow.start {w : World} {blk off : Nat} {d : Array Int} (h : Holds eU w blk off d) : SRow w blk off d w d := ⟨rfl, 0, (putRow_self eU w blk off d h).symm⟩
theorem SRow.drew {w : World} {blk off : Nat} {d dk : Array Int} {wr : World} (h : SRow w blk off d wr dk) (q : Nat) : SRow w blk off d (wr.drewN q) dk := by
  obtain ⟨hs, n, rfl⟩ := h
  exact ⟨hs, n + q, putRow_drewN _ _ _ _ _ _ _⟩
theorem SRow.cells {w : World} {blk off : Nat} {d dk : Array Int} {wr : World} (h : SRow w blk off d wr dk) (hH : Holds eU w blk off d) : ∀ t, t < d.size → wr.cell? ⟨blk, off + t, none⟩ = some (eU dk[t]!) ∧ wr.frozen? ⟨blk, off + t, none⟩ = false := by
  obtain ⟨hs, n, rfl⟩ := h
  intro t ht
  have h1 := cell?_putRow eU (Sort.ahead w n) blk off d dk (holds_ahead _ _ _ _ _ _ hH) hs t (by omega)
  have h2 := frozen?_putRow eU (Sort.ahead w n) blk off dk ⟨blk, off + t, none⟩
  have h3 := ((holds_ahead eU w n blk off d hH) t ht).2
  exact ⟨h1, h2.trans h3⟩
theorem SRow.swap {w : World} {blk off : Nat} {d dk : Array Int} {wr : World} (h : SRow w blk off d wr dk) (q j k : Nat) (hj : j < d.size) (hk : k < d.size) :
    SRow w blk off d (((wr.drewN q).setCell ⟨blk, off + j, none⟩ (eU dk[k]!)).setCell ⟨blk, off + k, none⟩ (eU dk[j]!)) (swp dk j k) := by
  obtain ⟨hs, n, rfl⟩ := h
  refine ⟨by rw [size_swp]; exact hs, n + q, ?_⟩
  exact swap_worldA (enc := eU) w n q blk off dk j k (by omega) (by omega)
set_option maxHeartbeats 4000000 in
theorem ins_any (blk off cap a b : Nat) (d : Array Int) (w : World) (hH : Holds eU w blk off d) (hab : a ≤ b) (hb : b ≤ d.size) (hsz : d.size < 4611686018427387904) :
    Calls Tryz.prog 131 #[.slice (some ⟨blk, off, none⟩) d.size cap, .int .i64 a, .int .i64 b] w fun e w' => e = .returned (.tuple #[]) ∧ SRow w blk off d w' (Sort.insertionSort lt d a b) := by
  go_enter Tryz.func131, Tryz.ntmps131
  go_wp2
  go_loopw [6] (fun vi wr => ∃ (i : Nat) (dk : Array Int), vi = .int .i64 i ∧ a < i ∧ i ≤ b + 1 ∧ SRow w blk off d wr dk ∧ insOuter lt a b i dk = insOuter lt a b (a + 1) d) (fun vi _ => b + 1 - (intOf vi).toNat)
  case atStart => exact ⟨a + 1, d, by go_num, by omega, by omega, SRow.start hH, rfl⟩
  case round =>
    obtain ⟨i, dk, rfl, hai, hib, hR, hO⟩ := hrel
    replace hO := Lib.hid hO
    replace hR := Lib.hid hR
    go_wp2
    · go_loopw [7] (fun vj wr2 => ∃ (j : Nat) (dj : Array Int), vj = .int .i64 j ∧ a ≤ j ∧ j ≤ i ∧ SRow w blk off d wr2 dj ∧ insInner lt a j dj = insInner lt a i dk) (fun vj _ => (intOf vj).toNat)
      case atStart => exact ⟨i, dk, rfl, by omega, Nat.le_refl _, hR.out, rfl⟩
      case round =>
        obtain ⟨j, dj, rfl, haj, hji, hR2, hI⟩ := hrel
        have hlt : i < b := by assumption
        obtain ⟨G, hG⟩ : ∃ G : Nat → Int, ∀ t, G t = dj[t]! := ⟨fun t => dj[t]!, fun _ => rfl⟩
        have hcw : ∀ t, t < d.size → wr.cell? ⟨blk, off + t, none⟩ = some (.int .u64 (G t)) := fun t ht => by rw [hG]; exact (hR2.cells hH t ht).1
        have hfw : ∀ t, t < d.size → wr.frozen? ⟨blk, off + t, none⟩ = false := fun t ht => (hR2.cells hH t ht).2
        have out : (j ≤ a ∨ lt (G j) (G (j - 1)) = false) → ∀ q, ∃ (i' : Nat) (dk' : Array Int), Value.int .i64 ((i : Int) + 1) = .int .i64 (i' : Nat) ∧ a < i' ∧ i' ≤ b + 1 ∧ SRow w blk off d (wr.drewN q) dk' ∧ insOuter lt a b i' dk' = insOuter lt a b (a + 1) d := fun hs q =>
          ⟨i + 1, dj, by go_num, by omega, by omega, hR2.drew q, by rw [← hO.out, insOuter_go _ _ _ _ _ hlt, ← hI, insInner_stop _ _ _ _ (by rw [← hG, ← hG]; exact hs)]⟩
        have next : a < j → lt (G j) (G (j - 1)) = true → ∀ q, SRow w blk off d (((wr.drewN q).setCell ⟨blk, off + j, none⟩ (eU (G (j - 1)))).setCell ⟨blk, off + (j - 1), none⟩ (eU (G j))) (swp dj j (j - 1)) ∧ insInner lt a (j - 1) (swp dj j (j - 1)) = insInner lt a i dk := fun h1 h2 q => by
          rw [hG, hG] at h2
          rw [hG, hG]
          exact ⟨hR2.swap q j (j - 1) (by omega) (by omega), by rw [← hI, insInner_go lt a j dj h1 h2]⟩
        replace out := Lib.hid out
        replace next := Lib.hid next
        replace hG := Lib.hid hG
        clear hI hR2 hH
        go_wp2
        by_cases hja : a < j
        · go_quiet (first | (go_at_call 137; refine Calls.quiet_of_same (less_any _ _ _)))
          go_wp2
          · have hl : lt (G j) (G (j - 1)) = true := by assumption
            go_region
            all_goals go_wp2
            go_roundw
            case rel =>
              obtain ⟨n1, n2⟩ := next.out hja hl (nq + 1)
              exact ⟨j - 1, swp dj j (j - 1), by congr 1; omega, by omega, by omega, n1, n2⟩
            case measure => simp [intOf]; omega
          · have hl : lt (G j) (G (j - 1)) = false := by assumption
            go_roundw
            case rel => exact out.out (Or.inr hl) nq
            case measure => simp [intOf]; omega
        · go_quiet (first | (go_at_call 137; refine Calls.quiet_of_same (less_any _ _ _)))
          go_wp2
          go_roundw
          case rel => exact out.out (Or.inl (by omega)) nq
          case measure => simp [intOf]; omega
    · have hge : ¬ i < b := by assumption
      go_end0
      exact ⟨rfl, by unfold Sort.insertionSort; rw [← hO.out, insOuter_stop _ _ _ _ _ hge]; exact hR.out⟩
end Go.Proofs.YtpopcnebndgblaaGreat
