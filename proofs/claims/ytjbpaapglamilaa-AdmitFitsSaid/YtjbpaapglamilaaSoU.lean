/- The library's sort of words, walked whole. No condition but the length. -/
import Derived.Test.YtjbpaapglamilaaCoU
import Derived.Test.YtjbpaapglamilaaShelf
import Derived.Sort.WalkA
import Derived.Sort.WalkA14
import Derived.Sort.Walk13a
import Derived.Sort.LotA
import Derived.Sort.AssemblyPlain
import Derived.BigGuard
import Derived.BigCall
import Derived.CellFam
import Derived.Deep.Draws
import Derived.Deep.QuietTactic
import Derived.BigQuiet
import Derived.Sort.WalkB2
import Derived.Sort.WalkB3
import Derived.Sort.Walk7a
import Derived.Sort.WalkD1
import Derived.Sort.Walk11
import Derived.Sort.Walk7
import Derived.Sort.WalkC
import Derived.Deep.DeepCutAuto
import Derived.Deep.CutBlock
import Derived.Sort.WalkC4
import Derived.Sort.WalkA6
import Derived.Deep.CutRange
namespace Go.Proofs.Ytjbpaapglamilaa
open Go.RowKit Go.Shelf Go.Sort W
set_option linter.unusedVariables false
abbrev lt : Int → Int → Bool := ltInt
theorem nan_any (x : Int) (w : World) : Calls Try.prog 120 #[eU x] w fun e w' => e = .returned (.bool false) ∧ w' = w := by
  go_enter Try.func120, Try.ntmps120
  go_wp2
  go_ret
  exact ⟨by simp, rfl⟩
theorem less_any (x y : Int) (w : World) : Calls Try.prog 114 #[eU x, eU y] w fun e w' => e = .returned (.bool (lt x y)) ∧ w' = w := by
  go_enter Try.func114, Try.ntmps114
  go_wp2_with (go_at_call 120; refine (nan_any _ _).mono ?_; rintro e w' ⟨rfl, rfl⟩)
  go_ret
  exact ⟨rfl, rfl⟩
/-- The row at blk holds dk in a world that has come of w by draws and by turns of that row alone. -/
def SRow (w : World) (blk off : Nat) (d : Array Int) (wr : World) (dk : Array Int) : Prop := dk.size = d.size ∧ ∃ n, wr = putRow eU (Sort.ahead w n) blk off dk
theorem SRow.start {w : World} {blk off : Nat} {d : Array Int} (h : Holds eU w blk off d) : SRow w blk off d w d := ⟨rfl, 0, (putRow_self eU w blk off d h).symm⟩
theorem SRow.drew {w : World} {blk off : Nat} {d dk : Array Int} {wr : World} (h : SRow w blk off d wr dk) (q : Nat) : SRow w blk off d (wr.drewN q) dk := by
  obtain ⟨hs, n, rfl⟩ := h
  exact ⟨hs, n + q, putRow_drewN _ _ _ _ _ _ _⟩
theorem SRow.cells {w : World} {blk off : Nat} {d dk : Array Int} {wr : World} (h : SRow w blk off d wr dk) (hH : Holds eU w blk off d) : ∀ t, t < d.size → wr.cell? ⟨blk, off + t, none⟩ = some (eU dk[t]!) ∧ wr.frozen? ⟨blk, off + t, none⟩ = false := by
  obtain ⟨hs, n, rfl⟩ := h
  intro t ht
  have h1 := cell?_putRow eU (Sort.ahead w n) blk off d dk (holds_ahead _ _ _ _ _ _ hH) hs t (by omega)
  have h2 := frozen?_putRow eU (Sort.ahead w n) blk off dk ⟨blk, off + t, none⟩
  have h3 := ((holds_ahead eU w n blk off d hH) t ht).2
  exact ⟨h1, h2.trans h3⟩
theorem SRow.swap {w : World} {blk off : Nat} {d dk : Array Int} {wr : World} (h : SRow w blk off d wr dk) (q j k : Nat) (hj : j < d.size) (hk : k < d.size) :
    SRow w blk off d (((wr.drewN q).setCell ⟨blk, off + j, none⟩ (eU dk[k]!)).setCell ⟨blk, off + k, none⟩ (eU dk[j]!)) (swp dk j k) := by
  obtain ⟨hs, n, rfl⟩ := h
  refine ⟨by rw [size_swp]; exact hs, n + q, ?_⟩
  exact swap_worldA (enc := eU) w n q blk off dk j k (by omega) (by omega)
set_option maxHeartbeats 4000000 in
theorem ins_any (blk off cap a b : Nat) (d : Array Int) (w : World) (hH : Holds eU w blk off d) (hab : a ≤ b) (hb : b ≤ d.size) (hsz : d.size < 4611686018427387904) :
    Calls Try.prog 108 #[.slice (some ⟨blk, off, none⟩) d.size cap, .int .i64 a, .int .i64 b] w fun e w' => e = .returned (.tuple #[]) ∧ SRow w blk off d w' (Sort.insertionSort lt d a b) := by
  go_enter Try.func108, Try.ntmps108
  go_wp2
  go_loopw [6] (fun vi wr => ∃ (i : Nat) (dk : Array Int), vi = .int .i64 i ∧ a < i ∧ i ≤ b + 1 ∧ SRow w blk off d wr dk ∧ insOuter lt a b i dk = insOuter lt a b (a + 1) d) (fun vi _ => b + 1 - (intOf vi).toNat)
  case atStart => exact ⟨a + 1, d, by go_num, by omega, by omega, SRow.start hH, rfl⟩
  case round =>
    obtain ⟨i, dk, rfl, hai, hib, hR, hO⟩ := hrel
    replace hO := Lib.hid hO
    replace hR := Lib.hid hR
    go_wp2
    · go_loopw [7] (fun vj wr2 => ∃ (j : Nat) (dj : Array Int), vj = .int .i64 j ∧ a ≤ j ∧ j ≤ i ∧ SRow w blk off d wr2 dj ∧ insInner lt a j dj = insInner lt a i dk) (fun vj _ => (intOf vj).toNat)
      case atStart => exact ⟨i, dk, rfl, by omega, Nat.le_refl _, hR.out, rfl⟩
      case round =>
        obtain ⟨j, dj, rfl, haj, hji, hR2, hI⟩ := hrel
        have hlt : i < b := by assumption
        obtain ⟨G, hG⟩ : ∃ G : Nat → Int, ∀ t, G t = dj[t]! := ⟨fun t => dj[t]!, fun _ => rfl⟩
        have hcw : ∀ t, t < d.size → wr.cell? ⟨blk, off + t, none⟩ = some (.int .u64 (G t)) := fun t ht => by rw [hG]; exact (hR2.cells hH t ht).1
        have hfw : ∀ t, t < d.size → wr.frozen? ⟨blk, off + t, none⟩ = false := fun t ht => (hR2.cells hH t ht).2
        have out : (j ≤ a ∨ lt (G j) (G (j - 1)) = false) → ∀ q, ∃ (i' : Nat) (dk' : Array Int), Value.int .i64 ((i : Int) + 1) = .int .i64 (i' : Nat) ∧ a < i' ∧ i' ≤ b + 1 ∧ SRow w blk off d (wr.drewN q) dk' ∧ insOuter lt a b i' dk' = insOuter lt a b (a + 1) d := fun hs q =>
          ⟨i + 1, dj, by go_num, by omega, by omega, hR2.drew q, by rw [← hO.out, insOuter_go _ _ _ _ _ hlt, ← hI, insInner_stop _ _ _ _ (by rw [← hG, ← hG]; exact hs)]⟩
        have next : a < j → lt (G j) (G (j - 1)) = true → ∀ q, SRow w blk off d (((wr.drewN q).setCell ⟨blk, off + j, none⟩ (eU (G (j - 1)))).setCell ⟨blk, off + (j - 1), none⟩ (eU (G j))) (swp dj j (j - 1)) ∧ insInner lt a (j - 1) (swp dj j (j - 1)) = insInner lt a i dk := fun h1 h2 q => by
          rw [hG, hG] at h2
          rw [hG, hG]
          exact ⟨hR2.swap q j (j - 1) (by omega) (by omega), by rw [← hI, insInner_go lt a j dj h1 h2]⟩
        replace out := Lib.hid out
        replace next := Lib.hid next
        replace hG := Lib.hid hG
        clear hI hR2 hH
        go_wp2
        by_cases hja : a < j
        · go_quiet (first | (go_at_call 114; refine Calls.quiet_of_same (less_any _ _ _)))
          go_wp2
          · have hl : lt (G j) (G (j - 1)) = true := by assumption
            go_region
            all_goals go_wp2
            go_roundw
            case rel =>
              obtain ⟨n1, n2⟩ := next.out hja hl (nq + 1)
              exact ⟨j - 1, swp dj j (j - 1), by congr 1; omega, by omega, by omega, n1, n2⟩
            case measure => simp [intOf]; omega
          · have hl : lt (G j) (G (j - 1)) = false := by assumption
            go_roundw
            case rel => exact out.out (Or.inr hl) nq
            case measure => simp [intOf]; omega
        · go_quiet (first | (go_at_call 114; refine Calls.quiet_of_same (less_any _ _ _)))
          go_wp2
          go_roundw
          case rel => exact out.out (Or.inl (by omega)) nq
          case measure => simp [intOf]; omega
    · have hge : ¬ i < b := by assumption
      go_end0
      exact ⟨rfl, by unfold Sort.insertionSort; rw [← hO.out, insOuter_stop _ _ _ _ _ hge]; exact hR.out⟩
end Go.Proofs.Ytjbpaapglamilaa

namespace Go.Proofs.Ytjbpaapglamilaa
open Go.RowKit Go.Shelf Go.Sort W
set_option linter.unusedVariables false
set_option maxRecDepth 100000 in
set_option maxHeartbeats 2000000 in
theorem pdq12_any (blk off cap a b limit : Nat) (d : Array Int) (w : World) (hH : Holds eU w blk off d) (hab : a ≤ b) (hb : b ≤ d.size) (hsz : d.size < 4611686018427387904) (h12 : b - a ≤ 12) :
    Calls Try.prog 104 #[.slice (some ⟨blk, off, none⟩) d.size cap, .int .i64 a, .int .i64 b, .int .i64 limit] w fun e w' => e = .returned (.tuple #[]) ∧ SRow w blk off d w' (Sort.insertionSort lt d a b) := by
  have cI := ins_any blk off cap a b d w hH hab hb hsz
  go_enter Try.func104, Try.ntmps104
  go_wp2
  go_loopw [1, 2, 3, 8, 9] (fun v1 v2 v3 v8 v9 wr => v1 = .int .i64 a ∧ v2 = .int .i64 b ∧ v3 = .int .i64 limit ∧ v8 = .bool true ∧ v9 = .bool true ∧ wr = w) (fun _ _ _ _ _ _ => 0)
  case atStart => exact ⟨rfl, rfl, rfl, rfl, rfl, rfl⟩
  case round =>
    obtain ⟨rfl, rfl, rfl, rfl, rfl, rfl⟩ := hrel
    have hz : ((b : Int) - (a : Int) ≤ 12) := by omega
    go_wp2_with (go_at_call 108; refine cI.mono ?_; rintro e w1 ⟨rfl, hR⟩)
    (try simp only [Exit.inBlock, Exit.then])
    refine bodyPost_ret (results_none rfl _ _ _) rfl ?_
    exact ⟨rfl, hR⟩
/-- Nothing at all: the nil slice. -/
theorem ins0_any (w : World) : Calls Try.prog 108 #[.slice none 0 0, .int .i64 0, .int .i64 0] w fun e w' => e = .returned (.tuple #[]) ∧ Below w.heap.size w w' := by
  go_enter Try.func108, Try.ntmps108
  go_wp2
  go_loopw [6] (fun v wr => v = .int .i64 1 ∧ wr = w) (fun _ _ => 0)
  case atStart => exact ⟨rfl, rfl⟩
  case round =>
    obtain ⟨rfl, rfl⟩ := hrel
    go_wp2
    go_end0
    exact ⟨rfl, Below.refl _ _⟩
set_option maxRecDepth 100000 in
set_option maxHeartbeats 2000000 in
theorem pdq0_any (limit : Int) (w : World) : Calls Try.prog 104 #[.slice none 0 0, .int .i64 0, .int .i64 0, .int .i64 limit] w fun e w' => e = .returned (.tuple #[]) ∧ Below w.heap.size w w' := by
  have cI := ins0_any w
  go_enter Try.func104, Try.ntmps104
  go_wp2
  go_loopw [1, 2, 3, 8, 9] (fun v1 v2 v3 v8 v9 wr => v1 = .int .i64 0 ∧ v2 = .int .i64 0 ∧ v3 = .int .i64 limit ∧ v8 = .bool true ∧ v9 = .bool true ∧ wr = w) (fun _ _ _ _ _ _ => 0)
  case atStart => exact ⟨rfl, rfl, rfl, rfl, rfl, rfl⟩
  case round =>
    obtain ⟨rfl, rfl, rfl, rfl, rfl, rfl⟩ := hrel
    go_wp2_with (go_at_call 108; refine cI.mono ?_; rintro e w1 ⟨rfl, hR⟩)
    (try simp only [Exit.inBlock, Exit.then])
    refine bodyPost_ret (results_none rfl _ _ _) rfl ?_
    exact ⟨rfl, hR⟩
theorem sorted_list {d d' : Array Int} (hP : PermIn 0 d.size d d') (hS : SortedIn lt 0 d.size d') : List.Perm d'.toList d.toList ∧ d'.toList.Pairwise (· ≤ ·) := by
  obtain ⟨h1, _, h3⟩ := hP
  have e1 : d'.extract 0 d.size = d' := by rw [← h1]; simp
  have e2 : d.extract 0 d.size = d := by simp
  rw [e1, e2] at h3
  refine ⟨h3, List.pairwise_iff_getElem.2 fun i j hi hj hij => ?_⟩
  have hi' : i < d'.size := by simpa using hi
  have hj' : j < d'.size := by simpa using hj
  have := hS i j (Nat.zero_le _) hij (by omega)
  rw [getElem!_pos d' i hi', getElem!_pos d' j hj'] at this
  simp only [ltInt, decide_eq_false_iff_not] at this
  simp only [Array.getElem_toList]
  omega
set_option maxHeartbeats 2000000 in
theorem sort12 : SortU 12 := by
  refine ⟨fun blk cap ss W hH hblk hw hm => ?_, fun W => ?_⟩
  · have hsz : ss.toArray.size = ss.length := by simp
    have cP := fun limit : Nat => pdq12_any blk 0 cap 0 ss.length limit ss.toArray W hH (Nat.zero_le _) (by simp) (by simp; omega) (by omega)
    rw [hsz] at cP
    have cB := Try.bits_Len ss.length W (by omega) (by omega)
    refine Calls.mono (R := fun e w' => e = .returned (.tuple #[]) ∧ SRow W blk 0 ss.toArray w' (Sort.insertionSort lt ss.toArray 0 ss.length)) ?_ ?_
    · go_enter Try.func90, Try.ntmps90
      go_wp2_with (first
        | (go_at_call 63; refine cB.mono ?_; rintro e w1 ⟨rfl, rfl⟩)
        | (go_at_call 104; refine (cP _).mono ?_; rintro e w1 ⟨rfl, hR⟩))
      go_end0
      exact ⟨rfl, hR⟩
    · rintro e w' ⟨rfl, hs, n, rfl⟩
      obtain ⟨hP, hS⟩ := insertionSort_holds (lt := lt) swo_ltInt ss.toArray 0 ss.length (Nat.zero_le _) (by simp)
      rw [← hsz] at hP hS
      obtain ⟨h1, h2⟩ := sorted_list hP hS
      rw [hsz] at h1 h2
      exact ⟨rfl, _, n, #[], h1, h2, by simp [grow_empty]⟩
  · go_enter Try.func90, Try.ntmps90
    have cB := Try.bits_Len 0 W (by omega) (by omega)
    have cP := pdq0_any 0 W
    go_wp2_with (first
      | (go_at_call 63; refine cB.mono ?_; rintro e w1 ⟨rfl, rfl⟩)
      | (go_at_call 104; refine (cP).mono ?_; rintro e w1 ⟨rfl, hR⟩))
    go_end0
    exact ⟨rfl, hR⟩
end Go.Proofs.Ytjbpaapglamilaa

namespace Go.Proofs.Ytjbpaapglamilaa
open Go.RowKit Go.Shelf Go.Sort W
set_option linter.unusedVariables false
set_option maxHeartbeats 4000000 in
theorem rev_any (blk off cap a b : Nat) (d : Array Int) (w : World) (hH : Holds eU w blk off d) (hab : a ≤ b) (hb : b ≤ d.size) (hsz : d.size < 4611686018427387904) :
    Calls Try.prog 112 #[.slice (some ⟨blk, off, none⟩) d.size cap, .int .i64 a, .int .i64 b] w fun e w' => e = .returned (.tuple #[]) ∧ SRow w blk off d w' (Sort.reverseRange d a b) := by
  go_enter Try.func112, Try.ntmps112
  go_wp2
  go_loopw [6, 7] (fun s6 s7 wr => ∃ (i : Nat) (j : Int) (dk : Array Int), s6 = .int .i64 i ∧ s7 = .int .i64 j ∧ i ≤ b ∧ -1 ≤ j ∧ j < (b : Int) ∧ SRow w blk off d wr dk ∧ reverseLoop i j.toNat dk = reverseLoop a (b - 1) d) (fun s6 s7 _ => (intOf s7 - intOf s6).toNat)
  case atStart => exact ⟨a, (b : Int) - 1, d, rfl, by go_num, by omega, by omega, by omega, SRow.start hH, by congr 1; omega⟩
  case round =>
    obtain ⟨i, j, dk, rfl, rfl, hib, hj1, hj2, hR, hE⟩ := hrel
    by_cases hlt : (i : Int) < j
    · obtain ⟨jn, rfl⟩ : ∃ jn : Nat, j = jn := ⟨j.toNat, by omega⟩
      have hij : i < jn := by omega
      obtain ⟨G, hG⟩ : ∃ G : Nat → Int, ∀ t, G t = dk[t]! := ⟨fun t => dk[t]!, fun _ => rfl⟩
      have hcw : ∀ t, t < d.size → wr.cell? ⟨blk, off + t, none⟩ = some (.int .u64 (G t)) := fun t ht => by rw [hG]; exact (hR.cells hH t ht).1
      have hfw : ∀ t, t < d.size → wr.frozen? ⟨blk, off + t, none⟩ = false := fun t ht => (hR.cells hH t ht).2
      have next : ∀ q, SRow w blk off d (((wr.drewN q).setCell ⟨blk, off + i, none⟩ (eU (G jn))).setCell ⟨blk, off + jn, none⟩ (eU (G i))) (swp dk i jn) := fun q => by
        rw [hG, hG]; exact hR.swap q i jn (by omega) (by omega)
      have hE2 : reverseLoop (i + 1) ((jn : Int) - 1).toNat (swp dk i jn) = reverseLoop a (b - 1) d := by
        rw [← hE]
        have e1 : ((jn : Int)).toNat = jn := by omega
        have e2 : ((jn : Int) - 1).toNat = jn - 1 := by omega
        rw [e1, e2]
        conv => rhs; rw [reverseLoop, if_pos hij]
      have hnx := Lib.hid next
      have hEh := Lib.hid hE2
      have hjd : jn < d.size := by omega
      have hid : i < d.size := by omega
      clear next hE hE2 hG hR hH
      go_wp2_with fail
      go_region
      all_goals go_wp2
      go_roundw
      case rel => exact ⟨i + 1, (jn : Int) - 1, swp dk i jn, by go_num, by go_num, by omega, by omega, by omega, hnx.out 1, hEh.out⟩
      case measure => simp [intOf]; omega
    · go_wp2
      go_end0
      refine ⟨rfl, ?_⟩
      have : ¬ i < j.toNat := by omega
      rw [reverseLoop, if_neg this] at hE
      unfold Sort.reverseRange
      rw [← hE]
      exact hR
end Go.Proofs.Ytjbpaapglamilaa

namespace Go.Proofs.Ytjbpaapglamilaa
open Go.RowKit Go.Shelf Go.Sort W
set_option linter.unusedVariables false
set_option maxHeartbeats 4000000 in
set_option maxRecDepth 100000 in
theorem sif_any (blk off cap lo hi F : Nat) (d : Array Int) (w : World) (hH : Holds eU w blk off d) (hlo : lo ≤ hi) (hb : F + hi ≤ d.size) (hsz : d.size < 4611686018427387904) :
    Calls Try.prog 117 #[.slice (some ⟨blk, off, none⟩) d.size cap, .int .i64 lo, .int .i64 hi, .int .i64 F] w fun e w' => e = .returned (.tuple #[]) ∧ SRow w blk off d w' (Sort.siftDown lt hi F lo d) := by
  go_enter Try.func117, Try.ntmps117
  go_wp2
  go_loopw [8] (fun s8 wr => ∃ (r : Nat) (dk : Array Int), s8 = .int .i64 r ∧ r ≤ hi ∧ SRow w blk off d wr dk ∧ Sort.siftDown lt hi F r dk = Sort.siftDown lt hi F lo d) (fun s8 _ => hi - (intOf s8).toNat)
  case atStart => exact ⟨lo, d, rfl, hlo, SRow.start hH, rfl⟩
  case round =>
    obtain ⟨r, dk, rfl, hr, hR, hE0⟩ := hrel
    obtain ⟨G, hG0⟩ : ∃ G : Nat → Int, ∀ t, G t = dk[t]! := ⟨fun t => dk[t]!, fun _ => rfl⟩
    have hcw : ∀ t, t < d.size → wr.cell? ⟨blk, off + t, none⟩ = some (.int .u64 (G t)) := fun t ht => by rw [hG0]; exact (hR.cells hH t ht).1
    have hfw : ∀ t, t < d.size → wr.frozen? ⟨blk, off + t, none⟩ = false := fun t ht => (hR.cells hH t ht).2
    have hRh := Lib.hid hR
    have hE := Lib.hid hE0
    have hG := Lib.hid hG0
    clear hR hE0 hG0 hH
    by_cases h0 : hi ≤ 2 * r + 1
    · have h0z : (hi : Int) ≤ 2 * (r : Int) + 1 := by omega
      go_wp2
      go_end0
      refine ⟨rfl, ?_⟩
      have e := hE.out
      rw [sd_end lt dk h0] at e
      rw [← e]
      exact hRh.out
    · have h0z : ¬ ((hi : Int) ≤ 2 * (r : Int) + 1) := by omega
      by_cases h1 : 2 * r + 2 < hi
      · have h1z : 2 * (r : Int) + 1 + 1 < (hi : Int) := by omega
        go_wp2_with fail
        go_big_quiet (first | (go_at_call 114; refine Calls.quiet_of_same (less_any _ _ _)))
        go_wp2_with fail
        · have hL : lt (G (F + 2 * r + 1)) (G (F + 2 * r + 2)) = true := by assumption
          revert nq; intro nq1
          have hcw2 : ∀ t, t < d.size → (wr.drewN nq1).cell? ⟨blk, off + t, none⟩ = some (.int .u64 (G t)) := hcw
          have hfw2 : ∀ t, t < d.size → (wr.drewN nq1).frozen? ⟨blk, off + t, none⟩ = false := hfw
          have hR2 := Lib.hid (hRh.out.drew nq1)
          clear hcw hfw hRh
          generalize wr.drewN nq1 = wr2 at hcw2 hfw2 hR2 ⊢
          have hcw := hcw2; have hfw := hfw2; have hRh := hR2; clear hcw2 hfw2 hR2
          go_big_quiet (first | (go_at_call 114; refine Calls.quiet_of_same (less_any _ _ _)))
          go_wp2_with fail
          · have hS : lt (G (F + r)) (G (F + 2 * r + 2)) = false := by
              have : (!lt (G (F + r)) (G (F + 2 * r + 2))) = true := by assumption
              simpa using this
            (try simp only [Exit.inBlock, Exit.then]); refine bodyPost_ret (results_none rfl _ _ _) rfl ?_
            refine ⟨rfl, ?_⟩
            have e := hE.out
            rw [sd_right_stop lt dk h1 (by rw [← hG.out, ← hG.out]; exact hL) (by rw [← hG.out, ← hG.out]; exact hS)] at e
            rw [← e]
            exact hRh.out.drew nq
          · have hS : lt (G (F + r)) (G (F + 2 * r + 2)) = true := by
              have : (!lt (G (F + r)) (G (F + 2 * r + 2))) = false := by assumption
              simpa using this
            have hcw3 : ∀ t, t < d.size → (wr2.drewN nq).cell? ⟨blk, off + t, none⟩ = some (.int .u64 (G t)) := hcw
            have hfw3 : ∀ t, t < d.size → (wr2.drewN nq).frozen? ⟨blk, off + t, none⟩ = false := hfw
            have hR3 := Lib.hid (hRh.out.drew nq)
            clear hcw hfw hRh
            generalize wr2.drewN nq = wr3 at hcw3 hfw3 hR3 ⊢
            go_region
            go_wp2
            go_roundw
            case rel =>
              have sw := hR3.out.swap 1 (F + r) (F + (2 * r + 2)) (by omega) (by omega)
              refine ⟨2 * r + 2, swp dk (F + r) (F + (2 * r + 2)), by go_num, by omega, ?_, ?_⟩
              · rw [← hG.out, ← hG.out] at sw
                exact sw
              · have e := hE.out
                rw [sd_right_go lt dk h1 (by rw [← hG.out, ← hG.out]; exact hL) (by rw [← hG.out, ← hG.out]; exact hS)] at e
                exact e
            case measure => simp [intOf]; omega
        · have hL : lt (G (F + 2 * r + 1)) (G (F + 2 * r + 2)) = false := by assumption
          revert nq; intro nq1
          have hcw2 : ∀ t, t < d.size → (wr.drewN nq1).cell? ⟨blk, off + t, none⟩ = some (.int .u64 (G t)) := hcw
          have hfw2 : ∀ t, t < d.size → (wr.drewN nq1).frozen? ⟨blk, off + t, none⟩ = false := hfw
          have hR2 := Lib.hid (hRh.out.drew nq1)
          clear hcw hfw hRh
          generalize wr.drewN nq1 = wr2 at hcw2 hfw2 hR2 ⊢
          have hcw := hcw2; have hfw := hfw2; have hRh := hR2; clear hcw2 hfw2 hR2
          go_big_quiet (first | (go_at_call 114; refine Calls.quiet_of_same (less_any _ _ _)))
          go_wp2_with fail
          · have hS : lt (G (F + r)) (G (F + 2 * r + 1)) = false := by
              have : (!lt (G (F + r)) (G (F + 2 * r + 1))) = true := by assumption
              simpa using this
            (try simp only [Exit.inBlock, Exit.then]); refine bodyPost_ret (results_none rfl _ _ _) rfl ?_
            refine ⟨rfl, ?_⟩
            have e := hE.out
            rw [sd_left_stop lt dk (by omega) (fun _ => by rw [← hG.out, ← hG.out]; exact hL) (by rw [← hG.out, ← hG.out]; exact hS)] at e
            rw [← e]
            exact hRh.out.drew nq
          · have hS : lt (G (F + r)) (G (F + 2 * r + 1)) = true := by
              have : (!lt (G (F + r)) (G (F + 2 * r + 1))) = false := by assumption
              simpa using this
            have hcw3 : ∀ t, t < d.size → (wr2.drewN nq).cell? ⟨blk, off + t, none⟩ = some (.int .u64 (G t)) := hcw
            have hfw3 : ∀ t, t < d.size → (wr2.drewN nq).frozen? ⟨blk, off + t, none⟩ = false := hfw
            have hR3 := Lib.hid (hRh.out.drew nq)
            clear hcw hfw hRh
            generalize wr2.drewN nq = wr3 at hcw3 hfw3 hR3 ⊢
            go_region
            go_wp2
            go_roundw
            case rel =>
              have sw := hR3.out.swap 1 (F + r) (F + (2 * r + 1)) (by omega) (by omega)
              refine ⟨2 * r + 1, swp dk (F + r) (F + (2 * r + 1)), by go_num, by omega, ?_, ?_⟩
              · rw [← hG.out, ← hG.out] at sw
                exact sw
              · have e := hE.out
                rw [sd_left_go lt dk (by omega) (fun _ => by rw [← hG.out, ← hG.out]; exact hL) (by rw [← hG.out, ← hG.out]; exact hS)] at e
                exact e
            case measure => simp [intOf]; omega
      · have h1z : decide (2 * (r : Int) + 1 + 1 < (hi : Int)) = false := decide_eq_false (by omega)
        go_wp2_with fail
        go_big_quiet (first | (go_at_call 114; refine Calls.quiet_of_same (less_any _ _ _)))
        go_wp2_with fail
        revert nq; intro nq1
        have hcw2 : ∀ t, t < d.size → (wr.drewN nq1).cell? ⟨blk, off + t, none⟩ = some (.int .u64 (G t)) := hcw
        have hfw2 : ∀ t, t < d.size → (wr.drewN nq1).frozen? ⟨blk, off + t, none⟩ = false := hfw
        have hR2 := Lib.hid (hRh.out.drew nq1)
        clear hcw hfw hRh
        generalize wr.drewN nq1 = wr2 at hcw2 hfw2 hR2 ⊢
        have hcw := hcw2; have hfw := hfw2; have hRh := hR2; clear hcw2 hfw2 hR2
        go_big_quiet (first | (go_at_call 114; refine Calls.quiet_of_same (less_any _ _ _)))
        go_wp2_with fail
        · have hS : lt (G (F + r)) (G (F + 2 * r + 1)) = false := by
            have : (!lt (G (F + r)) (G (F + 2 * r + 1))) = true := by assumption
            simpa using this
          (try simp only [Exit.inBlock, Exit.then]); refine bodyPost_ret (results_none rfl _ _ _) rfl ?_
          refine ⟨rfl, ?_⟩
          have e := hE.out
          rw [sd_left_stop lt dk (by omega) (fun hx => absurd hx h1) (by rw [← hG.out, ← hG.out]; exact hS)] at e
          rw [← e]
          exact hRh.out.drew nq
        · have hS : lt (G (F + r)) (G (F + 2 * r + 1)) = true := by
            have : (!lt (G (F + r)) (G (F + 2 * r + 1))) = false := by assumption
            simpa using this
          have hcw3 : ∀ t, t < d.size → (wr2.drewN nq).cell? ⟨blk, off + t, none⟩ = some (.int .u64 (G t)) := hcw
          have hfw3 : ∀ t, t < d.size → (wr2.drewN nq).frozen? ⟨blk, off + t, none⟩ = false := hfw
          have hR3 := Lib.hid (hRh.out.drew nq)
          clear hcw hfw hRh
          generalize wr2.drewN nq = wr3 at hcw3 hfw3 hR3 ⊢
          go_region
          go_wp2
          go_roundw
          case rel =>
            have sw := hR3.out.swap 1 (F + r) (F + (2 * r + 1)) (by omega) (by omega)
            refine ⟨2 * r + 1, swp dk (F + r) (F + (2 * r + 1)), by go_num, by omega, ?_, ?_⟩
            · rw [← hG.out, ← hG.out] at sw
              exact sw
            · have e := hE.out
              rw [sd_left_go lt dk (by omega) (fun hx => absurd hx h1) (by rw [← hG.out, ← hG.out]; exact hS)] at e
              exact e
          case measure => simp [intOf]; omega
end Go.Proofs.Ytjbpaapglamilaa

namespace Go.Proofs.Ytjbpaapglamilaa
open Go.RowKit Go.Shelf Go.Sort W
set_option linter.unusedVariables false
theorem SRow.holds {w : World} {blk off : Nat} {d dk : Array Int} {wr : World} (h : SRow w blk off d wr dk) (hH : Holds eU w blk off d) : Holds eU wr blk off dk := by
  obtain ⟨hs, n, rfl⟩ := h
  exact holds_putRow eU _ blk off d dk (holds_ahead eU w n blk off d hH) hs
theorem SRow.trans {w : World} {blk off : Nat} {d dk de : Array Int} {wr w' : World} (h : SRow w blk off d wr dk) (h' : SRow wr blk off dk w' de) : SRow w blk off d w' de := by
  obtain ⟨hs, n, rfl⟩ := h
  obtain ⟨hs', m, rfl⟩ := h'
  exact ⟨hs'.trans hs, n + m, putRow_ahead_putRow eU w n m blk off _ _ hs'⟩
theorem hb_go (hi F k : Nat) (d : Array Int) : Sort.heapBuild lt hi F (k + 1) d = Sort.heapBuild lt hi F k (Sort.siftDown lt hi F k d) := rfl
theorem hp_go (F k : Nat) (d : Array Int) : Sort.heapPop lt F (k + 1) d = Sort.heapPop lt F k (Sort.siftDown lt k F 0 (swp d F (F + k))) := rfl
set_option maxHeartbeats 2000000 in
set_option maxRecDepth 100000 in
theorem hps_any (blk off cap a b : Nat) (d : Array Int) (w : World) (hH : Holds eU w blk off d) (hab : a ≤ b) (hb : b ≤ d.size) (hsz : d.size < 4611686018427387904) :
    Calls Try.prog 109 #[.slice (some ⟨blk, off, none⟩) d.size cap, .int .i64 a, .int .i64 b] w fun e w' => e = .returned (.tuple #[]) ∧ SRow w blk off d w' (Sort.heapSort lt d a b) := by
  have hba : ((b - a : Nat) : Int) = (b : Int) - (a : Int) := by omega
  have hst := half_start hab
  go_enter Try.func109, Try.ntmps109
  go_wp2
  go_loopw [9] (fun s9 wr => ∃ (j : Int) (dk : Array Int), s9 = .int .i64 j ∧ -1 ≤ j ∧ j ≤ (b : Int) - (a : Int) ∧ SRow w blk off d wr dk ∧ Sort.heapBuild lt (b - a) a (j + 1).toNat dk = Sort.heapBuild lt (b - a) a ((b - a - 1) / 2 + 1) d) (fun s9 _ => (intOf s9 + 1).toNat)
  case atStart => exact ⟨((b : Int) - (a : Int) - 1).tdiv 2, d, by go_num, by omega, by omega, SRow.start hH, by congr 1; omega⟩
  case round =>
    obtain ⟨j, dk, rfl, hj1, hj2, hR, hE⟩ := hrel
    by_cases hlt : 0 ≤ j
    · obtain ⟨jn, rfl⟩ : ∃ jn : Nat, j = jn := ⟨j.toNat, by omega⟩
      have hc := sif_any blk off cap jn (b - a) a dk wr (hR.holds hH) (by omega) (by rw [hR.1]; omega) (by rw [hR.1]; omega)
      rw [hR.1, hba] at hc
      have hRh := Lib.hid hR
      have hEh := Lib.hid hE
      clear hR hE
      go_wp2_with (go_at_call 117; refine hc.mono ?_; rintro e w' ⟨rfl, hS⟩)
      go_roundw
      case rel => exact ⟨(jn : Int) - 1, Sort.siftDown lt (b - a) a jn dk, by go_num, by omega, by omega, hRh.out.trans hS, by have e := hEh.out; rw [show ((jn : Int) + 1).toNat = jn + 1 by omega, hb_go] at e; rw [show ((jn : Int) - 1 + 1).toNat = jn by omega]; exact e⟩
      case measure => simp [intOf] <;> omega
    · obtain rfl : j = -1 := by omega
      have hE2 : dk = Sort.heapBuild lt (b - a) a ((b - a - 1) / 2 + 1) d := hE
      have hRh := Lib.hid hR
      clear hR hE
      go_wp2
      go_loopw [10] (fun s10 wr => ∃ (j : Int) (dj : Array Int), s10 = .int .i64 j ∧ -1 ≤ j ∧ j + 1 ≤ (b : Int) - (a : Int) ∧ SRow w blk off d wr dj ∧ Sort.heapPop lt a (j + 1).toNat dj = Sort.heapPop lt a (b - a) dk) (fun s10 _ => (intOf s10 + 1).toNat)
      case atStart => exact ⟨(b : Int) - (a : Int) - 1, dk, by go_num, by omega, by omega, hRh.out, by congr 1; omega⟩
      case round =>
        obtain ⟨j, dj, rfl, hj1, hj2, hR, hE⟩ := hrel
        by_cases hlt : 0 ≤ j
        · obtain ⟨jn, rfl⟩ : ∃ jn : Nat, j = jn := ⟨j.toNat, by omega⟩
          obtain ⟨G, hG⟩ : ∃ G : Nat → Int, ∀ t, G t = dj[t]! := ⟨fun t => dj[t]!, fun _ => rfl⟩
          have hcw : ∀ t, t < d.size → wr.cell? ⟨blk, off + t, none⟩ = some (.int .u64 (G t)) := fun t ht => by rw [hG]; exact (hR.cells hH t ht).1
          have hfw : ∀ t, t < d.size → wr.frozen? ⟨blk, off + t, none⟩ = false := fun t ht => (hR.cells hH t ht).2
          have hc : ∀ wx, SRow w blk off d wx (swp dj a (a + jn)) → Calls Try.prog 117 #[.slice (some ⟨blk, off, none⟩) d.size cap, .int .i64 0, .int .i64 jn, .int .i64 a] wx fun e w' => e = .returned (.tuple #[]) ∧ SRow wx blk off (swp dj a (a + jn)) w' (Sort.siftDown lt jn a 0 (swp dj a (a + jn))) := fun wx hx => by
            have h := sif_any blk off cap 0 jn a (swp dj a (a + jn)) wx (hx.holds hH) (by omega) (by rw [hx.1]; omega) (by rw [hx.1]; omega)
            rw [hx.1] at h
            exact h
          have next : ∀ q, SRow w blk off d (((wr.drewN q).setCell ⟨blk, off + a, none⟩ (eU (G (a + jn)))).setCell ⟨blk, off + (a + jn), none⟩ (eU (G a))) (swp dj a (a + jn)) := fun q => by
            rw [hG, hG]; exact hR.swap q a (a + jn) (by omega) (by omega)
          have hEh := Lib.hid hE
          have hn := Lib.hid next
          have hHh := Lib.hid hH
          clear hR hE next hH hG
          by_cases hz : jn = 0
          · subst hz
            have hc0 : ∀ wx, SRow w blk off d wx (swp dj a a) → Calls Try.prog 117 #[.slice (some ⟨blk, off, none⟩) d.size cap, .int .i64 0, .int .i64 0, .int .i64 a] wx fun e w' => e = .returned (.tuple #[]) ∧ SRow wx blk off (swp dj a a) w' (Sort.siftDown lt 0 a 0 (swp dj a a)) := hc
            have hn0 : Go.RowKit.Hid (∀ q, SRow w blk off d (((wr.drewN q).setCell ⟨blk, off + a, none⟩ (eU (G a))).setCell ⟨blk, off + a, none⟩ (eU (G a))) (swp dj a a)) := hn
            clear hn hc
            go_wp2_with fail
            go_region
            all_goals go_wp2_with (go_at_call 117; refine (hc0 _ (hn0.out 1)).mono ?_; rintro e w' ⟨rfl, hS⟩)
            go_roundw
            case rel => exact ⟨-1, _, by go_num, by omega, by omega, (hn0.out 1).trans hS, by have e := hEh.out; exact e⟩
            case measure => simp [intOf] <;> omega
          · go_wp2_with fail
            go_region
            all_goals go_wp2_with (go_at_call 117; refine (hc _ (hn.out 1)).mono ?_; rintro e w' ⟨rfl, hS⟩)
            go_roundw
            case rel => exact ⟨(jn : Int) - 1, _, by go_num, by omega, by omega, (hn.out 1).trans hS, by have e := hEh.out; rw [show ((jn : Int) + 1).toNat = jn + 1 by omega, hp_go] at e; rw [show ((jn : Int) - 1 + 1).toNat = jn by omega]; exact e⟩
            case measure => simp [intOf] <;> omega
        · obtain rfl : j = -1 := by omega
          have hE3 : dj = Sort.heapPop lt a (b - a) dk := hE
          go_wp2
          go_end0
          refine ⟨rfl, ?_⟩
          unfold Sort.heapSort
          rw [← hE2, ← hE3]
          exact hR
end Go.Proofs.Ytjbpaapglamilaa

namespace Go.Proofs.Ytjbpaapglamilaa
open Go.RowKit Go.Shelf Go.Sort W
set_option linter.unusedVariables false
set_option maxHeartbeats 4000000 in
set_option maxRecDepth 100000 in
theorem nxt_any (rb ro X : Nat) (hX : X < 18446744073709551616) (w : World) (hc : w.cell? ⟨rb, ro, none⟩ = some (.int .u64 X)) (hf : w.frozen? ⟨rb, ro, none⟩ = false) :
    Calls Try.prog 98 #[.pointer (some ⟨rb, ro, none⟩)] w fun e w' => e = .returned (.int .u64 (xorNextN X : Nat)) ∧ w' = (w.setCell ⟨rb, ro, none⟩ (.int .u64 (xorNextN X : Nat))).drewN 3 := by
  obtain ⟨P, hP⟩ : ∃ P : Nat, P = X ^^^ (X * 8192 % 18446744073709551616) := ⟨_, rfl⟩
  obtain ⟨Q, hQ⟩ : ∃ Q : Nat, Q = P ^^^ (P / 128) := ⟨_, rfl⟩
  obtain ⟨R, hR⟩ : ∃ R : Nat, R = Q ^^^ (Q * 131072 % 18446744073709551616) := ⟨_, rfl⟩
  have lP : P < 18446744073709551616 := by rw [hP]; exact Nat.xor_lt_two_pow (n := 64) (by omega) (by omega)
  have lQ : Q < 18446744073709551616 := by rw [hQ]; exact Nat.xor_lt_two_pow (n := 64) (by omega) (by omega)
  have s1 : bits .xor .u64 (X : Int) (IntKind.u64.wrap ((X : Int) * 8192)) = (P : Int) := by
    have h : (X : Int) * 8192 % 18446744073709551616 = ((X * 8192 % 18446744073709551616 : Nat) : Int) := by omega
    rw [IntKind.wrap_u64, h, bits_xor_u64_nat _ _ hX (by omega), hP]
  have s2 : bits .xor .u64 (P : Int) ((P : Int) / 128) = (Q : Int) := by
    have h : (P : Int) / 128 = ((P / 128 : Nat) : Int) := by omega
    rw [h, bits_xor_u64_nat _ _ lP (by omega), hQ]
  have s3 : bits .xor .u64 (Q : Int) (IntKind.u64.wrap ((Q : Int) * 131072)) = (R : Int) := by
    have h : (Q : Int) * 131072 % 18446744073709551616 = ((Q * 131072 % 18446744073709551616 : Nat) : Int) := by omega
    rw [IntKind.wrap_u64, h, bits_xor_u64_nat _ _ lQ (by omega), hR]
  have e : xorNextN X = R := by
    unfold xorNextN
    simp only []
    rw [← hP, ← hQ, ← hR]
  rw [e]
  clear hP hQ hR e
  have over : ∀ v v', (w.setCell ⟨rb, ro, none⟩ v).setCell ⟨rb, ro, none⟩ v' = w.setCell ⟨rb, ro, none⟩ v' := setCell_setCell w rb ro
  go_enter Try.func98, Try.ntmps98
  go_wp2
  go_region
  all_goals go_wp2
  all_goals go_region
  all_goals go_wp2
  all_goals go_region
  all_goals go_wp2
  go_ret
  exact ⟨rfl, rfl⟩
theorem npt_any (n : Nat) (hn : n < 4611686018427387904) (w : World) :
    Calls Try.prog 97 #[.int .i64 n] w fun e w' => e = .returned (.int .u64 ((1 <<< bitsLen n : Nat) : Int)) ∧ w' = w := by
  have len : ∀ w, Calls Try.prog 63 #[.int .u64 (n : Int)] w fun e w' => e = .returned (.int .i64 (bitsLen n : Nat)) ∧ w' = w := fun w => by
    have h := Try.bits_Len (n : Int) w (by omega) (by omega)
    rwa [Int.toNat_natCast, bitLen_eq _ (by omega)] at h
  have small : bitsLen n ≤ 62 := (bitsLen_le_iff n 62).2 (by omega)
  have pw := wrap_two_pow (bitsLen n) small
  go_enter Try.func97, Try.ntmps97
  go_wp2_with (first | (go_at_call 63; refine (len _).mono ?_; rintro e w' ⟨rfl, rfl⟩))
  go_ret
  exact ⟨rfl, rfl⟩
end Go.Proofs.Ytjbpaapglamilaa

namespace Go.Proofs.Ytjbpaapglamilaa
open Go.RowKit Go.Shelf Go.Sort W
set_option linter.unusedVariables false
abbrev eI : Int → Value := Value.int .i64
/-- A world that has come of w by draws, and by turns of the counter in block sb: it holds t. -/
def Cnt (w : World) (sb so t : Nat) (w' : World) : Prop := ∃ n, w' = putRow eI (Sort.ahead w n) sb so (one t)
theorem Cnt.row {w w' : World} {blk off sb so t : Nat} {d : Array Int} (h : Cnt w sb so t w') (hH : Holds eU w blk off d) (hne : sb ≠ blk) : Holds eU w' blk off d := by
  obtain ⟨n, rfl⟩ := h
  intro j hj
  exact ⟨by rw [cell?_putRow_other _ _ _ _ _ _ (Or.inl (Ne.symm hne))]; exact (hH j hj).1, by rw [frozen?_putRow]; exact (hH j hj).2⟩
theorem Cnt.cnt {w w' : World} {sb so s t : Nat} (h : Cnt w sb so t w') (hS : Holds eI w sb so (one s)) : Holds eI w' sb so (one t) := by
  obtain ⟨n, rfl⟩ := h
  exact holds_one hS
theorem Cnt.trans {w w' w'' : World} {sb so s t : Nat} (h : Cnt w sb so s w') (h' : Cnt w' sb so t w'') : Cnt w sb so t w'' := by
  obtain ⟨n, rfl⟩ := h
  obtain ⟨m, rfl⟩ := h'
  exact ⟨n + m, one_one w n m sb so s t⟩
set_option maxHeartbeats 1000000 in
theorem two_any (blk off cap a b sb so s : Nat) (d : Array Int) (w : World) (hH : Holds eU w blk off d) (ha : a < d.size) (hb : b < d.size) (hS : Holds eI w sb so (one s)) (hs : s < 4611686018427387904) :
    Calls Try.prog 121 #[.slice (some ⟨blk, off, none⟩) d.size cap, .int .i64 a, .int .i64 b, .pointer (some ⟨sb, so, none⟩)] w fun e w' =>
      e = .returned (.tuple #[.int .i64 (Sort.order2 lt d a b s).1, .int .i64 (Sort.order2 lt d a b s).2.1]) ∧ Cnt w sb so (Sort.order2 lt d a b s).2.2 w' := by
  obtain ⟨G, hG⟩ : ∃ G : Nat → Int, ∀ t, G t = d[t]! := ⟨fun t => d[t]!, fun _ => rfl⟩
  have ca : w.cell? ⟨blk, off + a, none⟩ = some (.int .u64 (G a)) := by rw [hG]; exact (hH a ha).1
  have cb : w.cell? ⟨blk, off + b, none⟩ = some (.int .u64 (G b)) := by rw [hG]; exact (hH b hb).1
  obtain ⟨cs, fs⟩ := one_cell hS
  have yes : lt (G b) (G a) = true → Sort.order2 lt d a b s = (b, a, s + 1) := fun h => by rw [hG, hG] at h; unfold Sort.order2; rw [if_pos h]
  have no : lt (G b) (G a) = false → Sort.order2 lt d a b s = (a, b, s) := fun h => by rw [hG, hG] at h; unfold Sort.order2; rw [if_neg (by rw [h]; exact Bool.false_ne_true)]
  have hy := Lib.hid yes
  have hn := Lib.hid no
  clear yes no hG
  go_enter Try.func121, Try.ntmps121
  go_wp2
  go_region_with (go_at_call 114; refine (less_any _ _ _).mono ?_; rintro e w' ⟨rfl, rfl⟩)
  all_goals (try go_wp2)
  all_goals first
    | (have hl : lt (G b) (G a) = true := by assumption
       go_ret2
       rw [hy.out hl]
       refine ⟨rfl, 1, ?_⟩
       rw [putRow_ahead, ← one_set hS (s + 1)]
       simp [drew_eq_ahead])
    | (have hl : lt (G b) (G a) = false := by assumption
       go_ret2
       rw [hn.out hl]
       refine ⟨rfl, 1, ?_⟩
       rw [putRow_ahead, putRow_self _ _ _ _ _ hS]
       rfl)
theorem two_in (d : Array Int) {a b n : Nat} (s : Nat) (ha : a < n) (hb : b < n) : (Sort.order2 lt d a b s).1 < n ∧ (Sort.order2 lt d a b s).2.1 < n ∧ (Sort.order2 lt d a b s).2.2 ≤ s + 1 := by
  unfold Sort.order2
  split
  · exact ⟨hb, ha, Nat.le_refl _⟩
  · exact ⟨ha, hb, Nat.le_succ _⟩
set_option maxHeartbeats 1000000 in
set_option maxRecDepth 100000 in
theorem med_any (blk off cap a b c sb so s : Nat) (d : Array Int) (w : World) (hH : Holds eU w blk off d) (ha : a < d.size) (hb : b < d.size) (hc : c < d.size) (hne : sb ≠ blk) (hS : Holds eI w sb so (one s)) (hs : s + 3 < 4611686018427387904) :
    Calls Try.prog 119 #[.slice (some ⟨blk, off, none⟩) d.size cap, .int .i64 a, .int .i64 b, .int .i64 c, .pointer (some ⟨sb, so, none⟩)] w fun e w' =>
      e = .returned (.int .i64 (Sort.median lt d a b c s).1) ∧ Cnt w sb so (Sort.median lt d a b c s).2 w' := by
  have l1 := two_in d s ha hb
  obtain ⟨r1, h1⟩ : ∃ r, r = Sort.order2 lt d a b s := ⟨_, rfl⟩
  rw [← h1] at l1
  have l2 := two_in d r1.2.2 l1.2.1 hc
  obtain ⟨r2, h2⟩ : ∃ r, r = Sort.order2 lt d r1.2.1 c r1.2.2 := ⟨_, rfl⟩
  rw [← h2] at l2
  obtain ⟨r3, h3⟩ : ∃ r, r = Sort.order2 lt d r1.1 r2.1 r2.2.2 := ⟨_, rfl⟩
  have hm : Sort.median lt d a b c s = (r3.2.1, r3.2.2) := by simp only [Sort.median, ← h1, ← h2, ← h3]
  have c1 := two_any blk off cap a b sb so s d w hH ha hb hS (by omega)
  rw [← h1] at c1
  have c2 : ∀ w1, Cnt w sb so r1.2.2 w1 → Calls Try.prog 121 #[.slice (some ⟨blk, off, none⟩) d.size cap, .int .i64 r1.2.1, .int .i64 c, .pointer (some ⟨sb, so, none⟩)] w1 fun e w' => e = .returned (.tuple #[.int .i64 r2.1, .int .i64 r2.2.1]) ∧ Cnt w1 sb so r2.2.2 w' := fun w1 k => by
    rw [h2]; exact two_any blk off cap r1.2.1 c sb so r1.2.2 d w1 (k.row hH hne) l1.2.1 hc (k.cnt hS) (by omega)
  have c3 : ∀ w1, Cnt w sb so r2.2.2 w1 → Calls Try.prog 121 #[.slice (some ⟨blk, off, none⟩) d.size cap, .int .i64 r1.1, .int .i64 r2.1, .pointer (some ⟨sb, so, none⟩)] w1 fun e w' => e = .returned (.tuple #[.int .i64 r3.1, .int .i64 r3.2.1]) ∧ Cnt w1 sb so r3.2.2 w' := fun w1 k => by
    rw [h3]; exact two_any blk off cap r1.1 r2.1 sb so r2.2.2 d w1 (k.row hH hne) l1.1 l2.1 (k.cnt hS) (by omega)
  rw [hm]
  clear h1 h2 h3 hm l1 l2
  go_enter Try.func119, Try.ntmps119
  go_wp2_with (go_at_call_of 121 (Value.int .i64 (b : Int)); refine c1.mono ?_; rintro e w' ⟨rfl, k1⟩)
  go_wp2_with (go_at_call_of 121 (Value.int .i64 (c : Int)); refine (c2 _ k1).mono ?_; rintro e w' ⟨rfl, k2⟩)
  go_wp2_with (go_at_call_of 121 (Value.int .i64 (r1.1 : Int)); refine (c3 _ (k1.trans k2)).mono ?_; rintro e w' ⟨rfl, k3⟩)
  go_ret
  exact ⟨rfl, (k1.trans k2).trans k3⟩
set_option maxHeartbeats 1000000 in
theorem adj_any (blk off cap a sb so s : Nat) (d : Array Int) (w : World) (hH : Holds eU w blk off d) (ha0 : 1 ≤ a) (ha : a + 1 < d.size) (hsz : d.size < 4611686018427387904) (hne : sb ≠ blk) (hS : Holds eI w sb so (one s)) (hs : s + 3 < 4611686018427387904) :
    Calls Try.prog 118 #[.slice (some ⟨blk, off, none⟩) d.size cap, .int .i64 a, .pointer (some ⟨sb, so, none⟩)] w fun e w' =>
      e = .returned (.int .i64 (Sort.medianAdjacent lt d a s).1) ∧ Cnt w sb so (Sort.medianAdjacent lt d a s).2 w' := by
  have h := med_any blk off cap (a - 1) a (a + 1) sb so s d w hH (by omega) (by omega) ha hne hS hs
  rw [show ((a - 1 : Nat) : Int) = (a : Int) - 1 by omega, show ((a + 1 : Nat) : Int) = (a : Int) + 1 by omega] at h
  go_enter Try.func118, Try.ntmps118
  go_wp2_with (go_at_call 119; refine h.mono ?_; rintro e w' ⟨rfl, k1⟩)
  go_ret
  exact ⟨rfl, k1⟩
end Go.Proofs.Ytjbpaapglamilaa

namespace Go.Proofs.Ytjbpaapglamilaa
open Go.RowKit Go.Shelf Go.Sort W
set_option linter.unusedVariables false
theorem Cnt.fin {w w' : World} {t : Nat} (h : Cnt (w.alloc (.cells #[.int .i64 0] 3)) w.heap.size 0 t w') : ∃ n os, w' = grow (Sort.ahead w n) os := by
  obtain ⟨n, rfl⟩ := h
  obtain ⟨os, e⟩ := counter_grow w n t
  exact ⟨n, os, e⟩
theorem Cnt.zero (w : World) (h : Holds eI (w.alloc (.cells #[.int .i64 0] 3)) w.heap.size 0 (one 0)) : Cnt (w.alloc (.cells #[.int .i64 0] 3)) w.heap.size 0 0 (w.alloc (.cells #[.int .i64 0] 3)) := ⟨0, (putRow_self _ _ _ _ _ h).symm⟩
set_option maxHeartbeats 4000000 in
set_option maxRecDepth 100000 in
theorem piv_any (blk off cap a b : Nat) (d : Array Int) (w : World) (hH : Holds eU w blk off d) (hblk : blk < w.heap.size) (hab : a < b) (hb : b ≤ d.size) (hsz : d.size < 4611686018427387904) :
    Calls Try.prog 111 #[.slice (some ⟨blk, off, none⟩) d.size cap, .int .i64 a, .int .i64 b] w fun e w' =>
      e = .returned (.tuple #[.int .i64 (choosePivot lt d a b).1, .int .i64 (hintCode (choosePivot lt d a b).2)]) ∧ ∃ n os, w' = grow (Sort.ahead w n) os := by
  have hne : w.heap.size ≠ blk := by omega
  obtain ⟨W0, hW0⟩ : ∃ W0, W0 = w.alloc (.cells #[.int .i64 0] 3) := ⟨_, rfl⟩
  have hH0 : Holds eU W0 blk off d := by rw [hW0, alloc_eq_grow]; exact holds_grow _ _ _ _ _ _ hblk hH
  have hS0 : Holds eI W0 w.heap.size 0 (one 0) := fun j hj => by
    obtain rfl : j = 0 := by simpa using hj
    rw [hW0]
    simp
  have fin : ∀ t w', Cnt W0 w.heap.size 0 t w' → ∃ n os, w' = grow (Sort.ahead w n) os := fun t w' h => by rw [hW0] at h; exact h.fin
  have K0 : Cnt W0 w.heap.size 0 0 W0 := ⟨0, (putRow_self _ _ _ _ _ hS0).symm⟩
  have MA : ∀ x s wx, Cnt W0 w.heap.size 0 s wx → 1 ≤ x → x + 1 < d.size → s + 3 < 4611686018427387904 → Calls Try.prog 118 #[.slice (some ⟨blk, off, none⟩) d.size cap, .int .i64 (x : Nat), .pointer (some ⟨w.heap.size, 0, none⟩)] wx fun e w' => e = .returned (.int .i64 ((medianAdjacent lt d x s).1 : Int)) ∧ Cnt W0 w.heap.size 0 (medianAdjacent lt d x s).2 w' := fun x s wx k h1 h2 h3 =>
    (adj_any blk off cap x w.heap.size 0 s d wx (k.row hH0 hne) h1 h2 (by omega) hne (k.cnt hS0) h3).mono (by rintro e w' ⟨he, h⟩; exact ⟨he, k.trans h⟩)
  have MD : ∀ x y z s wx, Cnt W0 w.heap.size 0 s wx → x < d.size → y < d.size → z < d.size → s + 3 < 4611686018427387904 → Calls Try.prog 119 #[.slice (some ⟨blk, off, none⟩) d.size cap, .int .i64 (x : Nat), .int .i64 (y : Nat), .int .i64 (z : Nat), .pointer (some ⟨w.heap.size, 0, none⟩)] wx fun e w' => e = .returned (.int .i64 ((median lt d x y z s).1 : Int)) ∧ Cnt W0 w.heap.size 0 (median lt d x y z s).2 w' := fun x y z s wx k h1 h2 h3 h4 =>
    (med_any blk off cap x y z w.heap.size 0 s d wx (k.row hH0 hne) h1 h2 h3 hne (k.cnt hS0) h4).mono (by rintro e w' ⟨he, h⟩; exact ⟨he, k.trans h⟩)
  have cel : ∀ s wx, Cnt W0 w.heap.size 0 s wx → wx.cell? ⟨w.heap.size, 0, none⟩ = some (.int .i64 s) := fun s wx k => (one_cell (k.cnt hS0)).1
  clear hH hH0 hS0
  rw [choosePivot_eq]
  obtain ⟨I, hI⟩ : ∃ I : Nat, I = a + (b - a) / 4 * 1 := ⟨_, rfl⟩
  obtain ⟨J, hJ⟩ : ∃ J : Nat, J = a + (b - a) / 4 * 2 := ⟨_, rfl⟩
  obtain ⟨K, hK⟩ : ∃ K : Nat, K = a + (b - a) / 4 * 3 := ⟨_, rfl⟩
  have eI1 : ((a : Int) + ((b : Int) - (a : Int)) / 4) = (I : Int) := by omega
  have eJ1 : ((a : Int) + ((b : Int) - (a : Int)) / 4 * 2) = (J : Int) := by omega
  have eK1 : ((a : Int) + ((b : Int) - (a : Int)) / 4 * 3) = (K : Int) := by omega
  replace hW0 : w.alloc (.cells #[.int .i64 0] 3) = W0 := hW0.symm
  replace fin := Lib.hid fin
  by_cases h8 : b - a ≥ 8
  · by_cases h50 : b - a ≥ 50
    · obtain ⟨i1, s1, h1⟩ : ∃ i1 s1, medianAdjacent lt d I 0 = (i1, s1) := ⟨_, _, rfl⟩
      obtain ⟨j1, s2, h2⟩ : ∃ j1 s2, medianAdjacent lt d J s1 = (j1, s2) := ⟨_, _, rfl⟩
      obtain ⟨k1, s3, h3⟩ : ∃ k1 s3, medianAdjacent lt d K s2 = (k1, s3) := ⟨_, _, rfl⟩
      obtain ⟨p, s, h4⟩ : ∃ p s, median lt d i1 j1 k1 s3 = (p, s) := ⟨_, _, rfl⟩
      have hraw : rawPivot lt d a b = (p, s) := by simp only [rawPivot, if_pos h8, if_pos h50, ← hI, ← hJ, ← hK, h1, h2, h3, h4]
      have m1 := medianAdjacent_mem lt d I 0; rw [h1] at m1
      have m2 := medianAdjacent_mem lt d J s1; rw [h2] at m2
      have m3 := medianAdjacent_mem lt d K s2; rw [h3] at m3
      have n1 := medianAdjacent_count lt d I 0; rw [h1] at n1
      have n2 := medianAdjacent_count lt d J s1; rw [h2] at n2
      have n3 := medianAdjacent_count lt d K s2; rw [h3] at n3
      simp only [] at m1 m2 m3 n1 n2 n3
      have c1 := MA I 0 W0 K0 (by omega) (by omega) (by omega)
      have c2 := fun wx (k : Cnt W0 w.heap.size 0 s1 wx) => MA J s1 wx k (by omega) (by omega) (by omega)
      have c3 := fun wx (k : Cnt W0 w.heap.size 0 s2 wx) => MA K s2 wx k (by omega) (by omega) (by omega)
      have c4 := fun wx (k : Cnt W0 w.heap.size 0 s3 wx) => MD i1 j1 k1 s3 wx k (by omega) (by omega) (by omega) (by omega)
      rw [h1] at c1
      rw [h2] at c2
      rw [h3] at c3
      rw [h4] at c4
      rw [hraw]
      obtain ⟨Hc, hHc⟩ : ∃ Hc : Int, Hc = hintCode (hintOf s) := ⟨_, rfl⟩
      have hh0 : s = 0 → Hc = 1 := fun h => by rw [hHc, h]; rfl
      have hh12 : s = 12 → Hc = 2 := fun h => by rw [hHc, h]; rfl
      have hhx : s ≠ 0 → s ≠ 12 → Hc = 0 := fun h1 h2 => by rw [hHc]; unfold hintOf; rw [if_neg h1, if_neg h2]; rfl
      show Calls Try.prog 111 _ w fun e w' => e = .returned (.tuple #[.int .i64 (p : Int), .int .i64 (hintCode (hintOf s))]) ∧ ∃ n os, w' = grow (Sort.ahead w n) os
      rw [← hHc]
      clear hHc hraw
      clear h1 h2 h3 h4 MA MD hI hJ hK m1 m2 m3
      go_enter Try.func111, Try.ntmps111
      go_wp2_with (first
        | (go_at_call_has 118 (Value.int .i64 (I : Int)); refine c1.mono ?_; rintro e w' ⟨rfl, k1⟩)
        | (go_at_call_has 118 (Value.int .i64 (J : Int)); refine (c2 _ k1).mono ?_; rintro e w' ⟨rfl, k2⟩)
        | (go_at_call_has 118 (Value.int .i64 (K : Int)); refine (c3 _ k2).mono ?_; rintro e w' ⟨rfl, k3⟩)
        | (go_at_call 119; refine (c4 _ k3).mono ?_; rintro e w' ⟨rfl, k4⟩; have cs := cel _ _ k4))
      all_goals
        go_ret2
        refine ⟨?_, fin.out _ _ k4⟩
        first
          | (have e0 : (s : Int) = 0 := of_beq_int (by assumption)
             rw [hh0 (by omega)]; rfl)
          | (have e1 : (s : Int) = 12 := of_beq_int (by assumption)
             rw [hh12 (by omega)]; rfl)
          | (have e0 : (s : Int) ≠ 0 := of_bne_int (by assumption)
             have e1 : (s : Int) ≠ 12 := of_bne_int (by assumption)
             rw [hhx (by omega) (by omega)]; rfl)
          | (rw [hh0 (by omega)]; rfl)
    · obtain ⟨p, s, h4⟩ : ∃ p s, median lt d I J K 0 = (p, s) := ⟨_, _, rfl⟩
      have hraw : rawPivot lt d a b = (p, s) := by simp only [rawPivot, if_pos h8, if_neg h50, ← hI, ← hJ, ← hK, h4]
      have c4 := MD I J K 0 W0 K0 (by omega) (by omega) (by omega) (by omega)
      rw [h4] at c4
      rw [hraw]
      obtain ⟨Hc, hHc⟩ : ∃ Hc : Int, Hc = hintCode (hintOf s) := ⟨_, rfl⟩
      have hh0 : s = 0 → Hc = 1 := fun h => by rw [hHc, h]; rfl
      have hh12 : s = 12 → Hc = 2 := fun h => by rw [hHc, h]; rfl
      have hhx : s ≠ 0 → s ≠ 12 → Hc = 0 := fun h1 h2 => by rw [hHc]; unfold hintOf; rw [if_neg h1, if_neg h2]; rfl
      show Calls Try.prog 111 _ w fun e w' => e = .returned (.tuple #[.int .i64 (p : Int), .int .i64 (hintCode (hintOf s))]) ∧ ∃ n os, w' = grow (Sort.ahead w n) os
      rw [← hHc]
      clear hHc hraw
      clear h4 MA MD hI hJ hK
      go_enter Try.func111, Try.ntmps111
      go_wp2_with (first | (go_at_call 119; refine c4.mono ?_; rintro e w' ⟨rfl, k4⟩; have cs := cel _ _ k4))
      all_goals
        go_ret2
        refine ⟨?_, fin.out _ _ k4⟩
        first
          | (have e0 : (s : Int) = 0 := of_beq_int (by assumption)
             rw [hh0 (by omega)]; rfl)
          | (have e1 : (s : Int) = 12 := of_beq_int (by assumption)
             rw [hh12 (by omega)]; rfl)
          | (have e0 : (s : Int) ≠ 0 := of_bne_int (by assumption)
             have e1 : (s : Int) ≠ 12 := of_bne_int (by assumption)
             rw [hhx (by omega) (by omega)]; rfl)
          | (rw [hh0 (by omega)]; rfl)
  · obtain ⟨p, hp⟩ : ∃ p : Nat, p = J := ⟨_, rfl⟩
    obtain ⟨s, hs⟩ : ∃ s : Nat, s = 0 := ⟨_, rfl⟩
    have hraw : rawPivot lt d a b = (p, s) := by simp only [rawPivot, if_neg h8, ← hJ, hp, hs]
    rw [hraw]
    obtain ⟨Hc, hHc⟩ : ∃ Hc : Int, Hc = hintCode (hintOf s) := ⟨_, rfl⟩
    have hh0 : s = 0 → Hc = 1 := fun h => by rw [hHc, h]; rfl
    have hh12 : s = 12 → Hc = 2 := fun h => by rw [hHc, h]; rfl
    have hhx : s ≠ 0 → s ≠ 12 → Hc = 0 := fun h1 h2 => by rw [hHc]; unfold hintOf; rw [if_neg h1, if_neg h2]; rfl
    show Calls Try.prog 111 _ w fun e w' => e = .returned (.tuple #[.int .i64 (p : Int), .int .i64 (hintCode (hintOf s))]) ∧ ∃ n os, w' = grow (Sort.ahead w n) os
    rw [← hHc]
    clear hHc hraw
    subst hp
    clear MA MD hI hJ hK
    have cs := cel 0 W0 K0
    have cs2 : W0.cell? ⟨w.heap.size, 0, none⟩ = some (.int .i64 (s : Int)) := by rw [hs]; exact cs
    clear cs
    go_enter Try.func111, Try.ntmps111
    go_wp2
    all_goals
      go_ret2
      refine ⟨?_, fin.out _ _ K0⟩
      first
        | (have e0 : (s : Int) = 0 := of_beq_int (by assumption)
           rw [hh0 (by omega)]; rfl)
        | (have e1 : (s : Int) = 12 := of_beq_int (by assumption)
           rw [hh12 (by omega)]; rfl)
        | (have e0 : (s : Int) ≠ 0 := of_bne_int (by assumption)
           have e1 : (s : Int) ≠ 12 := of_bne_int (by assumption)
           rw [hhx (by omega) (by omega)]; rfl)
        | (rw [hh0 (by omega)]; rfl)
end Go.Proofs.Ytjbpaapglamilaa

namespace Go.Proofs.Ytjbpaapglamilaa
open Go.RowKit Go.Shelf Go.Sort W
set_option linter.unusedVariables false
set_option maxHeartbeats 2000000 in
set_option maxRecDepth 100000 in
theorem brk_long (blk off cap a L : Nat) (d : Array Int) (w : World) (hH : Holds eU w blk off d) (hblk : blk < w.heap.size) (hb : a + L ≤ d.size) (hsz : d.size < 4611686018427387904) (h8 : 8 ≤ L) :
    Calls Try.prog 110 #[.slice (some ⟨blk, off, none⟩) d.size cap, .int .i64 a, .int .i64 ((a + L : Nat) : Int)] w fun e w' =>
      e = .returned (.tuple #[]) ∧ ∃ n os, w' = grow (putRow eU (Sort.ahead w n) blk off (breakPatterns d a (a + L))) os := by
  rw [breakPatterns_eq d a L h8]
  obtain ⟨M, hM⟩ : ∃ M : Nat, M = 1 <<< bitsLen L := ⟨_, rfl⟩
  have hM1 : 1 ≤ M := by rw [hM, Nat.one_shiftLeft]; exact Nat.two_pow_pos _
  have hM2 : M ≤ 2 * L := by rw [hM, Nat.one_shiftLeft]; exact two_pow_bitsLen_le (by omega)
  have pow : ∀ w, Calls Try.prog 97 #[.int .i64 (L : Int)] w fun e w' => e = .returned (.int .u64 (M : Int)) ∧ w' = w := by rw [hM]; exact fun w => npt_any L (by omega) w
  rw [← hM]
  clear hM
  have HH := Lib.hid hH
  have st0 : w.alloc (Obj.cells #[.int .u64 (L : Int)] 147) = grow (putRow eU (Sort.ahead w 0) blk off d) #[Obj.cells #[.int .u64 ((UInt64.ofNat L).toNat : Int)] 147] := by
    rw [show Sort.ahead w 0 = w from rfl, putRow_self _ _ _ _ _ hH, alloc_eq_grow, show (UInt64.ofNat L).toNat = L from by simp; omega]
  have HST := Lib.hid st0
  clear hH st0
  go_enter Try.func110, Try.ntmps110
  go_wp2_with (first | (go_at_call 97; rw [show ((a : Int) + (L : Int) - (a : Int)) = (L : Int) by omega]; refine (pow _).mono ?_; rintro e w' ⟨rfl, rfl⟩))
  go_loopw [9] (fun vi wr => ∃ (t n : Nat) (r : UInt64) (dk : Array Int), vi = .int .i64 ((a + L / 4 * 2 - 1 + t : Nat) : Int) ∧ t ≤ 3 ∧ dk.size = d.size ∧
      wr = grow (putRow eU (Sort.ahead w n) blk off dk) #[Obj.cells #[.int .u64 (r.toNat : Int)] 147] ∧
      bpRest a L M (a + L / 4 * 2 - 1) (3 - t) t (r, dk) = bpRest a L M (a + L / 4 * 2 - 1) 3 0 (UInt64.ofNat L, d)) (fun vi _ => a + L / 4 * 2 + 3 - (intOf vi).toNat)
  case atStart => exact ⟨0, 0, UInt64.ofNat L, d, by congr 1; omega, by omega, rfl, HST.out, rfl⟩
  case round =>
    obtain ⟨t, n, r, dk, rfl, ht, hsk, hw, hR⟩ := hrel
    obtain ⟨R, hRr⟩ : ∃ R : Nat, R = r.toNat := ⟨_, rfl⟩
    have lR : R < 18446744073709551616 := by rw [hRr]; exact r.toNat_lt
    obtain ⟨R', hR'⟩ : ∃ R' : Nat, R' = xorNextN R := ⟨_, rfl⟩
    have lR' : R' < 18446744073709551616 := by rw [hR']; exact xorNextN_lt R lR
    obtain ⟨O, hO⟩ : ∃ O : Nat, O = R' &&& (M - 1) := ⟨_, rfl⟩
    have lO : O ≤ M - 1 := by rw [hO]; exact Nat.and_le_right
    have both : bits .and .u64 (R' : Int) ((M : Int) - 1) = (O : Int) := by
      rw [show ((M : Int) - 1) = ((M - 1 : Nat) : Int) by omega, bits_and_u64_nat _ _ lR' (by omega), hO]
    obtain ⟨G, hG⟩ : ∃ G : Nat → Int, ∀ x, G x = dk[x]! := ⟨fun x => dk[x]!, fun _ => rfl⟩
    have hz : (putRow eU (Sort.ahead w n) blk off dk).heap.size = w.heap.size := by simp
    have hcw : ∀ x, x < d.size → wr.cell? ⟨blk, off + x, none⟩ = some (.int .u64 (G x)) := fun x hx => by
      rw [hw, cell?_grow _ _ _ (by rw [hz]; exact hblk), hG]; exact cell?_putRow eU _ _ _ d dk (holds_ahead _ _ _ _ _ _ HH.out) hsk x (by omega)
    have hfw : ∀ x, x < d.size → wr.frozen? ⟨blk, off + x, none⟩ = false := fun x hx => by
      rw [hw, frozen?_grow _ _ _ (by rw [hz]; exact hblk), frozen?_putRow]; exact ((holds_ahead _ _ n _ _ _ HH.out) x hx).2
    have hcB : wr.cell? ⟨w.heap.size, 0, none⟩ = some (.int .u64 (R : Int)) := by rw [hw, hRr, ← hz]; exact grow_one_cell _ _ _
    have hfB : wr.frozen? ⟨w.heap.size, 0, none⟩ = false := by rw [hw, ← hz]; exact grow_one_frozen _ _ _
    have nx : Calls Try.prog 98 #[.pointer (some ⟨w.heap.size, 0, none⟩)] wr fun e w' => e = .returned (.int .u64 (R' : Int)) ∧ w' = (wr.setCell ⟨w.heap.size, 0, none⟩ (.int .u64 (R' : Int))).drewN 3 := by
      rw [hR']; exact nxt_any _ _ R lR wr hcB hfB
    have HW := Lib.hid hw
    have HG := Lib.hid hG
    have HR := Lib.hid hR
    have hn2 : R' = (xorNext r).toNat ∧ O = (xorNext r).toNat &&& (M - 1) := by
      have e : R' = (xorNext r).toNat := by rw [hR', hRr, xorNext_toNat]
      exact ⟨e, by rw [hO, e]⟩
    have HN := Lib.hid hn2
    clear hw hG hR hRr hR' hO hn2
    go_wp2_with (first | (go_at_call 98; refine nx.mono ?_; rintro e w' ⟨rfl, rfl⟩))
    · have hLO : L ≤ O := by omega
      by_cases hEq : a + L / 4 * 2 - 1 + t = a + (O - L)
      all_goals
        go_region
        all_goals go_wp2
        go_roundw
        case rel =>
          refine ⟨t + 1, n + 4, xorNext r, swp dk (a + L / 4 * 2 - 1 + t) (a + (O - L)), by first | rfl | (congr 1 <;> omega), by omega, by rw [size_swp]; exact hsk, ?_, ?_⟩
          · (try rw [hEq])
            rw [HW.out, HN.out.1]
            simp only [HG.out]
            exact step_world eU w n 4 blk off dk _ _ hblk (by omega) (by omega) _ _ _
          · rw [← HR.out, bp_step a L M _ t r dk (O - L) (by omega) (by rw [← HN.out.2, if_pos (by omega)])]
        case measure => simp [intOf] <;> omega
    · have hLO : ¬ L ≤ O := by omega
      by_cases hEq : a + L / 4 * 2 - 1 + t = a + O
      all_goals
        go_region
        all_goals go_wp2
        go_roundw
        case rel =>
          refine ⟨t + 1, n + 4, xorNext r, swp dk (a + L / 4 * 2 - 1 + t) (a + O), by first | rfl | (congr 1 <;> omega), by omega, by rw [size_swp]; exact hsk, ?_, ?_⟩
          · (try rw [hEq])
            rw [HW.out, HN.out.1]
            simp only [HG.out]
            exact step_world eU w n 4 blk off dk _ _ hblk (by omega) (by omega) _ _ _
          · rw [← HR.out, bp_step a L M _ t r dk O (by omega) (by rw [← HN.out.2, if_neg (by omega)])]
        case measure => simp [intOf] <;> omega
    · obtain rfl : t = 3 := by omega
      go_end0
      exact ⟨rfl, n, _, by rw [← HR.out, HW.out]; rfl⟩
theorem brk_any (blk off cap a b : Nat) (d : Array Int) (w : World) (hH : Holds eU w blk off d) (hblk : blk < w.heap.size) (hab : a ≤ b) (hb : b ≤ d.size) (hsz : d.size < 4611686018427387904) :
    Calls Try.prog 110 #[.slice (some ⟨blk, off, none⟩) d.size cap, .int .i64 a, .int .i64 b] w fun e w' =>
      e = .returned (.tuple #[]) ∧ ∃ n os, w' = grow (putRow eU (Sort.ahead w n) blk off (breakPatterns d a b)) os := by
  obtain ⟨L, rfl⟩ : ∃ L, b = a + L := ⟨b - a, by omega⟩
  by_cases h8 : 8 ≤ L
  · exact brk_long blk off cap a L d w hH hblk hb hsz h8
  · have hv : breakPatterns d a (a + L) = d := by unfold breakPatterns; simp only [Nat.add_sub_cancel_left]; rw [if_neg h8]
    rw [hv]
    have st0 : w = grow (putRow eU (Sort.ahead w 0) blk off d) #[] := by
      rw [grow_empty, show Sort.ahead w 0 = w from rfl, putRow_self _ _ _ _ _ hH]
    have HST := Lib.hid st0
    clear hH st0
    go_enter Try.func110, Try.ntmps110
    go_wp2
    go_end0
    exact ⟨rfl, 0, #[], HST.out⟩
end Go.Proofs.Ytjbpaapglamilaa

namespace Go.Proofs.Ytjbpaapglamilaa
open Go.RowKit Go.Shelf Go.Sort W
set_option linter.unusedVariables false
set_option maxHeartbeats 6400000 in
set_option maxRecDepth 100000 in
theorem peq_any (blk off cap a b pv : Nat) (d : Array Int) (w : World) (hH : Holds eU w blk off d) (hap : a ≤ pv) (hpb : pv < b) (hb : b ≤ d.size) (hsz : d.size < 4611686018427387904) :
    Calls Try.prog 115 #[.slice (some ⟨blk, off, none⟩) d.size cap, .int .i64 a, .int .i64 b, .int .i64 pv] w fun e w' => e = .returned (.int .i64 (Sort.partitionEqual lt d a b pv).1) ∧ SRow w blk off d w' (Sort.partitionEqual lt d a b pv).2 := by
  obtain ⟨G0, hG0⟩ : ∃ G : Nat → Int, ∀ t, G t = d[t]! := ⟨fun t => d[t]!, fun _ => rfl⟩
  have hda : a < d.size := by omega
  have hdp : pv < d.size := by omega
  have ca : w.cell? ⟨blk, off + a, none⟩ = some (.int .u64 (G0 a)) := by rw [hG0]; exact (hH a hda).1
  have cp : w.cell? ⟨blk, off + pv, none⟩ = some (.int .u64 (G0 pv)) := by rw [hG0]; exact (hH pv hdp).1
  have fa := (hH a hda).2
  have fp := (hH pv hdp).2
  obtain ⟨v', hy'⟩ := cell?_setCell_some (w := w) (p := ⟨blk, off + a, none⟩) (x := .int .u64 (G0 pv)) (q := ⟨blk, off + pv, none⟩) cp
  have hsw : ∀ q, SRow w blk off d (((w.drewN q).setCell ⟨blk, off + a, none⟩ (eU (G0 pv))).setCell ⟨blk, off + pv, none⟩ (eU (G0 a))) (swp d a pv) := fun q => by
    rw [hG0, hG0]; exact (SRow.start hH).swap q a pv hda hdp
  have AW := Lib.hid hsw
  have AH := Lib.hid hH
  clear hsw hH hG0
  go_enter Try.func115, Try.ntmps115
  go_wp2
  go_region
  all_goals go_wp2
  go_loopw [9, 10] (fun s9 s10 wr => ∃ (i j : Nat) (dk : Array Int), s9 = .int .i64 i ∧ s10 = .int .i64 j ∧ a < i ∧ i ≤ j + 1 ∧ j < b ∧ SRow w blk off d wr dk ∧ partEqLoop lt a i j dk = partEqLoop lt a (a + 1) (b - 1) (swp d a pv)) (fun s9 s10 _ => (intOf s10).toNat + 1 - (intOf s9).toNat)
  case atStart => exact ⟨a + 1, b - 1, swp d a pv, by go_num, by go_num, by omega, by omega, by omega, AW.out 1, rfl⟩
  case round =>
    obtain ⟨i, j, dk, rfl, rfl, hai, hij, hjb, hR, hE⟩ := hrel
    have AE := Lib.hid hE
    have AR := Lib.hid hR
    clear ca cp fa fp hy' v' AW hE hR
    obtain ⟨G, hG⟩ : ∃ G : Nat → Int, ∀ t, G t = dk[t]! := ⟨fun t => dk[t]!, fun _ => rfl⟩
    have cells : ∀ W', SRow w blk off d W' dk → (∀ t, t < d.size → W'.cell? ⟨blk, off + t, none⟩ = some (.int .u64 (G t))) ∧ (∀ t, t < d.size → W'.frozen? ⟨blk, off + t, none⟩ = false) := fun W' h => ⟨fun t ht => by rw [hG]; exact (h.cells AH.out t ht).1, fun t ht => (h.cells AH.out t ht).2⟩
    have swaps : ∀ W', SRow w blk off d W' dk → ∀ q x y, x < d.size → y < d.size → SRow w blk off d (((W'.drewN q).setCell ⟨blk, off + x, none⟩ (eU (G y))).setCell ⟨blk, off + y, none⟩ (eU (G x))) (swp dk x y) := fun W' h q x y hx hy => by rw [hG, hG]; exact h.swap q x y hx hy
    have AC := Lib.hid cells
    have AP := Lib.hid swaps
    have AG := Lib.hid hG
    clear cells swaps hG
    go_upto_block 2 with fail
    go_cut [9]  (fun s wx => ∃ i2 : Nat, s = .int .i64 i2 ∧ i2 = scanUp (fun x => !lt dk[a]! x) dk j i ∧ i ≤ i2 ∧ i2 ≤ j + 1 ∧ SRow w blk off d wx dk)
    case first =>
      go_wp2_with fail
      go_loopw [9] (fun s wr => ∃ i' : Nat, s = .int .i64 i' ∧ i ≤ i' ∧ i' ≤ j + 1 ∧ SRow w blk off d wr dk ∧ scanUp (fun x => !lt dk[a]! x) dk j i' = scanUp (fun x => !lt dk[a]! x) dk j i) (fun s _ => j + 1 - (intOf s).toNat)
      case atStart => exact ⟨i, rfl, Nat.le_refl _, hij, AR.out, rfl⟩
      case round =>
        obtain ⟨i', rfl, hii, hij', hR1, hS⟩ := hrel
        obtain ⟨hcw, hfw⟩ := AC.out _ hR1
        have AR1 := Lib.hid hR1
        have AS := Lib.hid hS
        clear hR1 hS
        by_cases hle : i' ≤ j
        · go_wp2_with fail
          go_big_quiet (first | (go_at_call 114; refine Calls.quiet_of_same (less_any _ _ _)))
          go_wp2
          · have ht : (!lt (G a) (G i')) = true := by assumption
            go_roundw
            case rel => exact ⟨i' + 1, by go_num, by omega, by omega, AR1.out.drew nq, (scanUp_go (fun x => !lt dk[a]! x) dk j i' hle (by rw [← AG.out a, ← AG.out i']; exact ht)).symm.trans AS.out⟩
            case measure => simp [intOf]; omega
          · have ht : (!lt (G a) (G i')) = false := by assumption
            go_meet
            case rel => exact ⟨i', rfl, ((scanUp_end (fun x => !lt dk[a]! x) dk j i' (Or.inr (by rw [← AG.out a, ← AG.out i']; exact ht))).symm.trans AS.out), hii, hij', AR1.out.drew nq⟩
        · go_wp2_with fail
          go_big_quiet (first | (go_at_call 114; refine Calls.quiet_of_same (less_any _ _ _)))
          go_wp2
          go_meet
          case rel => exact ⟨i', rfl, ((scanUp_end (fun x => !lt dk[a]! x) dk j i' (Or.inl hle)).symm.trans AS.out), hii, hij', AR1.out.drew nq⟩
    case rest =>
      obtain ⟨i2, rfl, hi2, hii2, hij2, hR2⟩ := hcut
      have AI := Lib.hid hi2
      have AR2 := Lib.hid hR2
      clear hi2 hR2 AR
      go_upto_block 4 with fail
      go_cut [10]  (fun s wx => ∃ j2 : Nat, s = .int .i64 j2 ∧ j2 = scanDown (fun x => lt dk[a]! x) dk i2 j ∧ j2 ≤ j ∧ i2 ≤ j2 + 1 ∧ SRow w blk off d wx dk)
      case first =>
        go_wp2_with fail
        go_loopw [10] (fun s wr => ∃ j' : Nat, s = .int .i64 j' ∧ j' ≤ j ∧ i2 ≤ j' + 1 ∧ SRow w blk off d wr dk ∧ scanDown (fun x => lt dk[a]! x) dk i2 j' = scanDown (fun x => lt dk[a]! x) dk i2 j) (fun s _ => (intOf s).toNat)
        case atStart => exact ⟨j, rfl, Nat.le_refl _, hij2, AR2.out, rfl⟩
        case round =>
          obtain ⟨j', rfl, hjj, hij', hR1, hS⟩ := hrel
          obtain ⟨hcw, hfw⟩ := AC.out _ hR1
          have AR1 := Lib.hid hR1
          have AS := Lib.hid hS
          clear hR1 hS
          by_cases hle : i2 ≤ j'
          · go_wp2_with fail
            go_big_quiet (first | (go_at_call 114; refine Calls.quiet_of_same (less_any _ _ _)))
            go_wp2
            · have ht : lt (G a) (G j') = true := by assumption
              go_roundw
              case rel => exact ⟨j' - 1, by go_num, by omega, by omega, AR1.out.drew nq, (scanDown_go (fun x => lt dk[a]! x) dk i2 j' hle (by omega) (by rw [← AG.out a, ← AG.out j']; exact ht)).symm.trans AS.out⟩
              case measure => simp [intOf]; omega
            · have ht : lt (G a) (G j') = false := by assumption
              go_meet
              case rel => exact ⟨j', rfl, ((scanDown_end (fun x => lt dk[a]! x) dk i2 j' (Or.inr (by rw [← AG.out a, ← AG.out j']; exact ht))).symm.trans AS.out), hjj, hij', AR1.out.drew nq⟩
          · go_wp2_with fail
            go_big_quiet (first | (go_at_call 114; refine Calls.quiet_of_same (less_any _ _ _)))
            go_wp2
            go_meet
            case rel => exact ⟨j', rfl, ((scanDown_end (fun x => lt dk[a]! x) dk i2 j' (Or.inl hle)).symm.trans AS.out), hjj, hij', AR1.out.drew nq⟩
      case rest =>
        obtain ⟨j2, rfl, hj2, hjj2, hij3, hR3⟩ := hcut
        obtain ⟨hcw, hfw⟩ := AC.out _ hR3
        have AJ := Lib.hid hj2
        have AR3 := Lib.hid hR3
        clear hj2 hR3 AR2
        by_cases hle : i2 ≤ j2
        · have hlt := scans_lt lt a i j dk (by omega) AI.out AJ.out hle
          obtain ⟨v3, hy3⟩ := cell?_setCell_some (w := wc) (p := ⟨blk, off + i2, none⟩) (x := .int .u64 (G j2)) (q := ⟨blk, off + j2, none⟩) (hcw j2 (by omega))
          have hle2 : ¬ ((j2 : Int) < (i2 : Int)) := by omega
          go_wp2
          go_region
          all_goals go_wp2
          all_goals go_roundw
          case rel => exact ⟨i2 + 1, j2 - 1, swp dk i2 j2, by go_num, by go_num, by omega, by omega, by omega, AP.out _ AR3.out 1 i2 j2 (by omega) (by omega), (partEq_go lt a i j dk AI.out AJ.out (by omega)).symm.trans AE.out⟩
          case measure => simp [intOf]; omega
        · have hlt : (j2 : Int) < (i2 : Int) := by omega
          go_wp2
          go_ret
          have e := partEq_break lt a i j dk AI.out AJ.out (by omega)
          have e2 : Sort.partitionEqual lt d a b pv = (i2, dk) := by unfold Sort.partitionEqual; rw [← AE.out, e]
          rw [e2]
          exact ⟨rfl, AR3.out⟩
end Go.Proofs.Ytjbpaapglamilaa

namespace Go.Proofs.Ytjbpaapglamilaa
open Go.RowKit Go.Shelf Go.Sort W
set_option linter.unusedVariables false
set_option maxHeartbeats 12800000 in
set_option maxRecDepth 100000 in
theorem prt_any (blk off cap a b pv : Nat) (d : Array Int) (w : World) (hH : Holds eU w blk off d) (hap : a ≤ pv) (hpb : pv < b) (hb : b ≤ d.size) (hsz : d.size < 4611686018427387904) :
    Calls Try.prog 116 #[.slice (some ⟨blk, off, none⟩) d.size cap, .int .i64 a, .int .i64 b, .int .i64 pv] w fun e w' =>
      e = .returned (.tuple #[.int .i64 (Sort.partition lt d a b pv).1, .bool (Sort.partition lt d a b pv).2.1]) ∧ SRow w blk off d w' (Sort.partition lt d a b pv).2.2 := by
  obtain ⟨G0, hG0⟩ : ∃ G : Nat → Int, ∀ t, G t = d[t]! := ⟨fun t => d[t]!, fun _ => rfl⟩
  have hda : a < d.size := by omega
  have hdp : pv < d.size := by omega
  have ca : w.cell? ⟨blk, off + a, none⟩ = some (.int .u64 (G0 a)) := by rw [hG0]; exact (hH a hda).1
  have cp : w.cell? ⟨blk, off + pv, none⟩ = some (.int .u64 (G0 pv)) := by rw [hG0]; exact (hH pv hdp).1
  have fa := (hH a hda).2
  have fp := (hH pv hdp).2
  obtain ⟨v', hy'⟩ := cell?_setCell_some (w := w) (p := ⟨blk, off + a, none⟩) (x := .int .u64 (G0 pv)) (q := ⟨blk, off + pv, none⟩) cp
  have hsw : ∀ q, SRow w blk off d (((w.drewN q).setCell ⟨blk, off + a, none⟩ (eU (G0 pv))).setCell ⟨blk, off + pv, none⟩ (eU (G0 a))) (swp d a pv) := fun q => by
    rw [hG0, hG0]; exact (SRow.start hH).swap q a pv hda hdp
  have AW := Lib.hid hsw
  have AH := Lib.hid hH
  clear hsw hH hG0
  go_enter Try.func116, Try.ntmps116
  go_wp2
  go_region
  go_upto_block 0 with fail
  clear ca cp fa fp hy' v'
  have hR := AW.out 1
  clear AW
  obtain ⟨W1, hW1⟩ : ∃ W1, W1 = ((w.setCell ⟨blk, off + a, none⟩ (.int .u64 (G0 pv))).setCell ⟨blk, off + pv, none⟩ (.int .u64 (G0 a))).drew := ⟨_, rfl⟩
  have hR' : SRow w blk off d W1 (swp d a pv) := by rw [hW1]; exact hR
  rw [← hW1]
  clear hW1 hR
  obtain ⟨dk, hdk⟩ : ∃ dk, dk = swp d a pv := ⟨_, rfl⟩
  rw [← hdk] at hR'
  have e1 : ((a : Int) + 1) = ((a + 1 : Nat) : Int) := by omega
  have e2 : ((b : Int) - 1) = ((b - 1 : Nat) : Int) := by omega
  rw [e1, e2]
  clear e1 e2
  obtain ⟨i, hi⟩ : ∃ i, i = a + 1 := ⟨_, rfl⟩
  obtain ⟨j, hj⟩ : ∃ j, j = b - 1 := ⟨_, rfl⟩
  rw [← hi, ← hj]
  have hai : a < i := by omega
  have hij : i ≤ j + 1 := by omega
  have hjb : j < b := by omega
  have XI := Lib.hid hi
  have XJ := Lib.hid hj
  have XD := Lib.hid hdk
  have AR := Lib.hid hR'
  clear hi hj hdk hR'
  obtain ⟨G, hG⟩ : ∃ G : Nat → Int, ∀ t, G t = dk[t]! := ⟨fun t => dk[t]!, fun _ => rfl⟩
  have cells : ∀ W', SRow w blk off d W' dk → (∀ t, t < d.size → W'.cell? ⟨blk, off + t, none⟩ = some (.int .u64 (G t))) ∧ (∀ t, t < d.size → W'.frozen? ⟨blk, off + t, none⟩ = false) := fun W' h => ⟨fun t ht => by rw [hG]; exact (h.cells AH.out t ht).1, fun t ht => (h.cells AH.out t ht).2⟩
  have swaps : ∀ W', SRow w blk off d W' dk → ∀ q x y, x < d.size → y < d.size → SRow w blk off d (((W'.drewN q).setCell ⟨blk, off + x, none⟩ (eU (G y))).setCell ⟨blk, off + y, none⟩ (eU (G x))) (swp dk x y) := fun W' h q x y hx hy => by rw [hG, hG]; exact h.swap q x y hx hy
  have AC := Lib.hid cells
  have AP := Lib.hid swaps
  have AG := Lib.hid hG
  clear cells swaps hG
  go_upto_block 0 with fail
  go_cut [10]  (fun s wx => ∃ i2 : Nat, s = .int .i64 i2 ∧ i2 = scanUp (fun x => lt x dk[a]!) dk j i ∧ i ≤ i2 ∧ i2 ≤ j + 1 ∧ SRow w blk off d wx dk)
  case first =>
    go_wp2_with fail
    go_loopw [10] (fun s wr => ∃ i' : Nat, s = .int .i64 i' ∧ i ≤ i' ∧ i' ≤ j + 1 ∧ SRow w blk off d wr dk ∧ scanUp (fun x => lt x dk[a]!) dk j i' = scanUp (fun x => lt x dk[a]!) dk j i) (fun s _ => j + 1 - (intOf s).toNat)
    case atStart => exact ⟨i, rfl, Nat.le_refl _, hij, AR.out, rfl⟩
    case round =>
      obtain ⟨i', rfl, hii, hij', hR1, hS⟩ := hrel
      obtain ⟨hcw, hfw⟩ := AC.out _ hR1
      have AR1 := Lib.hid hR1
      have AS := Lib.hid hS
      clear hR1 hS
      by_cases hle : i' ≤ j
      · go_wp2_with fail
        go_big_quiet (first | (go_at_call 114; refine Calls.quiet_of_same (less_any _ _ _)))
        go_wp2
        · have ht : lt (G i') (G a) = true := by assumption
          go_roundw
          case rel => exact ⟨i' + 1, by go_num, by omega, by omega, AR1.out.drew nq, (scanUp_go (fun x => lt x dk[a]!) dk j i' hle (by rw [← AG.out a, ← AG.out i']; exact ht)).symm.trans AS.out⟩
          case measure => simp [intOf]; omega
        · have ht : lt (G i') (G a) = false := by assumption
          go_meet
          case rel => exact ⟨i', rfl, ((scanUp_end (fun x => lt x dk[a]!) dk j i' (Or.inr (by rw [← AG.out a, ← AG.out i']; exact ht))).symm.trans AS.out), hii, hij', AR1.out.drew nq⟩
      · go_wp2_with fail
        go_big_quiet (first | (go_at_call 114; refine Calls.quiet_of_same (less_any _ _ _)))
        go_wp2
        go_meet
        case rel => exact ⟨i', rfl, ((scanUp_end (fun x => lt x dk[a]!) dk j i' (Or.inl hle)).symm.trans AS.out), hii, hij', AR1.out.drew nq⟩
  case rest =>
    obtain ⟨i2, rfl, hi2, hii2, hij2, hR2⟩ := hcut
    have AI := Lib.hid hi2
    have AR2 := Lib.hid hR2
    clear hi2 hR2 AR
    go_upto_block 2 with fail
    go_cut [11]  (fun s wx => ∃ j2 : Nat, s = .int .i64 j2 ∧ j2 = scanDown (fun x => !lt x dk[a]!) dk i2 j ∧ j2 ≤ j ∧ i2 ≤ j2 + 1 ∧ SRow w blk off d wx dk)
    case first =>
      go_wp2_with fail
      go_loopw [11] (fun s wr => ∃ j' : Nat, s = .int .i64 j' ∧ j' ≤ j ∧ i2 ≤ j' + 1 ∧ SRow w blk off d wr dk ∧ scanDown (fun x => !lt x dk[a]!) dk i2 j' = scanDown (fun x => !lt x dk[a]!) dk i2 j) (fun s _ => (intOf s).toNat)
      case atStart => exact ⟨j, rfl, Nat.le_refl _, hij2, AR2.out, rfl⟩
      case round =>
        obtain ⟨j', rfl, hjj, hij', hR1, hS⟩ := hrel
        obtain ⟨hcw, hfw⟩ := AC.out _ hR1
        have AR1 := Lib.hid hR1
        have AS := Lib.hid hS
        clear hR1 hS
        by_cases hle : i2 ≤ j'
        · go_wp2_with fail
          go_big_quiet (first | (go_at_call 114; refine Calls.quiet_of_same (less_any _ _ _)))
          go_wp2
          · have ht : (!lt (G j') (G a)) = true := by assumption
            go_roundw
            case rel => exact ⟨j' - 1, by go_num, by omega, by omega, AR1.out.drew nq, (scanDown_go (fun x => !lt x dk[a]!) dk i2 j' hle (by omega) (by rw [← AG.out a, ← AG.out j']; exact ht)).symm.trans AS.out⟩
            case measure => simp [intOf]; omega
          · have ht : (!lt (G j') (G a)) = false := by assumption
            go_meet
            case rel => exact ⟨j', rfl, ((scanDown_end (fun x => !lt x dk[a]!) dk i2 j' (Or.inr (by rw [← AG.out a, ← AG.out j']; exact ht))).symm.trans AS.out), hjj, hij', AR1.out.drew nq⟩
        · go_wp2_with fail
          go_big_quiet (first | (go_at_call 114; refine Calls.quiet_of_same (less_any _ _ _)))
          go_wp2
          go_meet
          case rel => exact ⟨j', rfl, ((scanDown_end (fun x => !lt x dk[a]!) dk i2 j' (Or.inl hle)).symm.trans AS.out), hjj, hij', AR1.out.drew nq⟩
    case rest =>
      obtain ⟨j2, rfl, hj2, hjj2, hij3, hR3⟩ := hcut
      obtain ⟨hcw, hfw⟩ := AC.out _ hR3
      have AJ := Lib.hid hj2
      have AR3 := Lib.hid hR3
      clear hj2 hR3 AR2
      by_cases hle : i2 ≤ j2
      · have hlt := part_scans_lt lt a i j dk (by omega) AI.out AJ.out hle
        obtain ⟨v3, hy3⟩ := cell?_setCell_some (w := wc) (p := ⟨blk, off + i2, none⟩) (x := .int .u64 (G j2)) (q := ⟨blk, off + j2, none⟩) (hcw j2 (by omega))
        have hle2 : ¬ ((j2 : Int) < (i2 : Int)) := by omega
        obtain ⟨R, hRR⟩ : ∃ R, R = partLoop lt a (i2 + 1) (j2 - 1) (swp dk i2 j2) := ⟨_, rfl⟩
        have hP : Sort.partition lt d a b pv = (R.1, false, swp R.2 R.1 a) := by rw [hRR]; exact part_first_go lt d a b pv XI.out XJ.out XD.out AI.out AJ.out (by omega)
        have XP := Lib.hid hP
        have XR := Lib.hid hRR
        have XS := Lib.hid (AP.out _ AR3.out 1 i2 j2 (by omega) (by omega))
        clear hP hRR
        go_wp2
        go_region
        all_goals go_wp2
        go_loopw [10, 11] (fun s10 s11 wr => ∃ (i j : Nat) (dk : Array Int), s10 = .int .i64 i ∧ s11 = .int .i64 j ∧ a < i ∧ i ≤ j + 1 ∧ j < b ∧ SRow w blk off d wr dk ∧ partLoop lt a i j dk = R) (fun s10 s11 _ => (intOf s11).toNat + 1 - (intOf s10).toNat)
        case atStart => exact ⟨i2 + 1, j2 - 1, swp dk i2 j2, by go_num, by go_num, by omega, by omega, by omega, XS.out, XR.out.symm⟩
        case round =>
          clear XI XJ XD AR3 AI AJ XS XR AC AP AG hcw hfw hy3 v3 hle hlt hle2 hii2 hij2 hjj2 hij3 hai hij hjb
          obtain ⟨i, j, dk, rfl, rfl, hai, hij, hjb, hR, hE⟩ := hrel
          have AE := Lib.hid hE
          have AR := Lib.hid hR
          clear hE hR
          obtain ⟨G, hG⟩ : ∃ G : Nat → Int, ∀ t, G t = dk[t]! := ⟨fun t => dk[t]!, fun _ => rfl⟩
          have cells : ∀ W', SRow w blk off d W' dk → (∀ t, t < d.size → W'.cell? ⟨blk, off + t, none⟩ = some (.int .u64 (G t))) ∧ (∀ t, t < d.size → W'.frozen? ⟨blk, off + t, none⟩ = false) := fun W' h => ⟨fun t ht => by rw [hG]; exact (h.cells AH.out t ht).1, fun t ht => (h.cells AH.out t ht).2⟩
          have swaps : ∀ W', SRow w blk off d W' dk → ∀ q x y, x < d.size → y < d.size → SRow w blk off d (((W'.drewN q).setCell ⟨blk, off + x, none⟩ (eU (G y))).setCell ⟨blk, off + y, none⟩ (eU (G x))) (swp dk x y) := fun W' h q x y hx hy => by rw [hG, hG]; exact h.swap q x y hx hy
          have AC := Lib.hid cells
          have AP := Lib.hid swaps
          have AG := Lib.hid hG
          clear cells swaps hG
          go_upto_block 6 with fail
          go_cut [10]  (fun s wx => ∃ i2 : Nat, s = .int .i64 i2 ∧ i2 = scanUp (fun x => lt x dk[a]!) dk j i ∧ i ≤ i2 ∧ i2 ≤ j + 1 ∧ SRow w blk off d wx dk)
          case first =>
            go_wp2_with fail
            go_loopw [10] (fun s wr => ∃ i' : Nat, s = .int .i64 i' ∧ i ≤ i' ∧ i' ≤ j + 1 ∧ SRow w blk off d wr dk ∧ scanUp (fun x => lt x dk[a]!) dk j i' = scanUp (fun x => lt x dk[a]!) dk j i) (fun s _ => j + 1 - (intOf s).toNat)
            case atStart => exact ⟨i, rfl, Nat.le_refl _, hij, AR.out, rfl⟩
            case round =>
              obtain ⟨i', rfl, hii, hij', hR1, hS⟩ := hrel
              obtain ⟨hcw, hfw⟩ := AC.out _ hR1
              have AR1 := Lib.hid hR1
              have AS := Lib.hid hS
              clear hR1 hS
              by_cases hle : i' ≤ j
              · go_wp2_with fail
                go_big_quiet (first | (go_at_call 114; refine Calls.quiet_of_same (less_any _ _ _)))
                go_wp2
                · have ht : lt (G i') (G a) = true := by assumption
                  go_roundw
                  case rel => exact ⟨i' + 1, by go_num, by omega, by omega, AR1.out.drew nq, (scanUp_go (fun x => lt x dk[a]!) dk j i' hle (by rw [← AG.out a, ← AG.out i']; exact ht)).symm.trans AS.out⟩
                  case measure => simp [intOf]; omega
                · have ht : lt (G i') (G a) = false := by assumption
                  go_meet
                  case rel => exact ⟨i', rfl, ((scanUp_end (fun x => lt x dk[a]!) dk j i' (Or.inr (by rw [← AG.out a, ← AG.out i']; exact ht))).symm.trans AS.out), hii, hij', AR1.out.drew nq⟩
              · go_wp2_with fail
                go_big_quiet (first | (go_at_call 114; refine Calls.quiet_of_same (less_any _ _ _)))
                go_wp2
                go_meet
                case rel => exact ⟨i', rfl, ((scanUp_end (fun x => lt x dk[a]!) dk j i' (Or.inl hle)).symm.trans AS.out), hii, hij', AR1.out.drew nq⟩
          case rest =>
            obtain ⟨i2, rfl, hi2, hii2, hij2, hR2⟩ := hcut
            have AI := Lib.hid hi2
            have AR2 := Lib.hid hR2
            clear hi2 hR2 AR
            go_upto_block 8 with fail
            go_cut [11]  (fun s wx => ∃ j2 : Nat, s = .int .i64 j2 ∧ j2 = scanDown (fun x => !lt x dk[a]!) dk i2 j ∧ j2 ≤ j ∧ i2 ≤ j2 + 1 ∧ SRow w blk off d wx dk)
            case first =>
              go_wp2_with fail
              go_loopw [11] (fun s wr => ∃ j' : Nat, s = .int .i64 j' ∧ j' ≤ j ∧ i2 ≤ j' + 1 ∧ SRow w blk off d wr dk ∧ scanDown (fun x => !lt x dk[a]!) dk i2 j' = scanDown (fun x => !lt x dk[a]!) dk i2 j) (fun s _ => (intOf s).toNat)
              case atStart => exact ⟨j, rfl, Nat.le_refl _, hij2, AR2.out, rfl⟩
              case round =>
                obtain ⟨j', rfl, hjj, hij', hR1, hS⟩ := hrel
                obtain ⟨hcw, hfw⟩ := AC.out _ hR1
                have AR1 := Lib.hid hR1
                have AS := Lib.hid hS
                clear hR1 hS
                by_cases hle : i2 ≤ j'
                · go_wp2_with fail
                  go_big_quiet (first | (go_at_call 114; refine Calls.quiet_of_same (less_any _ _ _)))
                  go_wp2
                  · have ht : (!lt (G j') (G a)) = true := by assumption
                    go_roundw
                    case rel => exact ⟨j' - 1, by go_num, by omega, by omega, AR1.out.drew nq, (scanDown_go (fun x => !lt x dk[a]!) dk i2 j' hle (by omega) (by rw [← AG.out a, ← AG.out j']; exact ht)).symm.trans AS.out⟩
                    case measure => simp [intOf]; omega
                  · have ht : (!lt (G j') (G a)) = false := by assumption
                    go_meet
                    case rel => exact ⟨j', rfl, ((scanDown_end (fun x => !lt x dk[a]!) dk i2 j' (Or.inr (by rw [← AG.out a, ← AG.out j']; exact ht))).symm.trans AS.out), hjj, hij', AR1.out.drew nq⟩
                · go_wp2_with fail
                  go_big_quiet (first | (go_at_call 114; refine Calls.quiet_of_same (less_any _ _ _)))
                  go_wp2
                  go_meet
                  case rel => exact ⟨j', rfl, ((scanDown_end (fun x => !lt x dk[a]!) dk i2 j' (Or.inl hle)).symm.trans AS.out), hjj, hij', AR1.out.drew nq⟩
            case rest =>
              obtain ⟨j2, rfl, hj2, hjj2, hij3, hR3⟩ := hcut
              obtain ⟨hcw, hfw⟩ := AC.out _ hR3
              have AJ := Lib.hid hj2
              have AR3 := Lib.hid hR3
              clear hj2 hR3 AR2
              by_cases hle : i2 ≤ j2
              · have hlt := part_scans_lt lt a i j dk (by omega) AI.out AJ.out hle
                obtain ⟨v3, hy3⟩ := cell?_setCell_some (w := wc) (p := ⟨blk, off + i2, none⟩) (x := .int .u64 (G j2)) (q := ⟨blk, off + j2, none⟩) (hcw j2 (by omega))
                have hle2 : ¬ ((j2 : Int) < (i2 : Int)) := by omega
                go_wp2
                go_region
                all_goals go_wp2
                all_goals go_roundw
                case rel => exact ⟨i2 + 1, j2 - 1, swp dk i2 j2, by go_num, by go_num, by omega, by omega, by omega, AP.out _ AR3.out 1 i2 j2 (by omega) (by omega), (part_go lt a i j dk AI.out AJ.out (by omega)).symm.trans AE.out⟩
                case measure => simp [intOf]; omega
              · have e0 := (part_break lt a i j dk AI.out AJ.out (by omega)).symm.trans AE.out
                have e2 : Sort.partition lt d a b pv = (j2, false, swp dk j2 a) := by rw [XP.out, ← e0]
                clear e0
                have X2 := Lib.hid e2
                clear e2
                have hlt : (j2 : Int) < (i2 : Int) := by omega
                have hlj : j2 < d.size := by omega
                obtain ⟨v3, hy3⟩ := cell?_setCell_some (w := wc) (p := ⟨blk, off + j2, none⟩) (x := .int .u64 (G a)) (q := ⟨blk, off + a, none⟩) (hcw a (by omega))
                go_wp2
                go_region
                all_goals go_wp2
                all_goals go_ret2
                rw [X2.out]
                exact ⟨rfl, AP.out _ AR3.out 1 j2 a (by omega) (by omega)⟩
      · have e2 : Sort.partition lt d a b pv = (j2, true, swp dk j2 a) := part_first_break lt d a b pv XI.out XJ.out XD.out AI.out AJ.out (by omega)
        have X2 := Lib.hid e2
        clear e2
        have hlt : (j2 : Int) < (i2 : Int) := by omega
        have hlj : j2 < d.size := by omega
        obtain ⟨v3, hy3⟩ := cell?_setCell_some (w := wc) (p := ⟨blk, off + j2, none⟩) (x := .int .u64 (G a)) (q := ⟨blk, off + a, none⟩) (hcw a (by omega))
        go_wp2
        go_region
        all_goals go_wp2
        all_goals go_ret2
        rw [X2.out]
        exact ⟨rfl, AP.out _ AR3.out 1 j2 a (by omega) (by omega)⟩
end Go.Proofs.Ytjbpaapglamilaa

namespace Go.Proofs.Ytjbpaapglamilaa
open Go.RowKit Go.Shelf Go.Sort W
set_option linter.unusedVariables false
set_option maxHeartbeats 6400000 in
set_option maxRecDepth 100000 in
theorem pin_any (blk off cap a b : Nat) (d : Array Int) (w : World) (hH : Holds eU w blk off d) (hab : a < b) (hb : b ≤ d.size) (hsz : d.size < 4611686018427387904) :
    Calls Try.prog 113 #[.slice (some ⟨blk, off, none⟩) d.size cap, .int .i64 a, .int .i64 b] w fun e w' => e = .returned (.bool (Sort.partialInsertionSort lt d a b).2) ∧ SRow w blk off d w' (Sort.partialInsertionSort lt d a b).1 := by
  have AH := Lib.hid hH
  have A0 := Lib.hid (SRow.start hH)
  clear hH
  go_enter Try.func113, Try.ntmps113
  go_wp2
  go_loopw [7, 8] (fun s7 s8 wr => ∃ (i s : Nat) (dk : Array Int), s7 = .int .i64 i ∧ s8 = .int .i64 s ∧ s ≤ 5 ∧ a < i ∧ i ≤ b ∧ SRow w blk off d wr dk ∧ partialIns lt a b (5 - s) i dk = partialIns lt a b 5 (a + 1) d) (fun _ s8 _ => 5 - (intOf s8).toNat)
  case atStart => exact ⟨a + 1, 0, d, by go_num, rfl, by omega, by omega, by omega, A0.out, rfl⟩
  case round =>
    obtain ⟨i, s, dk, rfl, rfl, hs5, hai, hib, hR, hO⟩ := hrel
    have AR := Lib.hid hR
    have AO := Lib.hid hO
    clear hR hO A0
    go_upto_block 2 with fail
    · have hs : s < 5 := by omega
      obtain ⟨G, hG⟩ : ∃ G : Nat → Int, ∀ t, G t = dk[t]! := ⟨fun t => dk[t]!, fun _ => rfl⟩
      have cells : ∀ W', SRow w blk off d W' dk → (∀ t, t < d.size → W'.cell? ⟨blk, off + t, none⟩ = some (.int .u64 (G t))) ∧ (∀ t, t < d.size → W'.frozen? ⟨blk, off + t, none⟩ = false) := fun W' h => ⟨fun t ht => by rw [hG]; exact (h.cells AH.out t ht).1, fun t ht => (h.cells AH.out t ht).2⟩
      have swaps : ∀ W', SRow w blk off d W' dk → ∀ q x y, x < d.size → y < d.size → SRow w blk off d (((W'.drewN q).setCell ⟨blk, off + x, none⟩ (eU (G y))).setCell ⟨blk, off + y, none⟩ (eU (G x))) (swp dk x y) := fun W' h q x y hx hy => by rw [hG, hG]; exact h.swap q x y hx hy
      have AC := Lib.hid cells
      have AP := Lib.hid swaps
      have AG := Lib.hid hG
      clear cells swaps hG
      go_upto_block 2 with fail
      go_cut [7] (fun s7 wx => ∃ k : Nat, s7 = .int .i64 k ∧ k = scanSorted lt dk b i ∧ i ≤ k ∧ k ≤ b ∧ SRow w blk off d wx dk)
      case first =>
        go_wp2_with fail
        go_loopw [7] (fun s7 wr => ∃ k : Nat, s7 = .int .i64 k ∧ i ≤ k ∧ k ≤ b ∧ SRow w blk off d wr dk ∧ scanSorted lt dk b k = scanSorted lt dk b i) (fun s7 _ => b - (intOf s7).toNat)
        case atStart => exact ⟨i, rfl, Nat.le_refl _, hib, AR.out, rfl⟩
        case round =>
          obtain ⟨k, rfl, hik, hkb, hR1, hS⟩ := hrel
          obtain ⟨hcw, hfw⟩ := AC.out _ hR1
          have AR1 := Lib.hid hR1
          have AS := Lib.hid hS
          clear hR1 hS
          by_cases hlt : k < b
          · go_wp2_with fail
            go_big_quiet (first | (go_at_call 114; refine Calls.quiet_of_same (less_any _ _ _)))
            go_wp2
            · have hl : lt (G k) (G (k - 1)) = false := by
                have h : (!lt (G k) (G (k - 1))) = true := by assumption
                simpa using h
              go_roundw
              case rel => exact ⟨k + 1, by go_num, by omega, by omega, AR1.out.drew nq, by rw [← AS.out, scanSorted_go lt dk b k hlt (by rw [← AG.out, ← AG.out]; exact hl)]⟩
              case measure => simp [intOf]; omega
            · have hl : lt (G k) (G (k - 1)) = true := by
                have h : (!lt (G k) (G (k - 1))) = false := by assumption
                simpa using h
              go_meet
              case rel => exact ⟨k, rfl, by rw [← AS.out, scanSorted_stop lt dk b k (Or.inr (by rw [← AG.out, ← AG.out]; exact hl))], hik, hkb, AR1.out.drew nq⟩
          · go_wp2_with fail
            go_big_quiet (first | (go_at_call 114; refine Calls.quiet_of_same (less_any _ _ _)))
            go_wp2
            go_meet
            case rel => exact ⟨k, rfl, by rw [← AS.out, scanSorted_stop lt dk b k (Or.inl hlt)], hik, hkb, AR1.out.drew nq⟩
      case rest =>
        obtain ⟨k, rfl, hk, hik, hkb, hR2⟩ := hcut
        obtain ⟨hcw, hfw⟩ := AC.out _ hR2
        have AK := Lib.hid hk
        have AR2 := Lib.hid hR2
        clear hk hR2 AR
        by_cases hkb' : k = b
        · have hv : Sort.partialInsertionSort lt d a b = (dk, true) := by
            unfold Sort.partialInsertionSort
            rw [← AO.out, pi_true lt a b s i dk hs (by rw [← AK.out]; exact hkb')]
          have AV := Lib.hid hv
          clear AK AO hv
          subst hkb'
          go_wp2
          go_ret
          rw [AV.out]
          exact ⟨rfl, AR2.out⟩
        · have hkz : ¬ ((k : Int) = (b : Int)) := by omega
          by_cases h50 : b - a < 50
          · have h50z : (b : Int) - (a : Int) < 50 := by omega
            have hv : Sort.partialInsertionSort lt d a b = (dk, false) := by
              unfold Sort.partialInsertionSort
              rw [← AO.out, pi_short lt a b s i dk hs (by rw [← AK.out]; exact hkb') h50]
            have AV := Lib.hid hv
            clear AK AO hv
            go_wp2
            go_ret
            rw [AV.out]
            exact ⟨rfl, AR2.out⟩
          · have h50z : ¬ ((b : Int) - (a : Int) < 50) := by omega
            have XS := Lib.hid (AP.out _ AR2.out 1 k (k - 1) (by omega) (by omega))
            go_wp2
            go_region
            go_upto_if 61 with fail
            go_cut [] (fun wx => SRow w blk off d wx (fixDown lt a k (swp dk k (k - 1))))
            case first =>
              by_cases h2 : k - a ≥ 2
              · have h2z : (2 : Int) ≤ (k : Int) - (a : Int) := by omega
                clear hcw hfw
                go_wp2
                go_loopw [9] (fun s9 wr => ∃ (j : Nat) (dj : Array Int), s9 = .int .i64 j ∧ j ≤ k - 1 ∧ SRow w blk off d wr dj ∧ shiftDown lt j dj = shiftDown lt (k - 1) (swp dk k (k - 1))) (fun s9 _ => (intOf s9).toNat)
                case atStart => exact ⟨k - 1, swp dk k (k - 1), by congr 1; omega, Nat.le_refl _, XS.out, rfl⟩
                case round =>
                  clear AC AP AG XS AR2
                  obtain ⟨j, dj, rfl, hjk, hR1, hD⟩ := hrel
                  obtain ⟨G, hG⟩ : ∃ G : Nat → Int, ∀ t, G t = dj[t]! := ⟨fun t => dj[t]!, fun _ => rfl⟩
                  have cells : ∀ W', SRow w blk off d W' dj → (∀ t, t < d.size → W'.cell? ⟨blk, off + t, none⟩ = some (.int .u64 (G t))) ∧ (∀ t, t < d.size → W'.frozen? ⟨blk, off + t, none⟩ = false) := fun W' h => ⟨fun t ht => by rw [hG]; exact (h.cells AH.out t ht).1, fun t ht => (h.cells AH.out t ht).2⟩
                  have swaps : ∀ W', SRow w blk off d W' dj → ∀ q x y, x < d.size → y < d.size → SRow w blk off d (((W'.drewN q).setCell ⟨blk, off + x, none⟩ (eU (G y))).setCell ⟨blk, off + y, none⟩ (eU (G x))) (swp dj x y) := fun W' h q x y hx hy => by rw [hG, hG]; exact h.swap q x y hx hy
                  have AC := Lib.hid cells
                  have AP := Lib.hid swaps
                  have AG := Lib.hid hG
                  clear cells swaps hG
                  obtain ⟨hcw, hfw⟩ := AC.out _ hR1
                  have AR1 := Lib.hid hR1
                  have AD := Lib.hid hD
                  clear hR1 hD
                  by_cases hj : 1 ≤ j
                  · have hjz : (1 : Int) ≤ (j : Int) := by omega
                    go_wp2_with fail
                    go_big_quiet (first | (go_at_call 114; refine Calls.quiet_of_same (less_any _ _ _)))
                    go_wp2
                    · have hl : lt (G j) (G (j - 1)) = false := by
                        have h : (!lt (G j) (G (j - 1))) = true := by assumption
                        simpa using h
                      go_meet
                      case rel =>
                        unfold fixDown
                        rw [if_pos h2, ← AD.out, shiftDown_stop lt j dj (Or.inr (by rw [← AG.out, ← AG.out]; exact hl))]
                        exact AR1.out.drew nq
                    · have hl : lt (G j) (G (j - 1)) = true := by
                        have h : (!lt (G j) (G (j - 1))) = false := by assumption
                        simpa using h
                      go_region
                      all_goals go_wp2
                      go_roundw
                      case rel => exact ⟨j - 1, swp dj j (j - 1), by congr 1; omega, by omega, AP.out _ AR1.out (nq + 1) j (j - 1) (by omega) (by omega), by rw [← AD.out, shiftDown_go lt j dj (by omega) (by rw [← AG.out, ← AG.out]; exact hl)]⟩
                      case measure => simp [intOf]; omega
                  · have hjz : ¬ ((1 : Int) ≤ (j : Int)) := by omega
                    go_wp2
                    go_meet
                    case rel =>
                      unfold fixDown
                      rw [if_pos h2, ← AD.out, shiftDown_stop lt j dj (Or.inl (by omega))]
                      exact AR1.out
              · have h2z : ¬ ((2 : Int) ≤ (k : Int) - (a : Int)) := by omega
                go_wp2
                go_meet
                case rel =>
                  unfold fixDown
                  rw [if_neg h2]
                  exact XS.out
            case rest =>
              obtain ⟨dj, hdj⟩ : ∃ dj, dj = fixDown lt a k (swp dk k (k - 1)) := ⟨_, rfl⟩
              rw [← hdj] at hcut
              have AD := Lib.hid hdj
              have AS := Lib.hid hcut
              clear hdj hcut XS AR2 hcw hfw AC AP AG
              by_cases h3 : b - k ≥ 2
              · have h3z : (2 : Int) ≤ (b : Int) - (k : Int) := by omega
                go_wp2
                go_loopw [10] (fun s10 wr => ∃ (j : Nat) (du : Array Int), s10 = .int .i64 j ∧ k + 1 ≤ j ∧ j ≤ b ∧ SRow w blk off d wr du ∧ shiftUp lt b j du = shiftUp lt b (k + 1) dj) (fun s10 _ => b - (intOf s10).toNat)
                case atStart => exact ⟨k + 1, dj, by go_num, Nat.le_refl _, by omega, AS.out, rfl⟩
                case round =>
                  clear AS
                  obtain ⟨j, du, rfl, hkj, hjb, hR1, hU⟩ := hrel
                  obtain ⟨G, hG⟩ : ∃ G : Nat → Int, ∀ t, G t = du[t]! := ⟨fun t => du[t]!, fun _ => rfl⟩
                  have cells : ∀ W', SRow w blk off d W' du → (∀ t, t < d.size → W'.cell? ⟨blk, off + t, none⟩ = some (.int .u64 (G t))) ∧ (∀ t, t < d.size → W'.frozen? ⟨blk, off + t, none⟩ = false) := fun W' h => ⟨fun t ht => by rw [hG]; exact (h.cells AH.out t ht).1, fun t ht => (h.cells AH.out t ht).2⟩
                  have swaps : ∀ W', SRow w blk off d W' du → ∀ q x y, x < d.size → y < d.size → SRow w blk off d (((W'.drewN q).setCell ⟨blk, off + x, none⟩ (eU (G y))).setCell ⟨blk, off + y, none⟩ (eU (G x))) (swp du x y) := fun W' h q x y hx hy => by rw [hG, hG]; exact h.swap q x y hx hy
                  have AC := Lib.hid cells
                  have AP := Lib.hid swaps
                  have AG := Lib.hid hG
                  clear cells swaps hG
                  obtain ⟨hcw, hfw⟩ := AC.out _ hR1
                  have AR1 := Lib.hid hR1
                  have AU := Lib.hid hU
                  clear hR1 hU
                  by_cases hj : j < b
                  · have hjz : (j : Int) < (b : Int) := by omega
                    go_wp2_with fail
                    go_big_quiet (first | (go_at_call 114; refine Calls.quiet_of_same (less_any _ _ _)))
                    go_wp2
                    · have hl : lt (G j) (G (j - 1)) = false := by
                        have h : (!lt (G j) (G (j - 1))) = true := by assumption
                        simpa using h
                      go_roundw
                      case rel =>
                        refine ⟨k, s + 1, du, rfl, by go_num, by omega, by omega, by omega, AR1.out.drew nq, ?_⟩
                        rw [← AO.out, pi_go lt a b s i k dk hs AK.out.symm (by omega) (by omega), ← AD.out, show fixUp lt b k dj = du from by unfold fixUp; rw [if_pos h3, ← AU.out, shiftUp_stop lt b j du (Or.inr (by rw [← AG.out, ← AG.out]; exact hl))]]
                      case measure => simp [intOf]; omega
                    · have hl : lt (G j) (G (j - 1)) = true := by
                        have h : (!lt (G j) (G (j - 1))) = false := by assumption
                        simpa using h
                      go_region
                      all_goals go_wp2
                      go_roundw
                      case rel => exact ⟨j + 1, swp du j (j - 1), by go_num, by omega, by omega, AP.out _ AR1.out (nq + 1) j (j - 1) (by omega) (by omega), by rw [← AU.out, shiftUp_go lt b j du (by omega) (by rw [← AG.out, ← AG.out]; exact hl)]⟩
                      case measure => simp [intOf]; omega
                  · have hjz : ¬ ((j : Int) < (b : Int)) := by omega
                    go_wp2
                    go_roundw
                    case rel =>
                      refine ⟨k, s + 1, du, rfl, by go_num, by omega, by omega, by omega, AR1.out, ?_⟩
                      rw [← AO.out, pi_go lt a b s i k dk hs AK.out.symm (by omega) (by omega), ← AD.out, show fixUp lt b k dj = du from by unfold fixUp; rw [if_pos h3, ← AU.out, shiftUp_stop lt b j du (Or.inl hj)]]
                    case measure => simp [intOf]; omega
              · have h3z : ¬ ((2 : Int) ≤ (b : Int) - (k : Int)) := by omega
                go_wp2
                go_roundw
                case rel =>
                  refine ⟨k, s + 1, dj, rfl, by go_num, by omega, by omega, by omega, AS.out, ?_⟩
                  rw [← AO.out, pi_go lt a b s i k dk hs AK.out.symm (by omega) (by omega), ← AD.out, show fixUp lt b k dj = dj from by unfold fixUp; rw [if_neg h3]]
                case measure => simp [intOf]; omega
    · obtain rfl : s = 5 := by omega
      have hv : Sort.partialInsertionSort lt d a b = (dk, false) := by
        unfold Sort.partialInsertionSort
        rw [← AO.out, pi_end]
      rw [hv]
      clear AO hv
      go_ret
      exact ⟨rfl, AR.out⟩
end Go.Proofs.Ytjbpaapglamilaa

namespace Go.Proofs.Ytjbpaapglamilaa
open Go.RowKit Go.Shelf Go.Sort W
set_option linter.unusedVariables false
theorem hint_two {h : Hint} (e : hintCode h = 2) : h = .decreasing := by cases h <;> simp [hintCode] at e ⊢
theorem an_eighth {x y p q : Nat} (h1 : q ≤ p) (h2 : y ≤ x) : decide (((x : Int) - (y : Int)) / 8 ≤ (p : Int) - (q : Int)) = decide (p - q ≥ (x - y) / 8) :=
  decide_eq_decide.2 ⟨fun h => by omega, fun h => by omega⟩
theorem SRow.ahead {w w' : World} {blk off : Nat} {d d' : Array Int} (h : SRow w blk off d w' d') : ∃ m, w' = putRow eU (Sort.ahead w m) blk off d' := h.2
set_option maxHeartbeats 12800000 in
set_option maxRecDepth 1000000 in
theorem pdq_any : ∀ (N blk off cap a b limit : Nat) (d : Array Int) (w : World), b - a < N → Holds eU w blk off d → blk < w.heap.size → a ≤ b → b ≤ d.size → d.size < 4611686018427387904 → limit < 4611686018427387904 → Sort.Below lt a b d →
    Calls Try.prog 104 #[.slice (some ⟨blk, off, none⟩) d.size cap, .int .i64 a, .int .i64 b, .int .i64 limit] w fun e w' => e = .returned (.tuple #[]) ∧ Sort.At eU w blk off (pdq lt d a b limit true true) w' := by
  intro N
  induction N with
  | zero => intro _ _ _ _ _ _ _ _ h; exact absurd h (Nat.not_lt_zero _)
  | succ N ih =>
    intro blk off cap a b limit d w hN hH hblk hab hb hsz hlimit hB0
    have S1 : SWO lt := swo_ltInt
    go_enter Try.func104, Try.ntmps104
    go_wp2
    go_loopg [1, 2, 3, 8, 9] (b - a) (fun k s1 s2 s3 s8 s9 wr => ∃ (a' b' lim : Nat) (wb wp : Bool) (dk : Array Int), s1 = .int .i64 a' ∧ s2 = .int .i64 b' ∧ s3 = .int .i64 lim ∧ s8 = .bool wb ∧ s9 = .bool wp ∧
      a' ≤ b' ∧ b' ≤ d.size ∧ b' - a' ≤ k ∧ k ≤ b - a ∧ lim ≤ limit ∧ dk.size = d.size ∧ Sort.Below lt a' b' dk ∧ Sort.At eU w blk off dk wr ∧ pdq lt dk a' b' lim wb wp = pdq lt d a b limit true true)
    case atStart => exact ⟨a, b, limit, true, true, d, rfl, rfl, rfl, rfl, rfl, hab, hb, Nat.le_refl _, Nat.le_refl _, Nat.le_refl _, rfl, hB0, At.refl hH, rfl⟩
    case round =>
      obtain ⟨a', b', lim, wb, wp, dk, rfl, rfl, rfl, rfl, rfl, hab', hb', hk, hkN, hlim, hds, hBel, hAt, heq⟩ := hrel
      obtain ⟨hHk, hblk'⟩ := hAt.holds hH hds hblk
      have A := Lib.hid heq
      clear heq
      by_cases h12 : b' - a' ≤ 12
      · have h12z : (b' : Int) - (a' : Int) ≤ 12 := by omega
        have hc := ins_any blk off cap a' b' dk wr hHk hab' (by omega) (by omega)
        rw [hds] at hc
        go_wp2_with (go_at_call 108; refine hc.mono ?_; rintro e w1 ⟨rfl, hw1⟩)
        (try simp only [Exit.inBlock, Exit.then]); refine bodyPost_ret (results_none rfl _ _ _) rfl ?_
        refine ⟨rfl, ?_⟩
        rw [← A.out, pdq_small h12]
        exact hAt.step hblk (insertionSort_holds S1 dk a' b' hab' (by omega)).1.1 hw1.ahead
      · have h12z : ¬ ((b' : Int) - (a' : Int) ≤ 12) := by omega
        by_cases hl0 : lim = 0
        · subst hl0
          have hc := hps_any blk off cap a' b' dk wr hHk hab' (by omega) (by omega)
          rw [hds] at hc
          go_wp2_with (go_at_call 109; refine hc.mono ?_; rintro e w1 ⟨rfl, hw1⟩)
          (try simp only [Exit.inBlock, Exit.then]); refine bodyPost_ret (results_none rfl _ _ _) rfl ?_
          refine ⟨rfl, ?_⟩
          rw [← A.out, pdq_heap h12 rfl]
          exact hAt.step hblk (heapSort_holds S1 dk a' b' hab' (by omega)).1.1 hw1.ahead
        · have hl0z : ¬ ((lim : Int) = 0) := by omega
          obtain ⟨s1, B1, hc1, s2, B2, hpv, s3, B3⟩ := rd_facts (limit := lim) (wb := wb) (wp := wp) S1 partialInsertionSort_holds reverseRange_holds (show a' < b' by omega) (show b' ≤ dk.size by omega) hBel
          go_upto_if 35 with fail
          go_cut [3] from 19 (fun s3 wc => s3 = .int .i64 (rd lt dk a' b' lim wb wp).lim ∧ Sort.At eU w blk off (rd lt dk a' b' lim wb wp).d1 wc)
          case first =>
            cases wb
            · have hc := brk_any blk off cap a' b' dk wr hHk hblk' hab' (by omega) (by omega)
              rw [hds] at hc
              go_wp2_with (go_at_call 110; refine hc.mono ?_; rintro e w1 ⟨rfl, hw1⟩)
              go_meet
              case rel =>
                refine ⟨?_, hAt.stepG hblk s1 hw1⟩
                show Value.int .i64 ((lim : Int) - 1) = Value.int .i64 ((lim - 1 : Nat) : Int)
                congr 1
                omega
            · go_wp2_with fail
              go_meet
              case rel => exact ⟨rfl, hAt⟩
          case rest =>
            obtain ⟨rfl, hAt1⟩ := hcut
            obtain ⟨hH1, hblk1⟩ := hAt1.holds hH (s1.trans hds) hblk
            have hc17 : Calls Try.prog 111 #[.slice (some ⟨blk, off, none⟩) d.size cap, .int .i64 a', .int .i64 b'] wc fun e w' => e = .returned (.tuple #[.int .i64 (rd lt dk a' b' lim wb wp).c.1, .int .i64 (hintCode (rd lt dk a' b' lim wb wp).c.2)]) ∧ ∃ n os, w' = grow (Sort.ahead wc n) os := by
              have := piv_any blk off cap a' b' (rd lt dk a' b' lim wb wp).d1 wc hH1 hblk1 (by omega) (by omega) (by omega)
              rw [s1, hds] at this
              exact this
            go_upto_if 50 with (go_at_call 111; refine hc17.mono ?_; rintro e w2 ⟨rfl, hw2⟩)
            have hAt2 : Sort.At eU w blk off (rd lt dk a' b' lim wb wp).d1 w2 := hAt1.same hH (s1.trans hds) hblk hw2
            obtain ⟨hH2, hblk2⟩ := hAt2.holds hH (s1.trans hds) hblk
            go_cut [11, 12] from 19 (fun s11 s12 wc => s11 = .int .i64 (rd lt dk a' b' lim wb wp).pivot ∧ s12 = .int .i64 (hintCode (rd lt dk a' b' lim wb wp).hint) ∧ Sort.At eU w blk off (rd lt dk a' b' lim wb wp).d2 wc)
            case first =>
              by_cases hh : (rd lt dk a' b' lim wb wp).c.2 = .decreasing
              · have hcode : hintCode (rd lt dk a' b' lim wb wp).c.2 = 2 := by rw [hh]; rfl
                obtain ⟨e2, epv, eht⟩ := rd_dec hh
                have hc18 := rev_any blk off cap a' b' (rd lt dk a' b' lim wb wp).d1 w2 hH2 hab' (by omega) (by omega)
                rw [s1, hds] at hc18
                go_wp2_with (go_at_call 112; refine hc18.mono ?_; rintro e w3 ⟨rfl, hw3⟩)
                go_meet
                case rel =>
                  refine ⟨?_, by rw [eht]; rfl, by rw [e2]; exact hAt2.step hblk (by rw [← e2, s2, s1]) hw3.ahead⟩
                  rw [epv]
                  congr 1
                  omega
              · have hcode : ¬ (hintCode (rd lt dk a' b' lim wb wp).c.2 = 2) := fun h => hh (hint_two h)
                obtain ⟨e2, epv, eht⟩ := rd_not hh
                go_wp2_with fail
                go_meet
                case rel => exact ⟨by rw [epv], by rw [eht], by rw [e2]; exact hAt2⟩
            case rest =>
              obtain ⟨rfl, rfl, hAt3⟩ := hcut
              obtain ⟨hH3, hblk3⟩ := hAt3.holds hH (s2.trans hds) hblk
              go_upto_region 15 with fail
              go_cut [12, 68] from 19 (fun s12 s68 wx => s12 = .int .i64 (hintCode (rd lt dk a' b' lim wb wp).hint) ∧ s68 = .bool (wb && wp && decide ((rd lt dk a' b' lim wb wp).hint = .increasing)) ∧ wx = wc)
              case first =>
                cases wb <;> cases wp <;> cases hh3 : (rd lt dk a' b' lim _ _).hint <;>
                  (have hcode3 := congrArg hintCode hh3
                   simp only [hintCode] at hcode3
                   go_wp2_with fail
                   go_meet
                   exact ⟨by simp [hh3, hintCode], by simp [hh3, hintCode], rfl⟩)
              case rest =>
                obtain ⟨rfl, rfl, rfl⟩ := hcut
                go_upto_if 68 with fail
                go_cut [] from 19 (fun wx => (rd lt dk a' b' lim wb wp).pi.2 = false ∧ Sort.At eU w blk off (rd lt dk a' b' lim wb wp).pi.1 wx)
                case first =>
                  cases h68 : (wb && wp && decide ((rd lt dk a' b' lim wb wp).hint = .increasing))
                  · have epi := rd_pi_no h68
                    go_wp2_with fail
                    go_meet
                    case rel => exact ⟨by rw [epi], by rw [epi]; exact hAt3⟩
                  · have epi := rd_pi_yes h68
                    have hc19 := pin_any blk off cap a' b' (rd lt dk a' b' lim wb wp).d2 wc hH3 (by omega) (by omega) (by omega)
                    rw [s2, hds, ← epi] at hc19
                    go_wp2_with (go_at_call 113; refine hc19.mono ?_; rintro e w4 ⟨rfl, hw4⟩)
                    all_goals first
                      | (have hp2 : (rd lt dk a' b' lim wb wp).pi.2 = false := by rw [epi]; assumption
                         go_meet
                         exact ⟨hp2, hAt3.step hblk (by rw [s3, s2]) hw4.ahead⟩)
                      | (have hp2 : (rd lt dk a' b' lim wb wp).pi.2 = true := by rw [epi]; assumption
                         (try simp only [Exit.inBlock, Exit.then]); refine bodyPost_ret (results_none rfl _ _ _) rfl ?_
                         refine ⟨rfl, ?_⟩
                         rw [← A.out, pdq_done h12 hl0 hp2]
                         exact hAt3.step hblk (by rw [s3, s2]) hw4.ahead)
                case rest =>
                  obtain ⟨hp2, hAt5⟩ := hcut
                  obtain ⟨hH5, hblk5⟩ := hAt5.holds hH (s3.trans hds) hblk
                  have hcw : ∀ t, t < d.size → wc.cell? ⟨blk, off + t, none⟩ = some (.int .u64 (rd lt dk a' b' lim wb wp).pi.1[t]!) := fun t ht => (hH5 t (by omega)).1
                  have hfw : ∀ t, t < d.size → wc.frozen? ⟨blk, off + t, none⟩ = false := fun t ht => (hH5 t (by omega)).2
                  go_upto_region 17 with fail
                  go_cut [87] from 19 (fun s87 wx => s87 = .bool (decide (a' > 0) && !lt (rd lt dk a' b' lim wb wp).pi.1[a' - 1]! (rd lt dk a' b' lim wb wp).pi.1[(rd lt dk a' b' lim wb wp).pivot]!) ∧ Sort.At eU w blk off (rd lt dk a' b' lim wb wp).pi.1 wx)
                  case first =>
                    rcases Nat.eq_zero_or_pos a' with ha0 | ha0
                    · have ha0z : decide ((a' : Int) > 0) = false := decide_eq_false (by omega)
                      go_big_quiet (first | (go_at_call 114; refine Calls.quiet_of_same (less_any _ _ _)))
                      go_wp2_with fail
                      go_meet
                      case rel => exact ⟨by simp [ha0], hAt5.ahead nq⟩
                    · have ha0z : (a' : Int) > 0 := by omega
                      go_big_quiet (first | (go_at_call 114; refine Calls.quiet_of_same (less_any _ _ _)))
                      go_wp2_with fail
                      go_meet
                      case rel => exact ⟨by simp [ha0], hAt5.ahead nq⟩
                  case rest =>
                    obtain ⟨rfl, hAt6⟩ := hcut
                    obtain ⟨hH6, hblk6⟩ := hAt6.holds hH (s3.trans hds) hblk
                    clear hcw hfw
                    cases h87 : (decide (a' > 0) && !lt (rd lt dk a' b' lim wb wp).pi.1[a' - 1]! (rd lt dk a' b' lim wb wp).pi.1[(rd lt dk a' b' lim wb wp).pivot]!)
                    · obtain ⟨mid, ap, d4, hx⟩ : ∃ mid ap d4, partition lt (rd lt dk a' b' lim wb wp).pi.1 a' b' (rd lt dk a' b' lim wb wp).pivot = (mid, ap, d4) := ⟨(partition lt (rd lt dk a' b' lim wb wp).pi.1 a' b' (rd lt dk a' b' lim wb wp).pivot).1, (partition lt (rd lt dk a' b' lim wb wp).pi.1 a' b' (rd lt dk a' b' lim wb wp).pivot).2.1, (partition lt (rd lt dk a' b' lim wb wp).pi.1 a' b' (rd lt dk a' b' lim wb wp).pivot).2.2, rfl⟩
                      obtain ⟨r1, r2, r3, r4, r5, r6, r7⟩ := round_part S1 (partition_holds lt) hpv.1 hpv.2 (show b' ≤ (rd lt dk a' b' lim wb wp).pi.1.size by omega) B3 hx
                      have hc22 := prt_any blk off cap a' b' (rd lt dk a' b' lim wb wp).pivot (rd lt dk a' b' lim wb wp).pi.1 wc hH6 hpv.1 hpv.2 (by omega) (by omega)
                      rw [s3, hds, hx] at hc22
                      have X := Lib.hid hx
                      clear hx
                      go_upto_if 113 with (go_at_call 116; refine hc22.mono ?_; rintro e w7 ⟨rfl, hw7⟩)
                      have hx := X.out
                      have hAt7 : Sort.At eU w blk off d4 w7 := hAt6.step hblk r3 hw7.ahead
                      obtain ⟨hH7, hblk7⟩ := hAt7.holds hH (r3.trans (s3.trans hds)) hblk
                      by_cases h4 : mid - a' < b' - mid
                      · have h4z : (mid : Int) - (a' : Int) < (b' : Int) - (mid : Int) := by omega
                        have hih := ih blk off cap a' mid (rd lt dk a' b' lim wb wp).lim d4 w7 (by omega) hH7 hblk7 (by omega) (by omega) (by omega) (Nat.lt_of_le_of_lt (Nat.le_trans rd_lim_le hlim) hlimit) r4
                        rw [r3, s3, hds] at hih
                        obtain ⟨pL, sL⟩ := pdq_sorts lt S1 d4 a' mid (rd lt dk a' b' lim wb wp).lim true true (by omega) (by omega) r4
                        go_wp2_with (go_at_call 104; refine hih.mono ?_; rintro e w8 ⟨rfl, hw8⟩)
                        go_roundg (b' - (mid + 1))
                        case measure => omega
                        case rel =>
                          refine ⟨mid + 1, b', (rd lt dk a' b' lim wb wp).lim, decide (mid - a' ≥ (b' - a') / 8), ap, pdq lt d4 a' mid (rd lt dk a' b' lim wb wp).lim true true, by simp, rfl, rfl, ?_, rfl, by omega, by omega, Nat.le_refl _, by omega, Nat.le_trans rd_lim_le hlim, by rw [pL.1, r3, s3, hds], (r6 _ pL sL).1, hAt7.stepG hblk pL.1 hw8, ?_⟩
                          · exact congrArg Value.bool (an_eighth (by omega) (by omega))
                          · rw [← A.out, pdq_left h12 hl0 hp2 h87 (by rw [hx]; exact ⟨r1, r2⟩) (by rw [hx]; exact h4), hx]
                      · have h4z : ¬ ((mid : Int) - (a' : Int) < (b' : Int) - (mid : Int)) := by omega
                        have hih := ih blk off cap (mid + 1) b' (rd lt dk a' b' lim wb wp).lim d4 w7 (by omega) hH7 hblk7 (by omega) (by omega) (by omega) (Nat.lt_of_le_of_lt (Nat.le_trans rd_lim_le hlim) hlimit) r5
                        rw [r3, s3, hds] at hih
                        obtain ⟨pL, sL⟩ := pdq_sorts lt S1 d4 (mid + 1) b' (rd lt dk a' b' lim wb wp).lim true true (by omega) (by omega) r5
                        go_wp2_with (go_at_call 104; refine hih.mono ?_; rintro e w8 ⟨rfl, hw8⟩)
                        go_roundg (mid - a')
                        case measure => omega
                        case rel =>
                          refine ⟨a', mid, (rd lt dk a' b' lim wb wp).lim, decide (b' - mid ≥ (b' - a') / 8), ap, pdq lt d4 (mid + 1) b' (rd lt dk a' b' lim wb wp).lim true true, rfl, rfl, rfl, ?_, rfl, by omega, by omega, Nat.le_refl _, by omega, Nat.le_trans rd_lim_le hlim, by rw [pL.1, r3, s3, hds], (r7 _ pL sL).1, hAt7.stepG hblk pL.1 hw8, ?_⟩
                          · exact congrArg Value.bool (an_eighth (by omega) (by omega))
                          · rw [← A.out, pdq_right h12 hl0 hp2 h87 (by rw [hx]; exact ⟨r1, r2⟩) (by rw [hx]; exact h4), hx]
                    · have h87' := h87
                      simp only [Bool.and_eq_true, decide_eq_true_eq, Bool.not_eq_true'] at h87'
                      obtain ⟨mid, d4, hx⟩ : ∃ mid d4, partitionEqual lt (rd lt dk a' b' lim wb wp).pi.1 a' b' (rd lt dk a' b' lim wb wp).pivot = (mid, d4) := ⟨(partitionEqual lt (rd lt dk a' b' lim wb wp).pi.1 a' b' (rd lt dk a' b' lim wb wp).pivot).1, (partitionEqual lt (rd lt dk a' b' lim wb wp).pi.1 a' b' (rd lt dk a' b' lim wb wp).pivot).2, rfl⟩
                      obtain ⟨r1, r2, r3, r4, _⟩ := round_eq S1 (partitionEqual_holds lt) h87'.1 hpv.1 hpv.2 (show b' ≤ (rd lt dk a' b' lim wb wp).pi.1.size by omega) B3 h87'.2 hx
                      have hc21 := peq_any blk off cap a' b' (rd lt dk a' b' lim wb wp).pivot (rd lt dk a' b' lim wb wp).pi.1 wc hH6 hpv.1 hpv.2 (by omega) (by omega)
                      rw [s3, hds, hx] at hc21
                      have X := Lib.hid hx
                      clear hx
                      go_wp2_with (go_at_call 115; refine hc21.mono ?_; rintro e w7 ⟨rfl, hw7⟩)
                      go_roundg (b' - mid)
                      case measure => omega
                      case rel =>
                        have hx := X.out
                        exact ⟨mid, b', (rd lt dk a' b' lim wb wp).lim, wb, wp, d4, rfl, rfl, rfl, rfl, rfl, r2, hb', Nat.le_refl _, by omega, Nat.le_trans rd_lim_le hlim, by rw [r3, s3, hds], r4, hAt6.step hblk r3 hw7.ahead, by rw [← A.out, pdq_eq h12 hl0 hp2 h87 (by rw [hx]; exact ⟨r1, r2⟩), hx]⟩
theorem bl_le : ∀ f x : Nat, Lib.bitLenAux f x ≤ f := by
  intro f
  induction f with
  | zero => intro x; simp [Lib.bitLenAux]
  | succ f ih => intro x; unfold Lib.bitLenAux; split; omega; have := ih (x / 2); omega
/-- The library's sort of up to m words, m below 2^62. -/
theorem sortU (m : Nat) (hm : m < 4611686018427387904) : SortU m := by
  refine ⟨fun blk cap ss W hH hblk hw hl => ?_, sort12.2⟩
  have hsz : ss.toArray.size = ss.length := by simp
  have hB : Sort.Below lt 0 ss.length ss.toArray := Or.inl rfl
  have cP := fun limit : Nat => fun hlim => pdq_any (ss.length + 1) blk 0 cap 0 ss.length limit ss.toArray W (by omega) hH hblk (Nat.zero_le _) (by simp) (by simp; omega) hlim hB
  rw [hsz] at cP
  have cB := Try.bits_Len ss.length W (by omega) (by omega)
  obtain ⟨L, hL⟩ : ∃ L, L = Lib.bitLen ss.length := ⟨_, rfl⟩
  have hbl : L ≤ 64 := by rw [hL]; exact bl_le 64 _
  have e1 : ((ss.length : Int)).toNat = ss.length := by omega
  rw [e1, ← hL] at cB
  have cP := cP L (by omega)
  clear hL
  refine Calls.mono (R := fun e w' => e = .returned (.tuple #[]) ∧ Sort.At eU W blk 0 (pdq lt ss.toArray 0 ss.length L true true) w') ?_ ?_
  · go_enter Try.func90, Try.ntmps90
    go_wp2_with (first
      | (go_at_call 63; refine cB.mono ?_; rintro e w1 ⟨rfl, rfl⟩)
      | (go_at_call 104; refine cP.mono ?_; rintro e w1 ⟨rfl, hR⟩))
    go_end0
    exact ⟨rfl, hR⟩
  · rintro e w' ⟨rfl, n, os, rfl⟩
    obtain ⟨hP, hS⟩ := pdq_sorts lt swo_ltInt ss.toArray 0 ss.length L true true (Nat.zero_le _) (by simp) hB
    rw [← hsz] at hP hS
    obtain ⟨h1, h2⟩ := sorted_list hP hS
    rw [hsz] at h1 h2
    exact ⟨rfl, _, n, os, h1, h2, by simp⟩
end Go.Proofs.Ytjbpaapglamilaa
