/- The library's sort of words, up to twelve of them. -/
import Derived.Test.YtpopcnebndgblaaGreatSrt
namespace Go.Proofs.YtpopcnebndgblaaGreat
open Go.RowKit Go.Shelf Go.Sort W
set_option linter.unusedVariables false
set_option maxRecDepth 100000 in
set_option maxHeartbeats 2000000 in
theorem pdq12_any (blk off cap a b limit : Nat) (d : Array Int) (w : World) (hH : Holds eU w blk off d) (hab : a ≤ b) (hb : b ≤ d.size) (hsz : d.size < 4611686018427387904) (h12 : b - a ≤ 12) :
    Calls Tryz.prog 124 #[.slice (some ⟨blk, off, none⟩) d.size cap, .int .i64 a, .int .i64 b, .int .i64 limit] w fun e w' => e = .returned (.tuple #[]) ∧ SRow w blk off d w' (Sort.insertionSort lt d a b) := by
  have cI := ins_any blk off cap a b d w hH hab hb hsz
  go_enter Tryz.func124, Tryz.ntmps124
  go_wp2
  go_loopw [1, 2, 3, 8, 9] (fun v1 v2 v3 v8 v9 wr => v1 = .int .i64 a ∧ v2 = .int .i64 b ∧ v3 = .int .i64 limit ∧ v8 = .bool true ∧ v9 = .bool true ∧ wr = w) (fun _ _ _ _ _ _ => 0)
  case atStart => exact ⟨rfl, rfl, rfl, rfl, rfl, rfl⟩
  case round =>
    obtain ⟨rfl, rfl, rfl, rfl, rfl, rfl⟩ := hrel
    have hz : ((b : Int) - (a : Int) ≤ 12) := by omega
    go_wp2_with (go_at_call 131; refine cI.mono ?_; rintro e w1 ⟨rfl, hR⟩)
    (try simp only [Exit.inBlock, Exit.then])
    refine bodyPost_ret (results_none rfl _ _ _) rfl ?_
    exact ⟨rfl, hR⟩
/-- Nothing at all: the nil slice. -/
theorem ins0_any (w : World) : Calls Tryz.prog 131 #[.slice none 0 0, .int .i64 0, .int .i64 0] w fun e w' => e = .returned (.tuple #[]) ∧ Below w.heap.size w w' := by
  go_enter Tryz.func131, Tryz.ntmps131
  go_wp2
  go_loopw [6] (fun v wr => v = .int .i64 1 ∧ wr = w) (fun _ _ => 0)
  case atStart => exact ⟨rfl, rfl⟩
  case round =>
    obtain ⟨rfl, rfl⟩ := hrel
    go_wp2
    go_end0
    exact ⟨rfl, Below.refl _ _⟩
set_option maxRecDepth 100000 in
set_option maxHeartbeats 2000000 in
theorem pdq0_any (limit : Int) (w : World) : Calls Tryz.prog 124 #[.slice none 0 0, .int .i64 0, .int .i64 0, .int .i64 limit] w fun e w' => e = .returned (.tuple #[]) ∧ Below w.heap.size w w' := by
  have cI := ins0_any w
  go_enter Tryz.func124, Tryz.ntmps124
  go_wp2
  go_loopw [1, 2, 3, 8, 9] (fun v1 v2 v3 v8 v9 wr => v1 = .int .i64 0 ∧ v2 = .int .i64 0 ∧ v3 = .int .i64 limit ∧ v8 = .bool true ∧ v9 = .bool true ∧ wr = w) (fun _ _ _ _ _ _ => 0)
  case atStart => exact ⟨rfl, rfl, rfl, rfl, rfl, rfl⟩
  case round =>
    obtain ⟨rfl, rfl, rfl, rfl, rfl, rfl⟩ := hrel
    go_wp2_with (go_at_call 131; refine cI.mono ?_; rintro e w1 ⟨rfl, hR⟩)
    (try simp only [Exit.inBlock, Exit.then])
    refine bodyPost_ret (results_none rfl _ _ _) rfl ?_
    exact ⟨rfl, hR⟩
theorem sorted_list {d d' : Array Int} (hP : PermIn 0 d.size d d') (hS : SortedIn lt 0 d.size d') : List.Perm d'.toList d.toList ∧ d'.toList.Pairwise (· ≤ ·) := by
  obtain ⟨h1, _, h3⟩ := hP
  have e1 : d'.extract 0 d.size = d' := by rw [← h1]; simp
  have e2 : d.extract 0 d.size = d := by simp
  rw [e1, e2] at h3
  refine ⟨h3, List.pairwise_iff_getElem.2 fun i j hi hj hij => ?_⟩
  have hi' : i < d'.size := by simpa using hi
  have hj' : j < d'.size := by simpa using hj
  have := hS i j (Nat.zero_le _) hij (by omega)
  rw [getElem!_pos d' i hi', getElem!_pos d' j hj'] at this
  simp only [ltInt, decide_eq_false_iff_not] at this
  simp only [Array.getElem_toList]
  omega
set_option maxHeartbeats 2000000 in
theorem sort12 : SortU 12 := by
  refine ⟨fun blk cap ss W hH hblk hw hm => ?_, fun W => ?_⟩
  · have hsz : ss.toArray.size = ss.length := by simp
    have cP := fun limit : Nat => pdq12_any blk 0 cap 0 ss.length limit ss.toArray W hH (Nat.zero_le _) (by simp) (by simp; omega) (by omega)
    rw [hsz] at cP
    have cB := Tryz.bits_Len ss.length W (by omega) (by omega)
    refine Calls.mono (R := fun e w' => e = .returned (.tuple #[]) ∧ SRow W blk 0 ss.toArray w' (Sort.insertionSort lt ss.toArray 0 ss.length)) ?_ ?_
    · go_enter Tryz.func114, Tryz.ntmps114
      go_wp2_with (first
        | (go_at_call 72; refine cB.mono ?_; rintro e w1 ⟨rfl, rfl⟩)
        | (go_at_call 124; refine (cP _).mono ?_; rintro e w1 ⟨rfl, hR⟩))
      go_end0
      exact ⟨rfl, hR⟩
    · rintro e w' ⟨rfl, hs, n, rfl⟩
      obtain ⟨hP, hS⟩ := insertionSort_holds (lt := lt) swo_ltInt ss.toArray 0 ss.length (Nat.zero_le _) (by simp)
      rw [← hsz] at hP hS
      obtain ⟨h1, h2⟩ := sorted_list hP hS
      rw [hsz] at h1 h2
      exact ⟨rfl, _, n, #[], h1, h2, by simp [grow_empty]⟩
  · go_enter Tryz.func114, Tryz.ntmps114
    have cB := Tryz.bits_Len 0 W (by omega) (by omega)
    have cP := pdq0_any 0 W
    go_wp2_with (first
      | (go_at_call 72; refine cB.mono ?_; rintro e w1 ⟨rfl, rfl⟩)
      | (go_at_call 124; refine (cP).mono ?_; rintro e w1 ⟨rfl, hR⟩))
    go_end0
    exact ⟨rfl, hR⟩
end Go.Proofs.YtpopcnebndgblaaGreat
