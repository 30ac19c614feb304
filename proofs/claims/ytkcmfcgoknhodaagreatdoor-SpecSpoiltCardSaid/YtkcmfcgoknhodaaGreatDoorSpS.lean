/- A text cut by the library at single bytes. Condition: the text isn't as long as four thousand million bytes. -/
import Derived.Test.YtkcmfcgoknhodaaGreatDoorSpT
import Derived.Shelf.Strings.Split
namespace Go.Proofs.YtkcmfcgoknhodaaGreatDoor
open Go.RowKit Go.Lib W
set_option linter.unusedVariables false
theorem split_size {sep : ByteArray} : ∀ (k : Nat) (s x : ByteArray), x ∈ splitB sep 0 k s → x.size ≤ s.size
  | 0, s, x, h => by
    rw [splitB_zero] at h
    simp only [List.mem_singleton] at h
    subst h; exact Nat.le_refl _
  | k + 1, s, x, h => by
    rw [splitB] at h
    split at h
    · simp only [List.mem_singleton] at h
      subst h; exact Nat.le_refl _
    · rcases List.mem_cons.1 h with h | h
      · subst h
        rw [ByteArray.size_extract]; omega
      · have := split_size k _ x h
        rw [ByteArray.size_extract] at this
        omega
theorem genSplit_any (s : ByteArray) (d : UInt8) (n : Nat) (hs : s.size < 4294967281) (hn : 1 ≤ n) (hn2 : n ≤ 1000) (w : World) :
    Calls Tryz.prog 35 #[.string s, .string ⟨#[d]⟩, .int .i64 0, .int .i64 n] w fun e w' => e = .returned (.slice (some ⟨w.heap.size, 0, none⟩) (splitB ⟨#[d]⟩ 0 (min n (s.size + 1) - 1) s).length (min n (s.size + 1))) ∧ w' = w.alloc (.cells (cellsOf (splitB ⟨#[d]⟩ 0 (min n (s.size + 1) - 1) s) (min n (s.size + 1))) 9) :=
  Any.strings_genSplit_core Tryz.lays221 (by kernel_rfl) s ⟨#[d]⟩ 0 (n : Int) (min n (s.size + 1)) w hs (by simp [ByteArray.size]) (Nat.zero_le _)
    (fun x c hx => (Tryz.strings_Index_one x d _).mono fun e w' ⟨he, hw⟩ => ⟨by rw [he, ← index_one], hw⟩)
    ((Tryz.strings_Count_one s d w).mono fun e w' ⟨he, hw⟩ => ⟨by
      rw [he]
      show _ = Ending.returned (Value.int .i64 ((Lib.count s.data.toList [d] : Nat) : Int))
      rw [Lib.count_one]
      rfl, hw⟩) (by omega) (by omega) (by rw [if_neg (by omega)]; omega)
/-- A text cut at a byte, at most so many words. -/
theorem split_any (s : ByteArray) (d : UInt8) (n : Nat) (hs : s.size < 4294967281) (hn : 1 ≤ n) (hn2 : n ≤ 1000) : ∃ (L : List ByteArray) (N : Nat), L.length ≤ N ∧ N ≤ n ∧
    (∀ ws, ws ≠ [] → (∀ w ∈ ws, ∀ c ∈ w, c ≠ d) → ws.length ≤ n → s.data.toList = gl d ws → L = ws.map bs) ∧ (∀ x ∈ L, x.size ≤ s.size) ∧
    ∀ w, Calls Tryz.prog 20 #[.string s, .string ⟨#[d]⟩, .int .i64 n] w fun e w' => e = .returned (.slice (some ⟨w.heap.size, 0, none⟩) L.length N) ∧ w' = w.alloc (.cells (cellsOf L N) 9) := by
  have hG := genSplit_any s d n hs hn hn2
  refine ⟨splitB ⟨#[d]⟩ 0 (min n (s.size + 1) - 1) s, min n (s.size + 1), ?_, by omega, ?_, split_size _ s, fun w => ?_⟩
  · have := splitB_length_le ⟨#[d]⟩ 0 (min n (s.size + 1) - 1) s
    omega
  · intro ws hne hno hlen e
    refine split_gl s ws _ hne hno ?_ e
    have k := gl_length (d := d) ws
    rw [← e] at k
    have : s.data.toList.length = s.size := by rw [Array.length_toList]; rfl
    omega
  · have hG := hG w
    generalize splitB ⟨#[d]⟩ 0 (min n (s.size + 1) - 1) s = L at hG ⊢
    generalize min n (s.size + 1) = N at hG ⊢
    go_enter Tryz.func20, Tryz.ntmps20
    go_wp2_with (go_at_call 35; (with_reducible refine hG.mono ?_); rintro e w' ⟨rfl, hw⟩; rw [hw])
    go_ret
    exact ⟨rfl, rfl⟩
/-- The cells of the words. -/
theorem word_cell (w : World) (L : List ByteArray) (N : Nat) (t : TypeId) (j : Nat) (x : ByteArray) (h : L[j]? = some x) : (w.alloc (.cells (cellsOf L N) t)).cell? ⟨w.heap.size, j, none⟩ = some (.string x) := by
  rw [(Bl.new w t (cellsOf L N)).cell j]
  unfold cellsOf
  rw [List.getElem?_toArray, List.getElem?_append_left (by rw [List.length_map]; exact (List.getElem?_eq_some_iff.1 h).1), List.getElem?_map, h]
  rfl
end Go.Proofs.YtkcmfcgoknhodaaGreatDoor
