/- What packet.read answers: the four numbers that stand there, or none. No condition. -/
import Derived.Test.YtdmgalcfgignpaaDoorPkA
import Derived.Lib.OthersKept
import Derived.Laws.RangeAny
import Derived.LoopTactic
namespace Go.Proofs.YtdmgalcfgignpaaDoor
open Go.RowKit W
set_option linter.unusedVariables false

/-- Four words in a block of the call's own. -/
structure Quad (w : World) (A : Nat) (n : Nat → Int) : Prop where
  lt : A < w.heap.size
  cell : ∀ j, j < 4 → w.cell? ⟨A, j, none⟩ = some (.int .u64 (n j))
  thaw : ∀ j, j < 4 → w.frozen? ⟨A, j, none⟩ = false
theorem Quad.block {w w' : World} {A : Nat} {n : Nat → Int} (h : Quad w A n) (hb : w'.heap[A]? = w.heap[A]?) : Quad w' A n :=
  ⟨by
    have := h.lt
    have e : w.heap[A]? = some (w.heap[A]) := Array.getElem?_eq_getElem this
    rw [e] at hb
    exact (Array.getElem?_eq_some_iff.1 hb).1,
   fun j hj => by rw [World.cell?_of_block (a := ⟨A, j, none⟩) hb]; exact h.cell j hj,
   fun j hj => by rw [World.frozen?_of_block (a := ⟨A, j, none⟩) hb]; exact h.thaw j hj⟩
theorem Quad.set {w : World} {A : Nat} {n : Nat → Int} (h : Quad w A n) (k : Nat) (hk : k < 4) (x : Int) : Quad (w.setCell ⟨A, k, none⟩ (.int .u64 x)) A (uq n k x) :=
  ⟨by simpa [World.setCell] using h.lt,
   fun j hj => by
    by_cases e : j = k
    · subst e
      rw [uq_at]
      exact World.cell?_setCell_same _ _ _ (h.cell j hj)
    · rw [uq_ne _ _ _ _ e, World.cell?_setCell_other _ _ _ _ (by simp)]
      exact h.cell j hj,
   fun j hj => (World.frozen?_setCell _ _ _ _).trans (h.thaw j hj)⟩

theorem Quad.new (w : World) (t : TypeId) : Quad (w.alloc (.cells #[.int .u64 0, .int .u64 0, .int .u64 0, .int .u64 0] t)) w.heap.size (fun _ => 0) := by
  refine ⟨by simp, fun j hj => ?_, fun j hj => World.frozen?_alloc_new _ _ _ _⟩
  have e : (w.alloc (.cells #[.int .u64 0, .int .u64 0, .int .u64 0, .int .u64 0] t)).cell? ⟨w.heap.size, j, none⟩ = (#[Value.int .u64 0, .int .u64 0, .int .u64 0, .int .u64 0] : Array Value)[j]? := World.cell?_alloc_new _ _ _ _
  rw [e]
  match j, hj with
  | 0, _ => rfl
  | 1, _ => rfl
  | 2, _ => rfl
  | 3, _ => rfl
theorem drop_at (s : ByteArray) (pos : Nat) (h : pos < s.size) : s.data.toList.drop pos = s[pos]'h :: s.data.toList.drop (pos + 1) := by
  have hl : pos < s.data.toList.length := by rw [Array.length_toList]; exact h
  rw [List.drop_eq_getElem_cons hl]
  rfl
theorem drop_end (s : ByteArray) (pos : Nat) (h : ¬ pos < s.size) : s.data.toList.drop pos = [] := by
  have hl : s.data.toList.length ≤ pos := by rw [Array.length_toList]; have : s.size = s.data.size := rfl; omega
  exact List.drop_eq_nil_of_le hl

/-- What read answers of a text. -/
def IsR (s : List UInt8) (e : Ending) : Prop :=
  (∃ n : Nat → Int, rd s 0 (fun _ => 0) = some n ∧ (∀ j, Word (n j)) ∧ e = .returned (.tuple #[.agg #[.int .u64 (n 0), .int .u64 (n 1), .int .u64 (n 2), .int .u64 (n 3)], .bool true])) ∨
  (rd s 0 (fun _ => 0) = none ∧ e = .returned (.tuple #[.agg #[.int .u64 0, .int .u64 0, .int .u64 0, .int .u64 0], .bool false]))

set_option maxHeartbeats 4000000 in
set_option maxRecDepth 100000 in
theorem read_any (s : ByteArray) (w : World) :
    Calls Tryd.prog 26 #[.string s] w fun e w' => IsR s.data.toList e ∧ Below w.heap.size w w' := by
  go_enter Tryd.func26, Tryd.ntmps26
  go_wp2
  go_loopw [4] (fun k wr => ∃ (pos m : Nat) (n : Nat → Int), k = .int .i64 m ∧ m ≤ 3 ∧ Quad wr w.heap.size n ∧ (∀ j, Word (n j)) ∧ wr.heap[w.heap.size + 1]? = some (.stringIter s pos) ∧ Below w.heap.size w wr ∧ rd (s.data.toList.drop pos) m n = rd s.data.toList 0 (fun _ => 0)) (fun _ wr => s.size - wr.iterPos (w.heap.size + 1))
  case atStart =>
    have hi := World.iter_heap (w.alloc (.cells #[.int .u64 0, .int .u64 0, .int .u64 0, .int .u64 0] 61)) s 0
    exact ⟨0, 0, fun _ => 0, rfl, by omega, (Quad.new w 61).block (Below.heap_alloc _ _ _ (by simp)), fun j => ⟨Int.le_refl (0 : Int), (by decide : (0 : Int) < 18446744073709551616)⟩, by simpa using hi, ((Below.refl _ w).alloc (Nat.le_refl _) _).alloc (by simp) _, rfl⟩
  case round =>
    obtain ⟨pos, m, n, rfl, hm, hQ, hW, hit, hbw, hrd⟩ := hrel
    have hsz : w.heap.size + 1 < wr.heap.size := (Array.getElem?_eq_some_iff.1 hit).1
    by_cases hp : pos < s.size
    · rw [drop_at s pos hp] at hrd
      by_cases ha : (s[pos]'hp).toNat < 128
      · obtain ⟨c, hc⟩ : ∃ c : UInt8, c = s[pos]'hp := ⟨_, rfl⟩
        have hnx : ∀ ty, (Instr.next (.pointer (some ⟨w.heap.size + 1, 0, none⟩)) true ty).run Tryd.prog wr = .ok (.tuple #[.bool true, .int .i64 pos, .int .i32 c.toNat]) (wr.iterAt (w.heap.size + 1) s (pos + 1)) := fun ty => by rw [Lib.run_next_ascii_at wr (w.heap.size + 1) s pos ty hit hp ha, hc]
        have hQ1 : Quad (wr.iterAt (w.heap.size + 1) s (pos + 1)) w.heap.size n := hQ.block (Lib.iterAt_other _ _ _ _ _ (by omega))
        have hit1 := Lib.iterAt_heap wr (w.heap.size + 1) s pos (pos + 1) hit
        have hb1 := Lib.below_iterAt hbw (k := w.heap.size + 1) (by omega) s (pos + 1)
        have hmu : wr.iterPos (w.heap.size + 1) = pos := by simp [World.iterPos, hit]
        rw [← hc] at hrd ha
        clear hc hit hQ hbw
        generalize wr.iterAt (w.heap.size + 1) s (pos + 1) = W1 at hnx hQ1 hit1 hb1
        have c0 := hQ1.cell 0 (by omega)
        have c1 := hQ1.cell 1 (by omega)
        have c2 := hQ1.cell 2 (by omega)
        have c3 := hQ1.cell 3 (by omega)
        have f0 := hQ1.thaw 0 (by omega)
        have f1 := hQ1.thaw 1 (by omega)
        have f2 := hQ1.thaw 2 (by omega)
        have f3 := hQ1.thaw 3 (by omega)
        have hmu1 : W1.iterPos (w.heap.size + 1) = pos + 1 := by simp [World.iterPos, hit1]
        by_cases hd : 48 ≤ c.toNat ∧ c.toNat ≤ 57
        · rw [rd_digit _ _ _ hd] at hrd
          have K1 := hQ1.cell m (by omega)
          have K2 := hQ1.thaw m (by omega)
          go_wp2
          go_roundw
          case rel =>
            have e1 : IntKind.u64.wrap (IntKind.u64.wrap (n m * 10) + ((c.toNat : Int) - 48)) = more (n m) c.toNat := by unfold more; rw [IntKind.wrap_u64, IntKind.wrap_u64]
            rw [e1]
            refine ⟨pos + 1, m, uq n m (more (n m) c.toNat), rfl, hm, hQ1.set m (by omega) _, fun j => ?_, ?_, hb1.setCell (Nat.le_refl _) _, hrd⟩
            · unfold uq; split
              · exact more_word _ _
              · exact hW j
            · exact (Below.heap_setCell _ _ _ _ (by simp)).trans hit1
          case measure =>
            have hit2 := (Below.heap_setCell W1 ⟨w.heap.size, m, none⟩ (.int .u64 (IntKind.u64.wrap (IntKind.u64.wrap (n m * 10) + ((c.toNat : Int) - 48)))) (w.heap.size + 1) (by simp)).trans hit1
            have hmu2 : (W1.setCell ⟨w.heap.size, m, none⟩ (.int .u64 (IntKind.u64.wrap (IntKind.u64.wrap (n m * 10) + ((c.toNat : Int) - 48))))).iterPos (w.heap.size + 1) = pos + 1 := by simp only [World.iterPos, hit2]
            rw [hmu, hmu2]; omega
        · by_cases hb : c.toNat = 32 ∧ m < 3
          · rw [rd_blank _ _ _ hb.1 hb.2] at hrd
            obtain ⟨hb1', hb2⟩ := hb
            go_wp2
            exact ⟨⟨pos + 1, m + 1, n, by rw [Int.natCast_add]; rfl, by omega, hQ1, hW, hit1, hb1, hrd⟩, by rw [hmu, hmu1]; omega⟩
          · rw [rd_none _ _ _ hd hb] at hrd
            go_wp2
            all_goals exact bodyPost_ret (v := .tuple #[.agg #[.int .u64 0, .int .u64 0, .int .u64 0, .int .u64 0], .bool false]) (by simp [results, Tryd.results26, go_sem, c0, c1, c2, c3]) rfl ⟨.inr ⟨hrd.symm, rfl⟩, (((hb1.setCell (Nat.le_refl _) _).setCell (Nat.le_refl _) _).setCell (Nat.le_refl _) _).setCell (Nat.le_refl _) _⟩
      · obtain ⟨r, hr⟩ : ∃ r : Nat, r = (Utf8.decode s pos).1 := ⟨_, rfl⟩
        have hr128 : 128 ≤ r := by rw [hr]; exact (decode_high s pos hp (by omega)).1
        have hnx : ∀ ty, (Instr.next (.pointer (some ⟨w.heap.size + 1, 0, none⟩)) true ty).run Tryd.prog wr = .ok (.tuple #[.bool true, .int .i64 pos, .int .i32 r]) (wr.iterAt (w.heap.size + 1) s (pos + (Utf8.decode s pos).2)) := fun ty => by rw [Lib.run_next_any_at wr (w.heap.size + 1) s pos ty hit hp, hr]
        have hQ1 : Quad (wr.iterAt (w.heap.size + 1) s (pos + (Utf8.decode s pos).2)) w.heap.size n := hQ.block (Lib.iterAt_other _ _ _ _ _ (by omega))
        have hb1 := Lib.below_iterAt hbw (k := w.heap.size + 1) (by omega) s (pos + (Utf8.decode s pos).2)
        rw [rd_none _ _ _ (by omega) (by omega)] at hrd
        clear hr hit hQ hbw
        generalize wr.iterAt (w.heap.size + 1) s (pos + (Utf8.decode s pos).2) = W1 at hnx hQ1 hb1
        have c0 := hQ1.cell 0 (by omega)
        have c1 := hQ1.cell 1 (by omega)
        have c2 := hQ1.cell 2 (by omega)
        have c3 := hQ1.cell 3 (by omega)
        have f0 := hQ1.thaw 0 (by omega)
        have f1 := hQ1.thaw 1 (by omega)
        have f2 := hQ1.thaw 2 (by omega)
        have f3 := hQ1.thaw 3 (by omega)
        go_wp2
        all_goals exact bodyPost_ret (v := .tuple #[.agg #[.int .u64 0, .int .u64 0, .int .u64 0, .int .u64 0], .bool false]) (by simp [results, Tryd.results26, go_sem, c0, c1, c2, c3]) rfl ⟨.inr ⟨hrd.symm, rfl⟩, (((hb1.setCell (Nat.le_refl _) _).setCell (Nat.le_refl _) _).setCell (Nat.le_refl _) _).setCell (Nat.le_refl _) _⟩
    · have hnx : ∀ ty, (Instr.next (.pointer (some ⟨w.heap.size + 1, 0, none⟩)) true ty).run Tryd.prog wr = _ := fun ty => Lib.run_next_end_at wr (w.heap.size + 1) s pos ty hit hp
      rw [drop_end s pos hp, rd] at hrd
      have c0 := hQ.cell 0 (by omega)
      have c1 := hQ.cell 1 (by omega)
      have c2 := hQ.cell 2 (by omega)
      have c3 := hQ.cell 3 (by omega)
      have f0 := hQ.thaw 0 (by omega)
      have f1 := hQ.thaw 1 (by omega)
      have f2 := hQ.thaw 2 (by omega)
      have f3 := hQ.thaw 3 (by omega)
      go_wp2
      exact bodyPost_ret (v := .tuple #[.agg #[.int .u64 (n 0), .int .u64 (n 1), .int .u64 (n 2), .int .u64 (n 3)], .bool true]) (by simp [results, Tryd.results26, go_sem, c0, c1, c2, c3]) rfl ⟨.inl ⟨n, hrd.symm, hW, rfl⟩, (((hbw.setCell (Nat.le_refl _) _).setCell (Nat.le_refl _) _).setCell (Nat.le_refl _) _).setCell (Nat.le_refl _) _⟩
end Go.Proofs.YtdmgalcfgignpaaDoor
