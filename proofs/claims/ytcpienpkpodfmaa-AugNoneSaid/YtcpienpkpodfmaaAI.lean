/- The law's awake: the chapter's examples. No condition. -/
import Derived.Test.YtcpienpkpodfmaaAH
namespace Go.Proofs.Ytcpienpkpodfmaa
open Go.RowKit Go.Shelf
set_option linter.unusedVariables false
abbrev l1 : List It := [((5, 1), 9)]
abbrev l2 : List It := [((3, 2), 7), ((5, 1), 9)]
abbrev l3 : List It := [((3, 2), 7), ((5, 1), 9), ((5, 3), 7)]
theorem e1 : putA ((5, 1), 9) [] = l1 := by simp [putA, dropA, ins]
theorem e2 : putA ((3, 2), 7) l1 = l2 := by simp [putA, dropA, ins, kLt]
theorem e3 : putA ((5, 3), 7) l2 = l3 := by simp [putA, dropA, ins, kLt]
theorem u4 : upto 4 l3 = [((3, 2), 7)] := by simp [upto]
theorem u5 : upto 5 l3 = l3 := by simp [upto]
theorem u2 : upto 2 l3 = [] := by simp [upto]
theorem lw : low l3 = (7, 2) := by simp [low, mn, mLt]
theorem f7 : fnd 7 l3 = some ((3, 2), 7) := by simp [fnd]
theorem f6 : fnd 6 l3 = none := by simp [fnd]
theorem lit3 (W : World) (a b c : Int) (t : TypeId) : IntS (W.alloc (.cells #[eI a, eI b, eI c] t)) (.slice (some ⟨W.heap.size, 0, none⟩) 3 3) [a, b, c] := by
  have B := Box.new W t #[eI a, eI b, eI c]
  refine ⟨_, 3, rfl, Nat.le_refl _, .inr ⟨W.heap.size, 0, rfl, B.lt, fun i hi => ?_⟩⟩
  match i, hi with
  | 0, _ => exact B.cell 0
  | 1, _ => exact B.cell 1
  | 2, _ => exact B.cell 2
set_option maxRecDepth 100000 in
set_option maxHeartbeats 4000000 in
theorem awake_any (w : World) : Calls Try.prog 16 #[] w fun e w' => e = .returned (.bool true) ∧ Below w.heap.size w w' := by
  have hN := aug_new w w (Below.refl _ _)
  have p1 : ∀ W B, Aug w W 0 B [] → Calls Try.prog 12 #[.pointer (some ⟨B, 0, none⟩), .int .i64 1, .int .u64 5, .int .u64 9] W fun e w' => e = .returned (.tuple #[]) ∧ Aug w w' 1 B l1 := fun W B h => by
    have := aug_put ((5, 1), 9) ⟨⟨by decide, by decide⟩, ⟨by decide, by decide⟩, ⟨by decide, by decide⟩⟩ (by omega) h
    rw [e1] at this
    exact this.mono fun e w' ⟨x1, x2, _⟩ => ⟨x1, x2⟩
  have p2 : ∀ W B, Aug w W 1 B l1 → Calls Try.prog 12 #[.pointer (some ⟨B, 0, none⟩), .int .i64 2, .int .u64 3, .int .u64 7] W fun e w' => e = .returned (.tuple #[]) ∧ Aug w w' 2 B l2 := fun W B h => by
    have := aug_put ((3, 2), 7) ⟨⟨by decide, by decide⟩, ⟨by decide, by decide⟩, ⟨by decide, by decide⟩⟩ (by omega) h
    rw [e2] at this
    exact this.mono fun e w' ⟨x1, x2, _⟩ => ⟨x1, x2⟩
  have p3 : ∀ W B, Aug w W 2 B l2 → Calls Try.prog 12 #[.pointer (some ⟨B, 0, none⟩), .int .i64 3, .int .u64 5, .int .u64 7] W fun e w' => e = .returned (.tuple #[]) ∧ Aug w w' 3 B l3 := fun W B h => by
    have := aug_put ((5, 3), 7) ⟨⟨by decide, by decide⟩, ⟨by decide, by decide⟩, ⟨by decide, by decide⟩⟩ (by omega) h
    rw [e3] at this
    exact this.mono fun e w' ⟨x1, x2, _⟩ => ⟨x1, x2⟩
  have q4 : ∀ W B, Aug w W 3 B l3 → Calls Try.prog 18 #[.pointer (some ⟨B, 0, none⟩), .int .u64 4] W fun e w' => e = .returned (.tuple #[.int .i64 2, .bool true]) ∧ Below W.heap.size W w' := fun W B h => by
    have := aug_least 4 h
    rw [u4] at this
    exact this
  have q5 : ∀ W B, Aug w W 3 B l3 → Calls Try.prog 18 #[.pointer (some ⟨B, 0, none⟩), .int .u64 5] W fun e w' => e = .returned (.tuple #[.int .i64 2, .bool true]) ∧ Below W.heap.size W w' := fun W B h => by
    have := aug_least 5 h
    rw [u5, lw] at this
    exact this
  have q2 : ∀ W B, Aug w W 3 B l3 → Calls Try.prog 18 #[.pointer (some ⟨B, 0, none⟩), .int .u64 2] W fun e w' => e = .returned (.tuple #[.int .i64 0, .bool false]) ∧ Below W.heap.size W w' := fun W B h => by
    have := aug_least 2 h
    rw [u2] at this
    exact this
  have r7 : ∀ W B, Aug w W 3 B l3 → Calls Try.prog 19 #[.pointer (some ⟨B, 0, none⟩), .int .u64 7] W fun e w' => e = .returned (.tuple #[.int .i64 2, .bool true]) ∧ Below W.heap.size W w' := fun W B h => by
    have := aug_within 7 h
    rw [f7] at this
    exact this
  have r6 : ∀ W B, Aug w W 3 B l3 → Calls Try.prog 19 #[.pointer (some ⟨B, 0, none⟩), .int .u64 6] W fun e w' => e = .returned (.tuple #[.int .i64 0, .bool false]) ∧ Below W.heap.size W w' := fun W B h => by
    have := aug_within 6 h
    rw [f6] at this
    exact this
  have s1 : ∀ W B, Aug w W 3 B l3 → Calls Try.prog 25 #[.pointer (some ⟨B, 0, none⟩)] W fun e w' => e = .returned (.tuple #[.int .u64 7, .bool true]) ∧ Below W.heap.size W w' := fun W B h => by
    have := aug_lowest h
    rw [lw] at this
    exact this
  have s2 : ∀ W B, Aug w W 3 B l3 → Calls Try.prog 23 #[.pointer (some ⟨B, 0, none⟩)] W fun e w' => e = .returned (.int .i64 3) ∧ W = w' := fun W B h => aug_len h
  have s3 : ∀ W B, Aug w W 3 B l3 → Calls Try.prog 21 #[.pointer (some ⟨B, 0, none⟩)] W fun e w' => ∃ v, e = .returned v ∧ IntS w' v [2, 1, 3] ∧ Below W.heap.size W w' := fun W B h =>
    (aug_ids (by omega) h).mono fun e w' ⟨v, x1, x2, x3⟩ => ⟨v, x1, IntS.of_owns x2, x3⟩
  go_enter Try.func16, Try.ntmps16
  go_wp2_with (first
    | (go_at_call 9; (with_reducible refine hN.mono ?_); rintro e w1 ⟨B, rfl, H0, _⟩)
    | (go_at_call 12; (with_reducible refine (p1 _ _ H0).mono ?_); rintro e w2 ⟨rfl, H1⟩)
    | (go_at_call 12; (with_reducible refine (p2 _ _ H1).mono ?_); rintro e w3 ⟨rfl, H2⟩)
    | (go_at_call 12; (with_reducible refine (p3 _ _ H2).mono ?_); rintro e w4 ⟨rfl, H⟩)
    | (go_at_call 18; (with_reducible refine (q4 _ _ H).mono ?_); rintro e w5 ⟨rfl, hb⟩; replace H := H.below hb; clear hb)
    | (go_at_call 18; (with_reducible refine (q5 _ _ H).mono ?_); rintro e w6 ⟨rfl, hb⟩; replace H := H.below hb; clear hb)
    | (go_at_call 18; (with_reducible refine (q2 _ _ H).mono ?_); rintro e w7 ⟨rfl, hb⟩; replace H := H.below hb; clear hb)
    | (go_at_call 19; (with_reducible refine (r7 _ _ H).mono ?_); rintro e w8 ⟨rfl, hb⟩; replace H := H.below hb; clear hb)
    | (go_at_call 19; (with_reducible refine (r6 _ _ H).mono ?_); rintro e w9 ⟨rfl, hb⟩; replace H := H.below hb; clear hb)
    | (go_at_call 25; (with_reducible refine (s1 _ _ H).mono ?_); rintro e w10 ⟨rfl, hb⟩; replace H := H.below hb; clear hb)
    | (go_at_call 21; (with_reducible refine (s3 _ _ H).mono ?_); rintro e w11 ⟨v, rfl, hv, hb⟩; replace H := (H.below hb).below (up1 w11 (.cells #[.int .i64 2, .int .i64 1, .int .i64 3] 3)); replace hv := hv.below (up1 w11 (.cells #[.int .i64 2, .int .i64 1, .int .i64 3] 3)); have hu := lit3 w11 2 1 3 3; clear hb)
    | (go_at_call 24; (with_reducible refine (same_any _ _ [2, 1, 3] _ (by decide) hv hu).mono ?_); rintro e w12 ⟨rfl, hb⟩; replace H := H.below hb; clear hb hv hu)
    | (go_at_call 23; (with_reducible refine (s2 _ _ H).mono ?_); rintro e w13 ⟨rfl, rfl⟩))
  go_ret
  exact ⟨rfl, H.world⟩
end Go.Proofs.Ytcpienpkpodfmaa
