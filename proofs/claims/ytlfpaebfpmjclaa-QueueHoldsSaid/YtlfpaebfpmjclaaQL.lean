/- One queue, made by the law: its calls; the chapter's example, as the statements ask it first: awake answers true. No condition. -/
import Derived.Test.YtlfpaebfpmjclaaQK
namespace Go.Proofs.Ytlfpaebfpmjclaa
open Go.RowKit
set_option linter.unusedVariables false
/-- Block B is a queue that was made since w0. -/
def On (w0 W : World) (B : Nat) (P R : Int) (L : List Pk) : Prop := ∃ χ, Fr w0 χ W ∧ Qu W χ 1 B P R L
section
variable {w0 w w' : World} {B : Nat} {P R : Int} {L : List Pk}
theorem On.world (h : On w0 w B P R L) : Below w0.heap.size w0 w := by obtain ⟨χ, h1, h2⟩ := h; exact h1.world
theorem On.below (h : On w0 w B P R L) (k : Below w.heap.size w w') : On w0 w' B P R L := by obtain ⟨χ, h1, h2⟩ := h; exact ⟨χ, h1.below k, h2.below k⟩
theorem On.drew (h : On w0 w B P R L) : On w0 w.drew B P R L := h.below (Below.refl _ w).drew
theorem On.fit (h : On w0 w B P R L) : Fit P R L ∧ roomy P R := by obtain ⟨χ, h1, h2⟩ := h; exact h2.fit
theorem on_new (hw : Below w0.heap.size w0 w) (hP : roomy P R) : Calls Try.prog 9 #[eI P, eI R] w fun e w' => ∃ C, e = .returned (.pointer (some ⟨C, 0, none⟩)) ∧ On w0 w' C P R [] :=
  (qu_new w (fun _ => 0) 1 hP).mono fun e w' ⟨C, x, y, z⟩ => ⟨C, x, _, ⟨fun k hk => recol_lt (Nat.lt_of_lt_of_le hk hw.size), ups hw z hw.size⟩, y⟩
theorem on_push (h : On w0 w B P R L) (p : Pk) (hok : p.ok) : Calls Try.prog 14 #[.pointer (some ⟨B, 0, none⟩), pkV p] w fun e w' => e = .returned (eI (pushE P R L p)) ∧ On w0 w' B P R (pushL P R L p) := by
  obtain ⟨χ, h1, h2⟩ := h
  exact (qu_push h2 p hok).mono fun e w' ⟨x, χ', y, z⟩ => ⟨x, χ', h1.next z (by decide), y⟩
theorem on_pop (h : On w0 w B P R L) : Calls Try.prog 13 #[.pointer (some ⟨B, 0, none⟩)] w fun e w' => e = .returned (.tuple #[pkV (headP L), .bool (headB L)]) ∧ On w0 w' B P R L.tail := by
  obtain ⟨χ, h1, h2⟩ := h
  exact (qu_pop h2).mono fun e w' ⟨x, χ', y, z⟩ => ⟨x, χ', h1.next z (by decide), y⟩
theorem on_head (h : On w0 w B P R L) : Calls Try.prog 17 #[.pointer (some ⟨B, 0, none⟩)] w fun e w' => e = .returned (.tuple #[pkV (headP L), .bool (headB L)]) ∧ Below w.heap.size w w' := by
  obtain ⟨χ, h1, h2⟩ := h
  exact qu_head h2
theorem on_len (h : On w0 w B P R L) : Calls Try.prog 19 #[.pointer (some ⟨B, 0, none⟩)] w fun e w' => e = .returned (eI L.length) ∧ w = w' := by
  obtain ⟨χ, h1, h2⟩ := h
  exact qu_len h2
theorem on_bytes (h : On w0 w B P R L) : Calls Try.prog 20 #[.pointer (some ⟨B, 0, none⟩)] w fun e w' => e = .returned (eI (bsum L)) ∧ w = w' := by
  obtain ⟨χ, h1, h2⟩ := h
  exact qu_bytes h2
theorem on_room (h : On w0 w B P R L) : Calls Try.prog 18 #[.pointer (some ⟨B, 0, none⟩)] w fun e w' => e = .returned (.tuple #[eI (P - L.length), eI (R - bsum L)]) ∧ Below w.heap.size w w' := by
  obtain ⟨χ, h1, h2⟩ := h
  exact qu_room h2
theorem on_all (h : On w0 w B P R L) : Calls Try.prog 21 #[.pointer (some ⟨B, 0, none⟩)] w fun e w' => ∃ u, e = .returned u ∧ w'.ownsRow w.heap.size 31 4 u L.length (rowV L) ∧ Below w.heap.size w w' := by
  obtain ⟨χ, h1, h2⟩ := h
  exact qu_all h2
end
theorem ok_lit (i l : Int) (hi : 0 ≤ i ∧ i < 100) (hl : 0 ≤ l ∧ l < 100) : Pk.ok ⟨i, 0, l, 0⟩ := by unfold Pk.ok; simp only; omega
abbrev E1 : List Pk := [⟨0, 0, 60, 0⟩]
abbrev E2 : List Pk := [⟨0, 0, 60, 0⟩, ⟨9, 0, 40, 0⟩]
abbrev E3 : List Pk := [⟨9, 0, 40, 0⟩]
set_option maxHeartbeats 4000000 in
set_option maxRecDepth 100000 in
theorem awake_any (w0 : World) : Calls Try.prog 22 #[] w0 fun e w' => e = .returned (.bool true) ∧ Below w0.heap.size w0 w' := by
  have hN := on_new (P := 2) (R := 100) (Below.refl w0.heap.size w0) ⟨by omega, by omega⟩
  have n1 : ∀ w, Calls Try.prog 9 #[eI 0, eI 100] w fun e w' => e = .returned (.pointer none) ∧ w = w' := fun w => New_no 0 100 w (by unfold roomy; omega)
  have n2 : ∀ w, Calls Try.prog 9 #[eI 4097, eI 1] w fun e w' => e = .returned (.pointer none) ∧ w = w' := fun w => New_no 4097 1 w (by unfold roomy; omega)
  have p1 : ∀ B w, On w0 w B 2 100 [] → Calls Try.prog 14 #[.pointer (some ⟨B, 0, none⟩), .agg #[.int .u64 0, .int .i64 0, .int .i64 60, .int .u64 0]] w fun e w' => e = .returned (eI 0) ∧ On w0 w' B 2 100 E1 := fun B w h =>
    on_push h ⟨0, 0, 60, 0⟩ (ok_lit _ _ (by omega) (by omega))
  have p2 : ∀ B w, On w0 w B 2 100 E1 → Calls Try.prog 14 #[.pointer (some ⟨B, 0, none⟩), .agg #[.int .u64 0, .int .i64 0, .int .i64 41, .int .u64 0]] w fun e w' => e = .returned (eI 110) ∧ On w0 w' B 2 100 E1 := fun B w h =>
    on_push h ⟨0, 0, 41, 0⟩ (ok_lit _ _ (by omega) (by omega))
  have p3 : ∀ B w, On w0 w B 2 100 E1 → Calls Try.prog 14 #[.pointer (some ⟨B, 0, none⟩), .agg #[.int .u64 9, .int .i64 0, .int .i64 40, .int .u64 0]] w fun e w' => e = .returned (eI 0) ∧ On w0 w' B 2 100 E2 := fun B w h =>
    on_push h ⟨9, 0, 40, 0⟩ (ok_lit _ _ (by omega) (by omega))
  have p4 : ∀ B w, On w0 w B 2 100 E2 → Calls Try.prog 14 #[.pointer (some ⟨B, 0, none⟩), .agg #[.int .u64 0, .int .i64 0, .int .i64 1, .int .u64 0]] w fun e w' => e = .returned (eI 110) ∧ On w0 w' B 2 100 E2 := fun B w h =>
    on_push h ⟨0, 0, 1, 0⟩ (ok_lit _ _ (by omega) (by omega))
  have p5 : ∀ B w, On w0 w B 2 100 E2 → Calls Try.prog 14 #[.pointer (some ⟨B, 0, none⟩), .agg #[.int .u64 0, .int .i64 0, .int .i64 0, .int .u64 0]] w fun e w' => e = .returned (eI 100) ∧ On w0 w' B 2 100 E2 := fun B w h =>
    on_push h ⟨0, 0, 0, 0⟩ (ok_lit _ _ (by omega) (by omega))
  have o1 : ∀ B w, On w0 w B 2 100 E2 → Calls Try.prog 13 #[.pointer (some ⟨B, 0, none⟩)] w fun e w' => e = .returned (.tuple #[.agg #[.int .u64 0, .int .i64 0, .int .i64 60, .int .u64 0], .bool true]) ∧ On w0 w' B 2 100 E3 := fun B w h => on_pop h
  have o2 : ∀ B w, On w0 w B 2 100 E3 → Calls Try.prog 17 #[.pointer (some ⟨B, 0, none⟩)] w fun e w' => e = .returned (.tuple #[.agg #[.int .u64 9, .int .i64 0, .int .i64 40, .int .u64 0], .bool true]) ∧ Below w.heap.size w w' := fun B w h => on_head h
  have o3 : ∀ B w, On w0 w B 2 100 E3 → Calls Try.prog 19 #[.pointer (some ⟨B, 0, none⟩)] w fun e w' => e = .returned (eI 1) ∧ w = w' := fun B w h => on_len h
  have o4 : ∀ B w, On w0 w B 2 100 E3 → Calls Try.prog 20 #[.pointer (some ⟨B, 0, none⟩)] w fun e w' => e = .returned (eI 40) ∧ w = w' := fun B w h => on_bytes h
  go_enter Try.func22, Try.ntmps22
  go_upto_region 5 with (first
    | (go_at_call 9; (with_reducible refine hN.mono ?_); rintro e w1 ⟨B, rfl, H⟩)
    | (go_at_call 9; (with_reducible refine (n1 _).mono ?_); rintro e w2 ⟨rfl, rfl⟩)
    | (go_at_call 9; (with_reducible refine (n2 _).mono ?_); rintro e w2 ⟨rfl, rfl⟩)
    | (go_at_call 14; (with_reducible refine (p1 _ _ H).mono ?_); clear H; rintro e w2 ⟨rfl, H⟩)
    | (go_at_call 14; (with_reducible refine (p2 _ _ H).mono ?_); clear H; rintro e w2 ⟨rfl, H⟩)
    | (go_at_call 14; (with_reducible refine (p3 _ _ H).mono ?_); clear H; rintro e w2 ⟨rfl, H⟩)
    | (go_at_call 14; (with_reducible refine (p4 _ _ H).mono ?_); clear H; rintro e w2 ⟨rfl, H⟩)
    | (go_at_call 14; (with_reducible refine (p5 _ _ H).mono ?_); clear H; rintro e w2 ⟨rfl, H⟩)
    | (go_at_call 13; (with_reducible refine (o1 _ _ H).mono ?_); clear H; rintro e w2 ⟨rfl, H⟩))
  clear p1 p2 p3 p4 p5 o1 n1 n2 hN
  have bp := Box.new w2 31 (pkC ⟨0, 0, 60, 0⟩)
  replace H := H.below (up1 w2 (.cells (pkC ⟨0, 0, 60, 0⟩) 31))
  obtain ⟨W3, hW3⟩ : ∃ x, w2.alloc (.cells (pkC ⟨0, 0, 60, 0⟩) 31) = x := ⟨_, rfl⟩
  rw [hW3] at bp H ⊢
  clear hW3
  go_upto_region 6 with (go_at_call 17; (with_reducible refine (o2 _ _ H).mono ?_); rintro e w4 ⟨rfl, hb⟩; replace H := H.below hb; replace bp := bp.below hb)
  have bh := Box.new w4 31 (pkC ⟨9, 0, 40, 0⟩)
  replace H := H.below (up1 w4 (.cells (pkC ⟨9, 0, 40, 0⟩) 31))
  replace bp := bp.alloc (.cells (pkC ⟨9, 0, 40, 0⟩) 31)
  obtain ⟨W5, hW5⟩ : ∃ x, w4.alloc (.cells (pkC ⟨9, 0, 40, 0⟩) 31) = x := ⟨_, rfl⟩
  rw [hW5] at bp bh H ⊢
  clear hW5
  obtain ⟨a0, a1, a2, a3, _, _, _, _⟩ := bp.four
  obtain ⟨b0, b1, b2, b3, _, _, _, _⟩ := bh.four
  go_wp2_with (first
    | (go_at_call 19; (with_reducible refine (o3 _ _ H).mono ?_); rintro e w2 ⟨rfl, rfl⟩)
    | (go_at_call 20; (with_reducible refine (o4 _ _ H).mono ?_); rintro e w2 ⟨rfl, rfl⟩))
  go_ret
  exact ⟨rfl, H.world⟩
end Go.Proofs.Ytlfpaebfpmjclaa
