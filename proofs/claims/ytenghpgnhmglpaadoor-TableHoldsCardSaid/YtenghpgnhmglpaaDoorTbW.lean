/- New and Next of a table; the first id on a page. No condition but words. -/
import Derived.Test.YtenghpgnhmglpaaDoorTbH
namespace Go.Proofs.YtenghpgnhmglpaaDoor
open Go.RowKit
set_option linter.unusedVariables false
section
variable {w w' : World} {χ χ' : Nat → Nat} {c d B Bm m : Nat} {N : List Int} {F : Int → Option Nat} {G : Int → Value} {vn : Value} {L : List Im}
theorem new_any (w : World) (χ : Nat → Nat) (c : Nat) (ht : Tab w) (h0 : χ 0 = 0) (hc : c ≠ 0) : Calls Tryd.prog 9 #[] w fun e w' => ∃ B Bm, e = .returned (.pointer (some ⟨B, 0, none⟩)) ∧ TbX w' (recol χ w.heap.size c) c B Bm [] (fun _ => none) (fun _ => .slice none 0 0) (.slice none 0 0) 0 [] ∧ Below w.heap.size w w' := by
  have hmm := @run_makeMap Tryd.prog
  have T := up2 w (.map #[] 0) (.cells #[.map (some w.heap.size), .slice none 0 0, eI 0] 50)
  have hM : MapP ((w.alloc (.map #[] 0)).alloc (.cells #[.map (some w.heap.size), .slice none 0 0, eI 0] 50)) w.heap.size 0 (fun _ => none) := (MapP.made w).below (up1 _ _)
  have b1 := Box.new (w.alloc (.map #[] 0)) 50 #[.map (some w.heap.size), .slice none 0 0, eI 0]
  simp only [World.size_alloc] at b1
  go_enter Tryd.func9, Tryd.ntmps9
  go_wp2
  go_ret
  refine ⟨w.heap.size + 1, w.heap.size, rfl, ?_, T⟩
  exact {
    box := b1
    colB := recol_ge (by omega)
    colM := recol_ge (Nat.le_refl _)
    colN := fun g e => by cases e
    map := hM
    nums := ⟨rfl, .inl ⟨rfl, rfl⟩⟩
    rise := List.Pairwise.nil
    rng := fun p hp => by cases hp
    mem := fun p => by simp
    page := fun p q e => by cases e
    inj := fun p p' q e => by cases e
    apart := fun p p' q q' g e => by cases e
    sub := fun p hp => absurd rfl hp
    good := Good.nil
    tab := ht.below T
    col0 := by rw [recol_lt ht.1]; exact h0
    cne := hc }
/-- The first id on a page, from a place on. -/
theorem from_any {q x one : Nat} {vv : Value} (hx : x < 18446744073709551616) (ho : one < 64) (ht : Tab w) (h : Box w q #[eU (x : Int), vv] 72) : Calls Tryd.prog 42 #[.pointer (some ⟨q, 0, none⟩), eI (one : Int)] w fun e w' => ∃ j : Nat, e = .returned (.tuple #[eI (j : Int), .bool (decide (j < 64))]) ∧ w = w' ∧ j ≤ 64 ∧ (j < 64 → one ≤ j ∧ x.testBit j = true) ∧ (∀ i, one ≤ i → i < j → x.testBit i = false) := by
  obtain ⟨j, e1, h1, h2, h3⟩ := from_bits (one := one) hx
  have hy : x / 2 ^ one * 2 ^ one < 18446744073709551616 := Nat.lt_of_le_of_lt (Nat.div_mul_le_self _ _) hx
  have hC := ctz_any _ hy w ht
  rw [e1] at hC
  have c0 := h.cell 0
  have r0 : ¬ (one : Int) < 0 := by omega
  have r1 : min one 64 = one := by omega
  have e2 : (2 : Int) ^ one = ((2 ^ one : Nat) : Int) := by simp
  have a1 : (x : Int) / (2 : Int) ^ one = ((x / 2 ^ one : Nat) : Int) := by rw [e2]; rfl
  have a2 : IntKind.u64.wrap (((x / 2 ^ one : Nat) : Int) * (2 : Int) ^ one) = ((x / 2 ^ one * 2 ^ one : Nat) : Int) := by
    rw [e2, ← Int.natCast_mul]
    exact wrap_id (by omega) (by omega)
  have a3 : IntKind.u64.wrap (x : Int) = (x : Int) := wrap_id (by omega) (by omega)
  have hd : decide ((j : Int) < 64) = decide (j < 64) := by rw [Bool.eq_iff_iff]; simp; omega
  clear e2 hy e1
  generalize x / 2 ^ one * 2 ^ one = y at *
  generalize x / 2 ^ one = z at *
  go_enter Tryd.func42, Tryd.ntmps42
  go_wp2_with (go_at_call 51; (with_reducible refine hC.mono ?_); rintro e w1 ⟨rfl, rfl⟩)
  go_ret2
  exact ⟨j, by simp, rfl, h1, h2, h3⟩
end
end Go.Proofs.YtenghpgnhmglpaaDoor
