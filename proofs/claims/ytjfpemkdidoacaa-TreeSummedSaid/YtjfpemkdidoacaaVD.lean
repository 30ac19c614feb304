/- The stage's theorem's walk: the tree is well, and not high. No condition but words. -/
import Derived.Test.YtjfpemkdidoacaaVC
namespace Go.Proofs.Ytjfpemkdidoacaa
open Go.RowKit Go.Shelf
set_option linter.unusedVariables false
theorem ow_hgt {w W : World} {B : Nat} {L : List It} (hl : L.length ≤ 200) (h : OW w W B L) : Calls Try.prog 28 #[.pointer (some ⟨B, 0, none⟩)] W fun e w' => ∃ H : Nat, e = .returned (eI (H : Int)) ∧ (2 ^ (H / 2) ≤ L.length + 1 ∧ (H = 0 ↔ L = []) ∧ H ≤ 15) ∧ OW w w' B L := by
  refine (ob_height (by omega) h.1).mono fun e w' ⟨H, e1, ⟨e2, e3, e4⟩, e5⟩ => ⟨H, e1, ⟨e2, e3, ?_⟩, h.below e5⟩
  by_cases q : H ≤ 15
  · exact q
  · exfalso
    have : 2 ^ 8 ≤ 2 ^ (H / 2) := Nat.pow_le_pow_right (by omega) (by omega)
    have e : 2 ^ 8 = 256 := rfl
    omega
theorem ow_len {w W : World} {B : Nat} {L : List It} (h : OW w W B L) : Calls Try.prog 27 #[.pointer (some ⟨B, 0, none⟩)] W fun e w' => e = .returned (eI (L.length : Int)) ∧ W = w' := ob_len h.1
theorem ow_well {w W : World} {B : Nat} {L : List It} (hl : L.length ≤ 200) (h : OW w W B L) : Calls Try.prog 29 #[.pointer (some ⟨B, 0, none⟩), .func (.func 30) #[] #[]] W fun e w' => e = .returned (.bool true) ∧ OW w w' B L :=
  (ob_well (by omega) h.1).mono fun e w' ⟨e1, e2⟩ => ⟨e1, h.below e2⟩
theorem two_pow_le {j : Nat} (h : j ≤ 8) : 2 ^ j ≤ 256 := Nat.pow_le_pow_right (n := 2) (by omega) h
set_option maxRecDepth 100000 in
set_option maxHeartbeats 4000000 in
theorem TreeWell_walk (a : Option Addr) (n c : Nat) (xs : Nat → Ac) (w : World) (hI : IsAcs w a n c xs) (hw : ∀ i, (xs i).word) (hcm : c ≤ maxLen) (hnn : a = none → n = 0 ∧ c = 0) :
    Calls Try.prog 6 #[.slice a n c] w fun e w' => e = .returned (.bool true) ∧ Below w.heap.size w w' := by
  have hA := awake_any w
  by_cases hn : n ≤ 200
  · have hact : ∀ w1, Below w.heap.size w w1 → Calls Try.prog 35 #[.slice a n c] w1 fun e w' => ∃ B : Nat, e = .returned (.pointer (some ⟨B, 0, none⟩)) ∧ OW w w' B (rowA xs n) := fun w1 T =>
      (acted_ok a n c xs w1 hn (hI.below T) hw).mono fun e w' ⟨B, e1, e2, e3, e4⟩ => ⟨B, e1, e2, Nat.le_trans T.size e3, upp T e4⟩
    have hl : (rowA xs n).length ≤ 200 := by have := rowA_len xs n; omega
    clear hI hw hcm hnn
    generalize rowA xs n = L at *
    go_enter Try.func6, Try.ntmps6
    go_wp2_with (first
      | (go_at_call 34; (with_reducible refine hA.mono ?_); rintro e w1 ⟨rfl, T1⟩)
      | (go_at_call 35; (with_reducible refine (hact _ T1).mono ?_); rintro e w2 ⟨B, rfl, O2⟩)
      | (go_at_call 28; (with_reducible refine (ow_hgt hl O2).mono ?_); rintro e w3 ⟨H, rfl, ⟨h1, h2, h3⟩, O3⟩))
    clear hA hact O2 T1
    go_loopw [5, 6] (fun s5 s6 wr => ∃ j : Nat, s5 = .int .i64 ((2 ^ j : Nat) : Int) ∧ s6 = .int .i64 (2 * (j : Int)) ∧ j ≤ H / 2 ∧ OW w wr B L) (fun s5 s6 _ => 20 - (intOf s6).toNat)
    case atStart => exact ⟨0, rfl, rfl, by omega, O3⟩
    case round =>
      clear O3
      obtain ⟨j, rfl, rfl, hj, O⟩ := hrel
      have hp := two_pow_le (j := j) (by omega)
      have e0 : (2 * (j : Int) + 1 < (H : Int)) ↔ j < H / 2 := by omega
      by_cases hlt : j < H / 2
      · have i1 : 2 * (j : Int) + 1 < (H : Int) := e0.2 hlt
        have i2 : (0 : Int) ≤ ((2 ^ j : Nat) : Int) := Int.natCast_nonneg _
        have i3 : ((2 ^ j : Nat) : Int) ≤ 256 := by exact_mod_cast hp
        have w1 : IntKind.i64.wrap (2 * (j : Int) + 1) = 2 * (j : Int) + 1 := wrap_id (by omega) (by omega)
        have w2 : IntKind.i64.wrap (2 * (j : Int) + 2) = 2 * (j : Int) + 2 := wrap_id (by omega) (by omega)
        have w3 : IntKind.i64.wrap (2 * ((2 ^ j : Nat) : Int)) = 2 * ((2 ^ j : Nat) : Int) := wrap_id (by omega) (by omega)
        have e1 : ((2 ^ (j + 1) : Nat) : Int) = 2 * ((2 ^ j : Nat) : Int) := by rw [Nat.pow_succ]; omega
        generalize ((2 ^ j : Nat) : Int) = P at *
        go_wp2_with fail
        exact ⟨⟨j + 1, by rw [e1], by simp; omega, by omega, O⟩, by simp [intOf]; omega⟩
      · have i1 : ¬ 2 * (j : Int) + 1 < (H : Int) := fun h => hlt (e0.1 h)
        have w1 : IntKind.i64.wrap (2 * (j : Int) + 1) = 2 * (j : Int) + 1 := wrap_id (by omega) (by omega)
        have w4 : IntKind.i64.wrap ((L.length : Int) + 1) = (L.length : Int) + 1 := wrap_id (by omega) (by omega)
        obtain rfl : j = H / 2 := by omega
        have i4 : ((2 ^ (H / 2) : Nat) : Int) ≤ (L.length : Int) + 1 := by have := h1; exact_mod_cast h1
        have i5 : (0 : Int) ≤ (H : Int) := by omega
        have i6 : ((H : Int) == 0) = ((L.length : Int) == 0) := by
          rw [Bool.eq_iff_iff, beq_iff_eq, beq_iff_eq]
          have q := h2.trans (List.length_eq_zero_iff (l := L)).symm
          omega
        generalize ((2 ^ (H / 2) : Nat) : Int) = P at *
        have hu := undef_ne
        go_wp2_with (first
          | (go_at_call 29; (with_reducible refine (ow_well hl O).mono ?_); clear O; rintro e w5 ⟨rfl, O⟩)
          | (go_at_call 27; (with_reducible refine (ow_len O).mono ?_); rintro e w6 ⟨rfl, rfl⟩))
        go_ret
        exact ⟨rfl, O.2.2⟩
  · have hact : ∀ w1, Below w.heap.size w w1 → Calls Try.prog 35 #[.slice a n c] w1 fun e w' => e = .returned (.pointer none) ∧ Below w.heap.size w w' := fun w1 T =>
      (acted_over a n c w1 (by omega) (Nat.le_trans hI.1 hcm)).mono fun e w' ⟨e1, e2⟩ => ⟨e1, upp T e2⟩
    go_enter Try.func6, Try.ntmps6
    go_wp2_with (first
      | (go_at_call 34; (with_reducible refine hA.mono ?_); rintro e w1 ⟨rfl, T1⟩)
      | (go_at_call 35; (with_reducible refine (hact _ T1).mono ?_); rintro e w2 ⟨rfl, T2⟩))
    go_ret
    exact ⟨rfl, T2⟩
end Go.Proofs.Ytjfpemkdidoacaa
