/- What a row of acts does to a new tree of ids: the items that stand at its end. No condition but words. -/
import Derived.Test.YtcpienpkpodfmaaAF
namespace Go.Proofs.Ytcpienpkpodfmaa
open Go.RowKit Go.Shelf
set_option linter.unusedVariables false
/-- One act on a row of items. -/
def stepL (L : List It) (a : Ac) : List It := if a.d then dropA a.i L else putA a.it L
/-- The items behind the first n acts. -/
def rowA (xs : Nat → Ac) : Nat → List It
  | 0 => []
  | n + 1 => stepL (rowA xs n) (xs n)
theorem acted_over (a : Option Addr) (n c : Nat) (w : World) (hn : 200 < n) (hnm : n ≤ maxLen) :
    Calls Try.prog 17 #[.slice a n c] w fun e w' => e = .returned (.pointer none) ∧ Below w.heap.size w w' := by
  have hN := aug_new w w (Below.refl _ _)
  have h1 : (200 : Int) < (n : Int) := by omega
  go_enter Try.func17, Try.ntmps17
  go_wp2_with (first
    | (go_at_call 9; (with_reducible refine hN.mono ?_); rintro e w1 ⟨B, rfl, hO, hb1⟩))
  go_ret
  exact ⟨rfl, hb1⟩
set_option maxRecDepth 100000 in
set_option maxHeartbeats 4000000 in
theorem acted_ok (a : Option Addr) (n c : Nat) (xs : Nat → Ac) (w : World) (hn : n ≤ 200) (hI : IsAcs w a n c xs) (hw : ∀ i, (xs i).word) :
    Calls Try.prog 17 #[.slice a n c] w fun e w' => ∃ B : Nat, e = .returned (.pointer (some ⟨B, 0, none⟩)) ∧ Aug w w' n B (rowA xs n) := by
  have hN := aug_new w w (Below.refl _ _)
  have hcell : ∀ (k : Nat) w', k < n → Below w.heap.size w w' → ∃ b o, a = some ⟨b, o, none⟩ ∧ b < w.heap.size ∧ AcC w' b (o + k * 6) (xs k) := fun k w' hk T => by
    obtain ⟨h2, h3⟩ := hI
    rcases h3 with h3 | ⟨b, o, e, h3⟩
    · omega
    · exact ⟨b, o, e, h3.1, (h3.below T).2 k hk⟩
  have hPut : ∀ (W : World) (B k : Nat), k < n → Aug w W k B (rowA xs k) → Calls Try.prog 12 #[.pointer (some ⟨B, 0, none⟩), eI (xs k).i, eU (xs k).k, eU (xs k).v] W fun e w' => e = .returned (.tuple #[]) ∧ Aug w w' (k + 1) B (putA (xs k).it (rowA xs k)) := fun W B k hk h =>
    (aug_put (xs k).it (hw k).1 (by omega) h).mono fun e w' ⟨h1, h2, _⟩ => ⟨h1, h2⟩
  have hDrop : ∀ (W : World) (B k : Nat), k < n → Aug w W k B (rowA xs k) → Calls Try.prog 13 #[.pointer (some ⟨B, 0, none⟩), eI (xs k).i] W fun e w' => ∃ z : Bool, e = .returned (.bool z) ∧ Aug w w' (k + 1) B (dropA (xs k).i (rowA xs k)) := fun W B k hk h =>
    (aug_drop (xs k).i (hw k).1.2.1 (by omega) h).mono fun e w' ⟨h1, h2, _⟩ => ⟨_, h1, h2.more (Nat.le_succ _)⟩
  have hce := Lib.hid hcell
  have hp := Lib.hid hPut
  have hd := Lib.hid hDrop
  have hnc : (n : Int) ≤ (c : Int) := by have := hI.1; omega
  have h1 : ¬ (200 : Int) < (n : Int) := by omega
  clear hcell hPut hDrop hI hw
  go_enter Try.func17, Try.ntmps17
  go_wp2_with (first
    | (go_at_call 9; (with_reducible refine hN.mono ?_); rintro e w1 ⟨B, rfl, H0, hb1⟩))
  clear hN hb1
  go_loopw [4] (fun s4 wr => ∃ k : Nat, s4 = .int .i64 k ∧ k ≤ n ∧ Aug w wr k B (rowA xs k)) (fun s4 _ => n - (intOf s4).toNat)
  case atStart => exact ⟨0, rfl, by omega, H0⟩
  case round =>
    clear H0
    obtain ⟨k, rfl, hk, H⟩ := hrel
    by_cases hlt : k < n
    · have i1 : (k : Int) < (n : Int) := by omega
      have i2 : (0 : Int) ≤ (k : Int) := by omega
      obtain ⟨b, o, rfl, hbw, x1, x2, x3, x4⟩ := hce.out k wr hlt H.world
      cases hdd : (xs k).d with
      | true =>
        rw [hdd] at x4
        go_wp2_with (first
          | (go_at_call 13; (with_reducible refine (hd.out _ B k hlt H).mono ?_); rintro e w5 ⟨z5, rfl, H5⟩))
        refine ⟨⟨k + 1, rfl, by omega, ?_⟩, by simp [intOf]; omega⟩
        show Aug w w5 (k + 1) B (stepL (rowA xs k) (xs k))
        unfold stepL
        rw [hdd]
        exact H5
      | false =>
        rw [hdd] at x4
        go_upto_region 9 with fail
        go_still_tail 16, (by kernel_rfl)
        change wpList _ _ _ _ _ wr.drew
        have hP := hp.out wr.drew B k hlt (H.below (Below.refl _ wr).drew)
        generalize wr.drew = W3 at *
        go_wp2_with (go_at_call 12; (with_reducible refine hP.mono ?_); rintro e w5 ⟨rfl, H5⟩)
        refine ⟨⟨k + 1, rfl, by omega, ?_⟩, by simp [intOf]; omega⟩
        show Aug w w5 (k + 1) B (stepL (rowA xs k) (xs k))
        unfold stepL
        rw [hdd]
        exact H5
    · obtain rfl : k = n := by omega
      have i1 : ¬ (k : Int) < (k : Int) := by omega
      go_wp2_with fail
      go_ret
      exact ⟨_, rfl, H⟩
end Go.Proofs.Ytcpienpkpodfmaa
