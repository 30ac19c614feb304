/- What a row of acts does to a new tree: the items that stand at its end. No condition but words. -/
import Derived.Test.YtjfpemkdidoacaaVB
namespace Go.Proofs.Ytjfpemkdidoacaa
open Go.RowKit Go.Shelf
set_option linter.unusedVariables false
theorem But.cell {B : Nat} {w w' : World} {p : Addr} (h : But B w w') (hp : p.block < w.heap.size) (hne : p.block ≠ B) : w'.cell? p = w.cell? p := World.cell?_of_block (h.block _ hp hne)
/-- One act on a row of items. -/
def stepL (L : List It) (a : Ac) : List It := if a.d then del a.k L else putL a.it L
/-- The items behind the first n acts. -/
def rowA (xs : Nat → Ac) : Nat → List It
  | 0 => []
  | n + 1 => stepL (rowA xs n) (xs n)
theorem rowA_len (xs : Nat → Ac) : ∀ n, (rowA xs n).length ≤ n
  | 0 => Nat.le_refl _
  | n + 1 => by
    have h := rowA_len xs n
    show (stepL (rowA xs n) (xs n)).length ≤ n + 1
    unfold stepL
    split
    · have := del_len_le (k := (xs n).k) (L := rowA xs n); omega
    · have := putL_len (x := (xs n).it) (L := rowA xs n); omega
theorem OW.but {w W W' : World} {B : Nat} {L L' : List It} (h : OW w W B L) (h' : Ob W' B L') (hb : But B W W') : OW w W' B L' :=
  ⟨h', h.2.1, h.2.2.trans (hb.below h.2.1 h.2.2.size)⟩
theorem OW.drew {w W : World} {B : Nat} {L : List It} (h : OW w W B L) : OW w W.drew B L := h.below (Below.refl _ W).drew
theorem ow_put {w W : World} {B : Nat} {L : List It} (h : OW w W B L) (x : It) (hx : Word x.1.1 ∧ Inte x.1.2 ∧ Word x.2) (hl : L.length ≤ 100000) :
    Calls Try.prog 13 #[.pointer (some ⟨B, 0, none⟩), ky x.1, eU x.2] W fun e w' => e = .returned (eI (if has x.1 L then 80 else 0)) ∧ OW w w' B (putL x L) ∧ But B W w' :=
  (ob_put x hx hl h.1).mono fun e w' ⟨e1, e2, e3⟩ => ⟨e1, h.but e2 e3, e3⟩
theorem ow_drop {w W : World} {B : Nat} {L : List It} (h : OW w W B L) (k : Ky) (hl : L.length ≤ 100000) :
    Calls Try.prog 14 #[.pointer (some ⟨B, 0, none⟩), ky k] W fun e w' => e = .returned (eI (if has k L then 0 else 81)) ∧ OW w w' B (del k L) ∧ But B W w' :=
  (ob_drop k hl h.1).mono fun e w' ⟨e1, e2, e3⟩ => ⟨e1, h.but e2 e3, e3⟩
theorem acted_over (a : Option Addr) (n c : Nat) (w : World) (hn : 200 < n) (hnm : n ≤ maxLen) :
    Calls Try.prog 35 #[.slice a n c] w fun e w' => e = .returned (.pointer none) ∧ Below w.heap.size w w' := by
  have hN := ob_new w
  have h1 : (200 : Int) < (n : Int) := by omega
  go_enter Try.func35, Try.ntmps35
  go_wp2_with (first
    | (go_at_call 10; (with_reducible refine hN.mono ?_); rintro e w1 ⟨B, rfl, hB, hO, hb1⟩))
  go_ret
  exact ⟨rfl, hb1⟩
set_option maxRecDepth 100000 in
set_option maxHeartbeats 4000000 in
theorem acted_ok (a : Option Addr) (n c : Nat) (xs : Nat → Ac) (w : World) (hn : n ≤ 200) (hI : IsAcs w a n c xs) (hw : ∀ i, (xs i).word) :
    Calls Try.prog 35 #[.slice a n c] w fun e w' => ∃ B : Nat, e = .returned (.pointer (some ⟨B, 0, none⟩)) ∧ OW w w' B (rowA xs n) := by
  have hN := ob_new w
  have hcell : ∀ (k : Nat) w', k < n → Below w.heap.size w w' → ∃ b o, a = some ⟨b, o, none⟩ ∧ b < w.heap.size ∧ w'.cell? ⟨b, o + k * 4, none⟩ = some (.int .u64 (xs k).k.1) ∧ w'.cell? ⟨b, o + k * 4 + 1, none⟩ = some (.int .i64 (xs k).k.2) ∧ w'.cell? ⟨b, o + k * 4 + 2, none⟩ = some (.int .u64 (xs k).v) ∧ w'.cell? ⟨b, o + k * 4 + 3, none⟩ = some (.bool (xs k).d) := fun k w' hk T => by
    obtain ⟨h2, h3⟩ := hI
    rcases h3 with h3 | ⟨b, o, e, h3⟩
    · omega
    · exact ⟨b, o, e, h3.1, (h3.below T).2 k hk⟩
  have hPut : ∀ (W : World) (B k : Nat), k < n → OW w W B (rowA xs k) → Calls Try.prog 13 #[.pointer (some ⟨B, 0, none⟩), ky (xs k).k, eU (xs k).v] W fun e w' => ∃ z : Int, e = .returned (eI z) ∧ OW w w' B (putL (xs k).it (rowA xs k)) ∧ But B W w' := fun W B k hk h =>
    (ow_put h (xs k).it ⟨(hw k).1, (hw k).2.1, (hw k).2.2⟩ (by have := rowA_len xs k; omega)).mono fun e w' h => ⟨_, h⟩
  have hDrop : ∀ (W : World) (B k : Nat), k < n → OW w W B (rowA xs k) → Calls Try.prog 14 #[.pointer (some ⟨B, 0, none⟩), ky (xs k).k] W fun e w' => ∃ z : Int, e = .returned (eI z) ∧ OW w w' B (del (xs k).k (rowA xs k)) ∧ But B W w' := fun W B k hk h =>
    (ow_drop h (xs k).k (by have := rowA_len xs k; omega)).mono fun e w' h => ⟨_, h⟩
  have hce := Lib.hid hcell
  have hp := Lib.hid hPut
  have hd := Lib.hid hDrop
  have hnc : (n : Int) ≤ (c : Int) := by have := hI.1; omega
  have h1 : ¬ (200 : Int) < (n : Int) := by omega
  clear hcell hPut hDrop hI hw
  go_enter Try.func35, Try.ntmps35
  go_wp2_with (first
    | (go_at_call 10; (with_reducible refine hN.mono ?_); rintro e w1 ⟨B, rfl, hB, hO, hb1⟩))
  have H0 : OW w w1 B [] := ⟨hO, hB, hb1⟩
  clear hN hB hO hb1
  go_loopw [4] (fun s4 wr => ∃ k : Nat, s4 = .int .i64 k ∧ k ≤ n ∧ OW w wr B (rowA xs k)) (fun s4 _ => n - (intOf s4).toNat)
  case atStart => exact ⟨0, rfl, by omega, H0⟩
  case round =>
    clear H0
    obtain ⟨k, rfl, hk, H⟩ := hrel
    by_cases hlt : k < n
    · have i1 : (k : Int) < (n : Int) := by omega
      have i2 : (0 : Int) ≤ (k : Int) := by omega
      obtain ⟨b, o, rfl, hbw, x1, x2, x3, x4⟩ := hce.out k wr hlt H.2.2
      have hbr : b < wr.heap.size := Nat.lt_of_lt_of_le hbw H.2.2.size
      have hbB : b ≠ B := by have := H.2.1; omega
      cases hdd : (xs k).d with
      | true =>
        rw [hdd] at x4
        go_wp2_with (first
          | (go_at_call 14; (with_reducible refine (hd.out _ B k hlt H).mono ?_); rintro e w5 ⟨z5, rfl, H5, hb5⟩))
        refine ⟨⟨k + 1, rfl, by omega, ?_⟩, by simp [intOf]; omega⟩
        show OW w w5 B (stepL (rowA xs k) (xs k))
        unfold stepL
        rw [hdd]
        exact H5
      | false =>
        rw [hdd] at x4
        go_upto_region 9 with fail
        go_region_held3 (fun w' => w'.cell? ⟨b, o + k * 4, none⟩ = some (.int .u64 (xs k).k.1) ∧ w'.cell? ⟨b, o + k * 4 + 1, none⟩ = some (.int .i64 (xs k).k.2) ∧ w'.cell? ⟨b, o + k * 4 + 2, none⟩ = some (.int .u64 (xs k).v))
          (first | exact ⟨x1, x2, x3⟩ | exact ⟨(hb5.cell (p := ⟨b, _, none⟩) hbr hbB).trans x1, (hb5.cell (p := ⟨b, _, none⟩) hbr hbB).trans x2, (hb5.cell (p := ⟨b, _, none⟩) hbr hbB).trans x3⟩)
          (first | (go_at_call 13; refine (hp.out wr.drew B k hlt H.drew).mono ?_; rintro e w5 ⟨z5, rfl, H5, hb5⟩))
        all_goals go_wp2_with fail
        refine ⟨⟨k + 1, rfl, by omega, ?_⟩, by simp [intOf]; omega⟩
        show OW w w5 B (stepL (rowA xs k) (xs k))
        unfold stepL
        rw [hdd]
        exact H5
    · obtain rfl : k = n := by omega
      have i1 : ¬ (k : Int) < (k : Int) := by omega
      go_wp2_with fail
      go_ret
      exact ⟨_, rfl, H⟩
end Go.Proofs.Ytjfpemkdidoacaa
