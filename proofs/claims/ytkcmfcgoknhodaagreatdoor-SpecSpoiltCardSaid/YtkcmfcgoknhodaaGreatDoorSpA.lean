/- Numbers as words, and words read as numbers, by the library. Condition: its table of powers of ten and its two errors are laid. -/
import Derived.Test.YtkcmfcgoknhodaaGreatDoorSpF
import Derived.Lib.AtoiErrMem
import Derived.Lib.AtoiAllCases
import Derived.Shelf.Strconv.AtoiAll
import Derived.Shelf.Pu.ParseUintPublic10
namespace Go.Proofs.YtkcmfcgoknhodaaGreatDoor
open Go.RowKit Go.Lib W
set_option linter.unusedVariables false
theorem sps {B : Nat} {W w w' : World} (h : Below B W w) (k : Below w.heap.size w w') (hB : B ≤ w.heap.size) : Below B W w' := h.trans (k.mono hB)
/-- The library's variables are laid. -/
def Lw (w : World) : Prop := Tab w ∧ (∃ t p, w.cell? ⟨2, 0, none⟩ = some (.iface t p)) ∧ (∃ t p, w.cell? ⟨3, 0, none⟩ = some (.iface t p))
theorem Lw.below {w w' : World} (h : Lw w) (hb : Below w.heap.size w w') : Lw w' := by
  obtain ⟨h1, ⟨t, p, h2⟩, ⟨t', p', h3⟩⟩ := h
  exact ⟨h1.below hb, ⟨t, p, (hb.cell (p := ⟨2, 0, none⟩) (Lib.lt_of_cell h2)).trans h2⟩, ⟨t', p', (hb.cell (p := ⟨3, 0, none⟩) (Lib.lt_of_cell h3)).trans h3⟩⟩

theorem Itoa_any (x : Int) (h : I64 x) (g : 0 ≤ x) (w : World) (hl : Lw w) :
    Calls Tryz.prog 18 #[.int .i64 x] w fun e w' => e = .returned (.string (dec x.toNat)) ∧ Below w.heap.size w w' := by
  refine (Tryz.strconv_Itoa x h.1 (by have := h.2; omega) w hl.1).mono fun e w' ⟨he, k, os, hw⟩ => ?_
  subst hw
  refine ⟨?_, Lib.below_grow _ w (Nat.le_refl _) k os⟩
  rw [he]
  unfold dec itoa
  rw [if_neg (by omega)]
theorem digits_any (x : Int) (h : Word x) (w : World) (hl : Lw w) :
    Calls Tryz.prog 34 #[.int .u64 x] w fun e w' => e = .returned (.string (dec x.toNat)) ∧ Below w.heap.size w w' := by
  obtain ⟨u, rfl⟩ : ∃ u : Nat, x = (u : Int) := ⟨x.toNat, by have := h.1; omega⟩
  rw [Int.toNat_natCast]
  have hu : u < 18446744073709551616 := by have := h.2; omega
  have hF := FormatUint_any u hu w hl.1
  clear h
  go_enter Tryz.func34, Tryz.ntmps34
  go_wp2_with (go_at_call 52; (with_reducible refine hF.mono ?_); rintro e w' ⟨rfl, hb⟩)
  go_ret
  exact ⟨rfl, hb⟩

theorem uintM_le {M : Nat} : ∀ (l : List UInt8) (acc u : Nat), acc ≤ M → parseUintM M acc l = .ok u → u ≤ M
  | [], acc, u, ha, h => by rw [parseUintM] at h; cases h; exact ha
  | c :: r, acc, u, ha, h => by
    rw [parseUintM] at h
    split at h
    · split at h
      · cases h
      · split at h
        · cases h
        · exact uintM_le r _ u (by omega) h
    · cases h
theorem uintB_lt {l : List UInt8} {u : Nat} (h : parseUintB 64 l = .ok u) : u < 18446744073709551616 := by
  unfold parseUintB at h
  split at h
  · cases h
  · have := uintM_le l 0 u (by omega) h
    omega

theorem Atoi_of (s : ByteArray) (hs : s.size ≤ 281474976710656) : ∃ n, IsI s.data.toList n ∧ ∀ w, Lw w →
    Calls Tryz.prog 36 #[.string s] w fun e w' => (∃ v, e = .returned (.tuple #[.int .i64 n, v])) ∧ Below w.heap.size w w' := by
  rcases hE : atoiAll s.data.toList with v | _ | _
  · obtain ⟨b0, b1⟩ := atoiAll_bounds hE
    refine ⟨v, ⟨⟨b0, by omega⟩, fun u hu e => ?_⟩, fun w hl => ?_⟩
    · rw [e, dec_atoi u hu] at hE
      cases hE; rfl
    · refine (Tryz.strconv_Atoi_ok s (by omega) v hE w).mono fun e w' ⟨he, hw⟩ => ⟨⟨_, he⟩, ?_⟩
      rcases hw with rfl | ⟨t, rfl⟩
      · exact Below.refl _ _
      · exact bytesWorld_below _ _ _
  · refine ⟨0, ⟨i64_zero, fun u hu e => ?_⟩, fun w hl => ?_⟩
    · rw [e, dec_atoi u hu] at hE; cases hE
    · obtain ⟨_, ⟨t, p, h2⟩, _⟩ := hl
      exact (Any.strconv_Atoi_syntax Tryz.laysC172 s hs hE _ w h2 (.inr ⟨t, p, rfl⟩)).mono fun e w' ⟨N, he, _, _, hb⟩ => ⟨⟨_, he⟩, hb⟩
  · obtain ⟨b0, b1⟩ := atoiSat_bounds s.data.toList
    refine ⟨atoiSat s.data.toList, ⟨⟨b0, by omega⟩, fun u hu e => ?_⟩, fun w hl => ?_⟩
    · rw [e, dec_atoi u hu] at hE; cases hE
    · obtain ⟨_, _, ⟨t, p, h3⟩⟩ := hl
      exact (Any.strconv_Atoi_range Tryz.laysC172 s hs hE _ w h3 (.inr ⟨t, p, rfl⟩)).mono fun e w' ⟨N, he, _, _, hb⟩ => ⟨⟨_, he⟩, hb⟩
theorem signed_any (s : ByteArray) (hs : s.size ≤ 281474976710656) : ∃ n, IsI s.data.toList n ∧ ∀ w, Lw w →
    Calls Tryz.prog 21 #[.string s] w fun e w' => e = .returned (.int .i64 n) ∧ Below w.heap.size w w' := by
  obtain ⟨n, hn, hA⟩ := Atoi_of s hs
  refine ⟨n, hn, fun w hl => ?_⟩
  clear hn
  go_enter Tryz.func21, Tryz.ntmps21
  go_wp2_with (go_at_call 36; (with_reducible refine (hA _ hl).mono ?_); rintro e w' ⟨⟨v, rfl⟩, hb⟩)
  go_ret
  exact ⟨rfl, hb⟩
theorem Uint_of (s : ByteArray) (hs : s.size ≤ 281474976710656) : ∃ n, IsU s.data.toList n ∧ ∀ w, Lw w →
    Calls Tryz.prog 58 #[.string s, .int .i64 10, .int .i64 64] w fun e w' => (∃ v, e = .returned (.tuple #[.int .u64 n, v])) ∧ Below w.heap.size w w' := by
  rcases hE : parseUintB 64 s.data.toList with v | _ | _
  · have b1 := uintB_lt hE
    refine ⟨v, ⟨⟨by omega, by omega⟩, fun u hu e => ?_⟩, fun w hl => ?_⟩
    · rw [e, dec_uint u hu] at hE
      cases hE; rfl
    · refine (Tryz.strconv_ParseUint_10_at64_ok s (by omega) v hE w).mono fun e w' ⟨he, hw⟩ => ⟨⟨_, he⟩, ?_⟩
      rcases hw with rfl | rfl
      · exact Below.refl _ _
      · exact bytesWorld_below _ _ _
  · refine ⟨0, ⟨word_zero, fun u hu e => ?_⟩, fun w hl => ?_⟩
    · rw [e, dec_uint u hu] at hE; cases hE
    · obtain ⟨_, ⟨t, p, h2⟩, _⟩ := hl
      exact (Any.strconv_ParseUint_10_at64_syntax Tryz.laysPu14 s hs hE _ w h2 (.inr ⟨t, p, rfl⟩)).mono fun e w' ⟨N, he, _, _, hb⟩ => ⟨⟨_, he⟩, hb⟩
  · refine ⟨18446744073709551615, ⟨⟨by omega, by omega⟩, fun u hu e => ?_⟩, fun w hl => ?_⟩
    · rw [e, dec_uint u hu] at hE; cases hE
    · obtain ⟨_, _, ⟨t, p, h3⟩⟩ := hl
      exact (Any.strconv_ParseUint_10_at64_range Tryz.laysPu14 s hs hE _ w h3 (.inr ⟨t, p, rfl⟩)).mono fun e w' ⟨N, he, _, _, hb⟩ => ⟨⟨_, he⟩, hb⟩
theorem unsigned_any (s : ByteArray) (hs : s.size ≤ 281474976710656) : ∃ n, IsU s.data.toList n ∧ ∀ w, Lw w →
    Calls Tryz.prog 37 #[.string s] w fun e w' => e = .returned (.int .u64 n) ∧ Below w.heap.size w w' := by
  obtain ⟨n, hn, hA⟩ := Uint_of s hs
  refine ⟨n, hn, fun w hl => ?_⟩
  clear hn
  go_enter Tryz.func37, Tryz.ntmps37
  go_wp2_with (go_at_call 58; (with_reducible refine (hA _ hl).mono ?_); rintro e w' ⟨⟨v, rfl⟩, hb⟩)
  go_ret
  exact ⟨rfl, hb⟩
end Go.Proofs.YtkcmfcgoknhodaaGreatDoor
