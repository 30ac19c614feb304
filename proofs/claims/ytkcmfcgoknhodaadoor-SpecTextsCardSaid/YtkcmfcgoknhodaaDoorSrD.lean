/- What the document's own Digits answers: the number whose text a word is, or none. No condition. -/
import Derived.Test.YtkcmfcgoknhodaaDoorSrN
namespace Go.Proofs.YtkcmfcgoknhodaaDoor
open Go.RowKit Go.Lib W
set_option linter.unusedVariables false

/-- One digit more, as the document reckons it. -/
def mord (x : Int) (c : Nat) : Int := (10 * x % 18446744073709551616 + ((c : Int) - 48)) % 18446744073709551616
theorem mord_word (x : Int) (c : Nat) : Word (mord x c) := by unfold mord Word; omega
/-- Digits alone, in a row. -/
def fd : List UInt8 → Int → Option Int
  | [], x => some x
  | c :: r, x => if 48 ≤ c.toNat ∧ c.toNat ≤ 57 then fd r (mord x c.toNat) else none
theorem fd_digit {c : UInt8} (r : List UInt8) (x : Int) (h : 48 ≤ c.toNat ∧ c.toNat ≤ 57) : fd (c :: r) x = fd r (mord x c.toNat) := by rw [fd, if_pos h]
theorem fd_none {c : UInt8} (r : List UInt8) (x : Int) (h : ¬ (48 ≤ c.toNat ∧ c.toNat ≤ 57)) : fd (c :: r) x = none := by rw [fd, if_neg h]
theorem fd_dec : ∀ (u : Nat) (r : List UInt8), u < 18446744073709551616 → fd (decDigits u ++ r) 0 = fd r (u : Int) := by
  intro u
  induction u using Nat.strongRecOn with
  | _ u ih =>
    intro r hu
    rw [decDigits]
    split
    · rename_i h
      rw [List.cons_append, List.nil_append, fd_digit _ _ (by rw [digit_of u h]; omega), digit_of u h]
      congr 1
      unfold mord; omega
    · rename_i h
      rw [List.append_assoc, ih (u / 10) (by omega) _ (by omega), List.cons_append, List.nil_append, fd_digit _ _ (by rw [digit_of _ (by omega)]; omega), digit_of _ (by omega)]
      congr 1
      unfold mord; omega
theorem fd_own (u : Nat) (h : u < 18446744073709551616) : fd (decDigits u) 0 = some (u : Int) := by
  have e := fd_dec u [] h
  rw [List.append_nil] at e
  rw [e, fd]
theorem IsD.long {s : List UInt8} (h : 20 < s.length) : IsD s 0 false :=
  ⟨⟨by omega, by omega⟩, fun h => (by cases h), fun u hu e => by have := dec_short u hu; rw [← e] at this; omega⟩
theorem IsD.no {s : List UInt8} (h : fd s 0 = none) : IsD s 0 false :=
  ⟨⟨by omega, by omega⟩, fun h => (by cases h), fun u hu e => by rw [e, fd_own u hu] at h; cases h⟩
theorem IsD.yes {s : List UInt8} {x : Int} {is : Bool} (h : fd s 0 = some x) (hx : Word x) (hb : is = true ↔ s = decDigits x.toNat) : IsD s x is :=
  ⟨hx, fun k => hb.1 k, fun u hu e => by
    have h' := h
    rw [e, fd_own u hu] at h'
    have h' := (Option.some.inj h').symm
    refine ⟨hb.2 ?_, h'⟩
    rw [h', Int.toNat_natCast]
    exact e⟩
/-- What Digits tells of a word. -/
def dgN (s : List UInt8) : Int := if 20 < s.length then 0 else match fd s 0 with | none => 0 | some x => x
def dgB (s : List UInt8) : Bool := if 20 < s.length then false else match fd s 0 with | none => false | some x => decide (s = decDigits x.toNat)
theorem fd_words : ∀ (s : List UInt8) (x y : Int), fd s x = some y → Word x → Word y
  | [], x, y, h, hx => by rw [fd] at h; cases h; exact hx
  | c :: r, x, y, h, hx => by
    by_cases hd : 48 ≤ c.toNat ∧ c.toNat ≤ 57
    · rw [fd_digit _ _ hd] at h
      exact fd_words r _ y h (mord_word _ _)
    · rw [fd_none _ _ hd] at h; cases h
theorem dg_is (s : List UInt8) : IsD s (dgN s) (dgB s) := by
  unfold dgN dgB
  by_cases h : 20 < s.length
  · rw [if_pos h, if_pos h]; exact IsD.long h
  · rw [if_neg h, if_neg h]
    cases hf : fd s 0 with
    | none => exact IsD.no hf
    | some x => exact IsD.yes hf (fd_words s 0 x hf ⟨by omega, by omega⟩) (by simp)
/-- What Digits answers of a word. -/
def IsDE (s : List UInt8) (e : Ending) : Prop := e = .returned (.tuple #[.int .u64 (dgN s), .bool (dgB s)])
theorem IsDE.long {s : List UInt8} (h : 20 < s.length) : IsDE s (.returned (.tuple #[.int .u64 0, .bool false])) := by
  unfold IsDE dgN dgB; rw [if_pos h, if_pos h]
theorem IsDE.no {s : List UInt8} (h : ¬ 20 < s.length) (hf : fd s 0 = none) : IsDE s (.returned (.tuple #[.int .u64 0, .bool false])) := by
  unfold IsDE dgN dgB; rw [if_neg h, if_neg h, hf]
theorem IsDE.yes {s : List UInt8} {x : Int} {b : Bool} (h : ¬ 20 < s.length) (hf : fd s 0 = some x) (hb : b = true ↔ s = decDigits x.toNat) : IsDE s (.returned (.tuple #[.int .u64 x, .bool b])) := by
  unfold IsDE dgN dgB; rw [if_neg h, if_neg h, hf]
  have e : b = decide (s = decDigits x.toNat) := by
    cases b
    · symm; rw [decide_eq_false_iff_not]; intro k; have := hb.2 k; cases this
    · symm; rw [decide_eq_true_iff]; exact hb.1 rfl
  rw [e]
theorem str_at (s : ByteArray) (k : Nat) (h : k < s.size) (W : World) : (Instr.index 9 (.string s) (.int .i64 (k : Int))).run Tryd.prog W = .ok (.int .u8 ((s[k]'h).toNat : Int)) W := by
  have hi : 0 ≤ (k : Int) ∧ (k : Int) < (s.size : Int) := by omega
  rw [run_index_string W 9 s .i64 k Tryd.underlying9, dif_pos hi]
  rfl
theorem NumberI_any (x : Int) (hx : Word x) (w : World) : Calls Tryd.prog 13 #[.int .u64 x] w fun e w' => e = .returned (.string (dec x.toNat)) ∧ Below w.heap.size w w' := by
  obtain ⟨u, rfl⟩ : ∃ u : Nat, x = (u : Int) := ⟨x.toNat, by have := hx.1; omega⟩
  rw [Int.toNat_natCast]
  exact Number_any u (by have := hx.2; omega) w

set_option maxHeartbeats 4000000 in
set_option maxRecDepth 100000 in
theorem Digits_any (s : ByteArray) (w : World) :
    Calls Tryd.prog 18 #[.string s] w fun e w' => IsDE s.data.toList e ∧ Below w.heap.size w w' := by
  have hl : s.data.toList.length = s.size := by rw [Array.length_toList]; rfl
  by_cases h20 : 20 < s.size
  · have h : (20 : Int) < (s.size : Int) := by omega
    go_enter Tryd.func18, Tryd.ntmps18
    go_wp2
    go_ret2
    exact ⟨.long (by omega), Below.refl _ _⟩
  · have h : ¬ (20 : Int) < (s.size : Int) := by omega
    go_enter Tryd.func18, Tryd.ntmps18
    go_wp2
    go_loopw [4, 5] (fun v i wr => ∃ (k : Nat) (x : Int), i = .int .i64 k ∧ v = .int .u64 x ∧ Word x ∧ k ≤ s.size ∧ wr = w ∧ fd (s.data.toList.drop k) x = fd s.data.toList 0) (fun _ i _ => s.size - (Lib.intOf i).toNat)
    case atStart => exact ⟨0, 0, rfl, rfl, ⟨by omega, by omega⟩, by omega, rfl, rfl⟩
    case round =>
      obtain ⟨k, x, rfl, rfl, hx, hk, rfl, hf⟩ := hrel
      by_cases hk1 : k < s.size
      · rw [drop_at s k hk1] at hf
        obtain ⟨c, hc⟩ : ∃ c : UInt8, c = s[k]'hk1 := ⟨_, rfl⟩
        have hix := str_at s k hk1
        rw [← hc] at hix hf
        clear hc
        by_cases hd : 48 ≤ c.toNat ∧ c.toNat ≤ 57
        · rw [fd_digit _ _ hd] at hf
          obtain ⟨d0, d1⟩ := hd
          go_wp2
          have e1 : IntKind.u64.wrap (IntKind.u64.wrap (10 * x) + ((c.toNat : Int) - 48)) = mord x c.toNat := by unfold mord; rw [IntKind.wrap_u64, IntKind.wrap_u64]
          rw [e1]
          exact ⟨⟨k + 1, mord x c.toNat, by rw [Int.natCast_add]; rfl, rfl, mord_word _ _, by omega, trivial, hf⟩, by simp [Lib.intOf]; omega⟩
        · rw [fd_none _ _ hd] at hf
          go_wp2
          all_goals (go_ret2; exact ⟨.no (by omega) hf.symm, Below.refl _ _⟩)
      · rw [drop_end s k hk1, fd] at hf
        have hN := NumberI_any x hx
        go_wp2_with (go_at_call 13; (with_reducible refine (hN _).mono ?_); rintro e w1 ⟨rfl, hb⟩)
        go_ret2
        refine ⟨.yes (by omega) hf.symm ?_, hb⟩
        rw [beq_iff_eq, ByteArray.toList_eq, ByteArray.toList_eq]
        exact ⟨fun h => h.symm, fun h => h.symm⟩
end Go.Proofs.YtkcmfcgoknhodaaDoor
