/- OctetWrites's walk. Condition: what the slice and the byte can hold. -/
import Derived.Test.YtpjhhmmfcoknpaaOcL
namespace Go.Proofs.Ytpjhhmmfcoknpaa
open Go.RowKit
set_option linter.unusedVariables false
/-- A pen of the call's own. -/
structure On (w0 w : World) (P : Nat) (X : List UInt8) : Prop where
  p : Pen w P X
  lp : w0.heap.size ≤ P
  T : Below w0.heap.size w0 w
theorem On.below {w0 w w' : World} {P : Nat} {X : List UInt8} (h : On w0 w P X) (k : Below w.heap.size w w') : On w0 w' P X := ⟨h.p.below k, h.lp, ups h.T k h.T.size⟩
theorem On.onP {w0 w w' : World} {P : Nat} {X Y : List UInt8} (h : On w0 w P X) (p : Pen w' P Y) (k : But P w w') : On w0 w' P Y := ⟨p, h.lp, k.up h.T h.lp⟩
theorem add_str (X Y : List UInt8) (h : X.length + Y.length < 4000000000) (W : World) : (Op.stringOp .add (bs X) (bs Y)).run Try.prog W = .ok (.string (bs (X ++ Y))) W := by
  have h := run_string_add_sum (P := Try.prog) (w := W) (bs X) (bs Y) (by rw [bs_size, bs_size]; omega)
  rw [bs_append] at h
  exact h
set_option maxHeartbeats 16000000 in
set_option maxRecDepth 100000 in
theorem OctetWrites_walk (a : Option Addr) (n c : Nat) (xs : Nat → Th) (tm : Int) (w0 : World) (hI : IsThs w0 a n c xs) (hok : ∀ i, (xs i).ok) (htm : 0 ≤ tm ∧ tm < 256) :
    Calls Try.prog 3 #[.slice a n c, .int .u8 tm] w0 fun e w' => e = .returned (.bool true) ∧ Below w0.heap.size w0 w' := by
  have j3 : (n : Int) ≤ (c : Int) := by have := hI.1; omega
  by_cases hb1 : 800 < n
  · have j0 : (800 : Int) < (n : Int) := by omega
    go_enter Try.func3, Try.ntmps3
    go_wp2
    go_ret
    exact ⟨rfl, Below.refl _ _⟩
  have j0 : ¬ (800 : Int) < (n : Int) := by omega
  have hz28 := zero28 w0
  have hPn := Pen.new w0
  have T0 := up1 w0 (.cells (penC []) 28)
  generalize penC [] = p0 at *
  have O0 : On w0 (w0.alloc (.cells p0 28)) w0.heap.size [] := ⟨hPn, Nat.le_refl _, T0⟩
  go_enter Try.func3, Try.ntmps3
  go_wp2
  generalize w0.alloc (.cells p0 28) = w3 at *
  obtain ⟨P, hP⟩ : ∃ P, w0.heap.size = P := ⟨_, rfl⟩
  clear hz28 hPn T0 hP
  go_loopw [6, 7] (fun s6 s7 wr => ∃ (t : Nat) (X : List UInt8), s6 = .string (bs X) ∧ s7 = .int .i64 t ∧ t ≤ 10 ∧ On w0 wr w0.heap.size X ∧ X.length ≤ 8000 * t) (fun s6 s7 _ => 10 - (intOf s7).toNat)
  case atStart => exact ⟨0, [], rfl, rfl, by omega, O0, by simp⟩
  case round =>
    clear O0
    obtain ⟨t, X, rfl, rfl, ht, O, hX⟩ := hrel
    have hmod : tm.tmod 10 = tm % 10 := Int.tmod_eq_emod_of_nonneg htm.1
    by_cases hgo : (t : Int) ≤ tm % 10
    · have j1 : (t : Int) ≤ tm % 10 := hgo
      go_wp2
      go_loopw [6, 8] (fun s6 s8 wi => ∃ (k : Nat) (Y : List UInt8), s6 = .string (bs Y) ∧ s8 = .int .i64 k ∧ k ≤ n ∧ On w0 wi w0.heap.size Y ∧ Y.length ≤ 8000 * t + 10 * k) (fun s6 s8 _ => n - (intOf s8).toNat)
      case atStart => exact ⟨0, X, rfl, rfl, by omega, O, by omega⟩
      case round =>
        clear O hX
        obtain ⟨k, Y, rfl, rfl, hk, O, hY⟩ := hrel
        by_cases hlt : k < n
        · obtain ⟨b, o, rfl, hb, c0, c1⟩ := hI.at hlt
          have hcell : ∀ W, Below w0.heap.size w0 W → W.cell? ⟨b, o + k * 2, none⟩ = some (.int .u8 ((xs k).k : Int)) ∧ W.cell? ⟨b, o + k * 2 + 1, none⟩ = some (.int .u64 ((xs k).n : Int)) := fun W T => ⟨(T.cell (p := ⟨b, _, none⟩) hb).trans c0, (T.cell (p := ⟨b, _, none⟩) hb).trans c1⟩
          clear c0 c1
          obtain ⟨c0, c1⟩ := hcell _ O.T
          have j4 : (k : Int) < (n : Int) := by omega
          have hZl := wrB_le (hok k)
          have htok := hok k
          have hW : Calls Try.prog 9 #[thV (xs k), ptr w0.heap.size] _ fun e w' => e = .returned unitV ∧ On w0 w' w0.heap.size (Y ++ wrB (xs k)) := (write_any O.p (xs k) (hok k) (by omega)).mono fun e w' ⟨x, y, z⟩ => ⟨x, O.onP y z⟩
          have hadd := add_str Y (wrB (xs k)) (by omega)
          clear O
          rcases (by omega : (xs k).k % 4 = 0 ∨ (xs k).k % 4 = 1 ∨ (xs k).k % 4 = 2 ∨ (xs k).k % 4 = 3) with hk4 | hk4 | hk4 | hk4
          · have hki : ((xs k).k : Int) % 4 = 0 := by omega
            have hwr : wrB (xs k) = [UInt8.ofNat (xs k).n] := by unfold wrB; simp only [hk4]; simp
            rw [hwr] at hW hadd hZl
            have h8 : IntKind.u8.wrap ((xs k).n : Int) = ((xs k).n : Int) % 256 := by rw [IntKind.wrap_u8]
            have hct : (((UInt8.ofNat (xs k).n).toNat : Nat) : Int) = ((xs k).n : Int) % 256 := by rw [UInt8.toNat_ofNat']; omega
            have hconv : ∀ W : World, (convert 33 9 (.slice (some ⟨W.heap.size, 0, none⟩) 1 1)).run Try.prog (W.alloc (.cells #[.int .u8 (((xs k).n : Int) % 256)] 5)) = .ok (.string (bs [UInt8.ofNat (xs k).n])) (W.alloc (.cells #[.int .u8 (((xs k).n : Int) % 256)] 5)) := fun W => by
              have h := conv_one W (UInt8.ofNat (xs k).n)
              rw [hct] at h
              exact h
            clear hct
            go_wp2_with (first
              | (go_at_call 9; (with_reducible refine hW.mono ?_); rintro e w1 ⟨rfl, O1⟩; obtain ⟨c2, c3⟩ := hcell _ O1.T; have f1 := hconv w1; have O2 := O1.below (up1 w1 (.cells #[.int .u8 (((xs k).n : Int) % 256)] 5))))
            go_roundw
            case rel => exact ⟨k + 1, _, rfl, by simp, by omega, O2, by simp only [List.length_append]; omega⟩
            case measure => simp only [intOf]; omega
          · have hki : ((xs k).k : Int) % 4 = 1 := by omega
            have hwr : wrB (xs k) = numL (xs k).n := by unfold wrB; simp only [hk4]; simp
            rw [hwr] at hW hadd hZl
            have hR := RNum_any (xs k).n htok.2
            go_wp2_with (first
              | (go_at_call 9; (with_reducible refine hW.mono ?_); rintro e w1 ⟨rfl, O1⟩; obtain ⟨c2, c3⟩ := hcell _ O1.T; have f1 := hR w1)
              | (go_at_call 10; (with_reducible refine f1.mono ?_); rintro e w2 ⟨rfl, T2⟩))
            go_roundw
            case rel => exact ⟨k + 1, _, rfl, by simp, by omega, O1.below T2, by simp only [List.length_append]; omega⟩
            case measure => simp only [intOf]; omega
          · have hki : ((xs k).k : Int) % 4 = 2 := by omega
            have hwr : wrB (xs k) = numL (zg (i64 (xs k).n)) := by unfold wrB; simp only [hk4]; simp
            rw [hwr] at hW hadd hZl
            have hR := RInt_any (i64 (xs k).n) (i64_lt htok.2)
            have hw := i64_wrap htok.2
            go_wp2_with (first
              | (go_at_call 9; (with_reducible refine hW.mono ?_); rintro e w1 ⟨rfl, O1⟩; obtain ⟨c2, c3⟩ := hcell _ O1.T; have f1 := hR w1)
              | (go_at_call 11; (with_reducible refine f1.mono ?_); rintro e w2 ⟨rfl, T2⟩))
            go_roundw
            case rel => exact ⟨k + 1, _, rfl, by simp, by omega, O1.below T2, by simp only [List.length_append]; omega⟩
            case measure => simp only [intOf]; omega
          · have hki : ((xs k).k : Int) % 4 = 3 := by omega
            have hwr : wrB (xs k) = [if (xs k).n % 2 == 1 then 1 else 0] := by unfold wrB; simp only [hk4]; simp
            rw [hwr] at hW hadd hZl
            have hR := RFlag_any ((xs k).n % 2 == 1)
            rw [odd_int] at hR hW hadd hZl
            generalize [if ((xs k).n : Int) % 2 == 1 then (1 : UInt8) else 0] = Z at *
            go_wp2_with (first
              | (go_at_call 9; (with_reducible refine hW.mono ?_); rintro e w1 ⟨rfl, O1⟩; obtain ⟨c2, c3⟩ := hcell _ O1.T; have f1 := hR w1)
              | (go_at_call 12; (with_reducible refine f1.mono ?_); rintro e w2 ⟨rfl, T2⟩))
            go_roundw
            case rel => exact ⟨k + 1, _, rfl, by simp, by omega, O1.below T2, by simp only [List.length_append]; omega⟩
            case measure => simp only [intOf]; omega
        · obtain rfl : k = n := by omega
          have j4 : ¬ (k : Int) < (k : Int) := by omega
          have hD := Done_any O.p (by omega)
          have hsz := bs_size Y
          unfold doneV at hD
          by_cases hl : Y.length ≤ 4096
          · rw [if_pos hl] at hD
            have j5 : ¬ (4096 : Int) < (Y.length : Int) := by omega
            go_wp2_with (go_at_call 13; (with_reducible refine hD.mono ?_); rintro e w1 ⟨rfl, T1⟩)
            go_roundw
            case rel => exact ⟨t + 1, Y, rfl, by simp, by omega, O.below T1, by omega⟩
            case measure => simp only [intOf]; omega
          · rw [if_neg hl] at hD
            have hD : Calls Try.prog 13 #[ptr w0.heap.size] _ fun e w' => e = .returned (.tuple #[.string { data := #[] }, .int .i64 3]) ∧ Below _ _ w' := hD
            have j5 : (4096 : Int) < (Y.length : Int) := by omega
            go_wp2_with (go_at_call 13; (with_reducible refine hD.mono ?_); rintro e w1 ⟨rfl, T1⟩)
            go_roundw
            case rel => exact ⟨t + 1, Y, rfl, by simp, by omega, O.below T1, by omega⟩
            case measure => simp only [intOf]; omega
    · have hN : ∀ W, Calls Try.prog 14 #[.pointer none, .int .u64 300] W fun e w' => e = .returned unitV ∧ W = w' := fun W => Num_nil W 300 (by decide)
      have hD : ∀ W, Calls Try.prog 13 #[.pointer none] W fun e w' => e = .returned (.tuple #[.string { data := #[] }, .int .i64 1]) ∧ W = w' := fun W => Done_nil W
      have T := O.T
      go_wp2_with (first
        | (go_at_call 14; (with_reducible refine (hN _).mono ?_); rintro e w1 ⟨rfl, rfl⟩)
        | (go_at_call 13; (with_reducible refine (hD _).mono ?_); rintro e w1 ⟨rfl, rfl⟩))
      go_ret
      exact ⟨rfl, T⟩
end Go.Proofs.Ytpjhhmmfcoknpaa
