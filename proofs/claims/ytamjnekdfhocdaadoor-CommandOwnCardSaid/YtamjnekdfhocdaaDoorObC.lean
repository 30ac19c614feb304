/- A pen's calls: what each writes. Condition: less than 2^62 bytes are written. -/
import Derived.Test.YtamjnekdfhocdaaDoorObB
import Derived.StillTailTactics
import Derived.Laws.BytesArg
import Derived.Deep.CutRange
import Derived.Deep.DeepCutAuto
import Derived.Deep.CutBlock
namespace Go.Proofs.YtamjnekdfhocdaaDoor
open Go.RowKit
set_option linter.unusedVariables false
abbrev ptr (B : Nat) : Value := .pointer (some ⟨B, 0, none⟩)
abbrev unitV : Value := .tuple #[]
theorem zero28 (w : World) : (zeroValue 69).run Tryd.prog w = .ok (.agg (penC [])) w := (zero_of_info pen_zero).1 w
theorem Pen.new (w : World) : Pen (w.alloc (.cells (penC []) 69)) w.heap.size [] := Box.new w 69 _
theorem Pen.put {w : World} {B : Nat} {L : List UInt8} (h : Pen w B L) (b : UInt8) (hl : L.length < 4096) : Pen ((w.setCell ⟨B, L.length, none⟩ (.int .u8 (b.toNat : Int))).setCell ⟨B, 4096, none⟩ (.int .i64 ((L.length : Int) + 1))) B (L ++ [b]) := by
  unfold Pen
  rw [← penC_put L b hl]
  exact (Box.set h _ _).set _ _
theorem Pen.over {w : World} {B : Nat} {L : List UInt8} (h : Pen w B L) (b : UInt8) (hl : 4096 ≤ L.length) : Pen (w.setCell ⟨B, 4096, none⟩ (.int .i64 ((L.length : Int) + 1))) B (L ++ [b]) := by
  unfold Pen
  rw [← penC_over L b hl]
  exact Box.set h _ _
set_option maxHeartbeats 4000000 in
set_option maxRecDepth 100000 in
theorem add_any {w : World} {B : Nat} {L : List UInt8} (h : Pen w B L) (b : UInt8) (hL : L.length < 4611686018427387904) :
    Calls Tryd.prog 44 #[ptr B, .int .u8 (b.toNat : Int)] w fun e w' => e = .returned unitV ∧ Pen w' B (L ++ [b]) ∧ But B w w' := by
  have cm : w.cell? ⟨B, 4096, none⟩ = some (.int .i64 (L.length : Int)) := (h.cell 4096).trans (penC_many L)
  have fm := h.thaw 4096
  have hwr : IntKind.i64.wrap ((L.length : Int) + 1) = (L.length : Int) + 1 := by rw [IntKind.wrap_i64]; omega
  by_cases hl : L.length < 4096
  · have cn := (h.cell L.length).trans (penC_byte L hl)
    have fn := h.thaw L.length
    unfold gvL at cn
    have j0 : (L.length : Int) < 4096 := by omega
    have hP := Lib.hid (Pen.put (show Pen w.drew B L from h) b hl)
    have hB := Lib.hid (show But B w _ from ((But.of (B := B) ((Below.refl _ w).drew)).set L.length (.int .u8 (b.toNat : Int))).set 4096 (.int .i64 ((L.length : Int) + 1)))
    go_enter Tryd.func44, Tryd.ntmps44
    go_upto_region 1 with fail
    go_still_tail 9, (by kernel_rfl)
    change wpList _ _ _ _ _ w.drew
    have cm1 : w.drew.cell? ⟨B, 4096, none⟩ = some (.int .i64 (L.length : Int)) := cm
    have fm1 : w.drew.frozen? ⟨B, 4096, none⟩ = false := fm
    have cn1 : w.drew.cell? ⟨B, L.length, none⟩ = _ := cn
    have fn1 : w.drew.frozen? ⟨B, L.length, none⟩ = false := fn
    clear cm fm cn fn h
    generalize w.drew = w1 at *
    go_wp2
    exact ⟨rfl, .tuple #[], by simp [results, Tryd.results44, go_sem], rfl, hP.out, hB.out⟩
  · have j0 : ¬ (L.length : Int) < 4096 := by omega
    have hP := Lib.hid (Pen.over h b (by omega))
    have hB := Lib.hid ((But.refl B w).set 4096 (.int .i64 ((L.length : Int) + 1)))
    clear h
    go_enter Tryd.func44, Tryd.ntmps44
    go_wp2
    exact ⟨rfl, .tuple #[], by simp [results, Tryd.results44, go_sem], rfl, hP.out, hB.out⟩
set_option maxHeartbeats 4000000 in
set_option maxRecDepth 100000 in
theorem Byte_any {w : World} {B : Nat} {L : List UInt8} (h : Pen w B L) (b : UInt8) (hL : L.length < 4611686018427387904) :
    Calls Tryd.prog 24 #[ptr B, .int .u8 (b.toNat : Int)] w fun e w' => e = .returned unitV ∧ Pen w' B (L ++ [b]) ∧ But B w w' := by
  have hA := add_any h b hL
  go_enter Tryd.func24, Tryd.ntmps24
  go_wp2_with (go_at_call 44; (with_reducible refine hA.mono ?_); rintro e w1 ⟨rfl, hP, hB⟩)
  exact ⟨rfl, .tuple #[], by simp [results, Tryd.results24, go_sem], rfl, hP, hB⟩
set_option maxHeartbeats 4000000 in
set_option maxRecDepth 100000 in
theorem Byte_nil (w : World) (b : Int) :
    Calls Tryd.prog 24 #[.pointer none, .int .u8 b] w fun e w' => e = .returned unitV ∧ w = w' := by
  go_enter Tryd.func24, Tryd.ntmps24
  go_wp2
  exact ⟨rfl, .tuple #[], by simp [results, Tryd.results24, go_sem], rfl, rfl⟩
set_option maxHeartbeats 4000000 in
set_option maxRecDepth 100000 in
theorem Num_any {w : World} {B : Nat} {L : List UInt8} (h : Pen w B L) (n : Nat) (hn : n < 18446744073709551616) (hL : L.length < 4611686018427380000) :
    Calls Tryd.prog 45 #[ptr B, .int .u64 (n : Int)] w fun e w' => e = .returned unitV ∧ Pen w' B (L ++ numL n) ∧ But B w w' := by
  have hlen := numL_le10 hn
  go_enter Tryd.func45, Tryd.ntmps45
  go_wp2
  go_loopw [1] (fun s1 wr => ∃ (m : Nat) (M : List UInt8), s1 = .int .u64 m ∧ m < 18446744073709551616 ∧ Pen wr B M ∧ M ++ numL m = L ++ numL n ∧ But B w wr) (fun s1 _ => (intOf s1).toNat)
  case atStart => exact ⟨n, L, rfl, hn, h, rfl, But.refl _ _⟩
  case round =>
    obtain ⟨m, M, rfl, hm, hP, hE, hB⟩ := hrel
    have hM : M.length < 4611686018427387904 := by
      have := congrArg List.length hE
      simp only [List.length_append] at this
      omega
    by_cases hlt : m < 128
    · have j0 : ¬ (128 : Int) ≤ (m : Int) := by omega
      have hK := Byte_any hP (UInt8.ofNat m) hM
      rw [toNat_lo hlt] at hK
      go_wp2_with (go_at_call 24; (with_reducible refine hK.mono ?_); rintro e w1 ⟨rfl, hP1, hB1⟩)
      rw [← numL_lt hlt, hE] at hP1
      exact ⟨rfl, .tuple #[], by simp [results, Tryd.results45, go_sem], rfl, hP1, hB.trans hB1⟩
    · have j0 : (128 : Int) ≤ (m : Int) := by omega
      have hK := Byte_any hP (UInt8.ofNat (128 + m % 128)) hM
      rw [toNat_hi, show ((128 + m % 128 : Nat) : Int) = (m : Int) % 128 + 128 by omega] at hK
      go_wp2_with (go_at_call 24; (with_reducible refine hK.mono ?_); rintro e w1 ⟨rfl, hP1, hB1⟩)
      go_roundw
      case rel => exact ⟨m / 128, M ++ [UInt8.ofNat (128 + m % 128)], by simp, by omega, hP1, by rw [← hE, numL_ge (by omega : 128 ≤ m)]; simp, hB.trans hB1⟩
      case measure => simp only [intOf]; omega
set_option maxHeartbeats 4000000 in
set_option maxRecDepth 100000 in
theorem Num_nil (w : World) (n : Nat) (hn : n < 18446744073709551616) :
    Calls Tryd.prog 45 #[.pointer none, .int .u64 (n : Int)] w fun e w' => e = .returned unitV ∧ w = w' := by
  have hK := fun b => Byte_nil w b
  go_enter Tryd.func45, Tryd.ntmps45
  go_wp2
  go_loopw [1] (fun s1 wr => ∃ (m : Nat), s1 = .int .u64 m ∧ m < 18446744073709551616 ∧ w = wr) (fun s1 _ => (intOf s1).toNat)
  case atStart => exact ⟨n, rfl, hn, rfl⟩
  case round =>
    obtain ⟨m, rfl, hm, rfl⟩ := hrel
    by_cases hlt : m < 128
    · have j0 : ¬ (128 : Int) ≤ (m : Int) := by omega
      go_wp2_with (go_at_call 24; (with_reducible refine (hK _).mono ?_); rintro e w1 ⟨rfl, rfl⟩)
      exact ⟨rfl, .tuple #[], by simp [results, Tryd.results45, go_sem], rfl, rfl⟩
    · have j0 : (128 : Int) ≤ (m : Int) := by omega
      go_wp2_with (go_at_call 24; (with_reducible refine (hK _).mono ?_); rintro e w1 ⟨rfl, rfl⟩)
      go_roundw
      case rel => exact ⟨m / 128, by simp, by omega, by simp⟩
      case measure => simp only [intOf]; omega
set_option maxHeartbeats 4000000 in
set_option maxRecDepth 100000 in
theorem Int_any {w : World} {B : Nat} {L : List UInt8} (h : Pen w B L) (i : Int) (hi : -9223372036854775808 ≤ i ∧ i < 9223372036854775808) (hL : L.length < 4611686018427380000) :
    Calls Tryd.prog 46 #[ptr B, .int .i64 i] w fun e w' => e = .returned unitV ∧ Pen w' B (L ++ numL (zg i)) ∧ But B w w' := by
  have hK := Num_any h (zg i) (zg_lt hi) hL
  by_cases h0 : 0 ≤ i
  · have e0 : ((zg i : Nat) : Int) = 2 * i := by unfold zg; rw [if_pos h0]; omega
    rw [e0] at hK
    go_enter Tryd.func46, Tryd.ntmps46
    go_wp2_with (go_at_call 45; (with_reducible refine hK.mono ?_); rintro e w1 ⟨rfl, hP1, hB1⟩)
    exact ⟨rfl, .tuple #[], by simp [results, Tryd.results46, go_sem], rfl, hP1, hB1⟩
  · have e0 : ((zg i : Nat) : Int) = 2 * -(i + 1) + 1 := by unfold zg; rw [if_neg h0]; omega
    rw [e0] at hK
    go_enter Tryd.func46, Tryd.ntmps46
    go_wp2_with (go_at_call 45; (with_reducible refine hK.mono ?_); rintro e w1 ⟨rfl, hP1, hB1⟩)
    exact ⟨rfl, .tuple #[], by simp [results, Tryd.results46, go_sem], rfl, hP1, hB1⟩
set_option maxHeartbeats 4000000 in
set_option maxRecDepth 100000 in
theorem Flag_any {w : World} {B : Nat} {L : List UInt8} (h : Pen w B L) (b : Bool) (hL : L.length < 4611686018427380000) :
    Calls Tryd.prog 47 #[ptr B, .bool b] w fun e w' => e = .returned unitV ∧ Pen w' B (L ++ [if b then 1 else 0]) ∧ But B w w' := by
  cases b
  · have hK := Byte_any h 0 (by omega)
    rw [show (((0 : UInt8).toNat : Nat) : Int) = 0 from rfl] at hK
    go_enter Tryd.func47, Tryd.ntmps47
    go_wp2_with (go_at_call 24; (with_reducible refine hK.mono ?_); rintro e w1 ⟨rfl, hP1, hB1⟩)
    exact ⟨rfl, .tuple #[], by simp [results, Tryd.results47, go_sem], rfl, hP1, hB1⟩
  · have hK := Byte_any h 1 (by omega)
    rw [show (((1 : UInt8).toNat : Nat) : Int) = 1 from rfl] at hK
    go_enter Tryd.func47, Tryd.ntmps47
    go_wp2_with (go_at_call 24; (with_reducible refine hK.mono ?_); rintro e w1 ⟨rfl, hP1, hB1⟩)
    exact ⟨rfl, .tuple #[], by simp [results, Tryd.results47, go_sem], rfl, hP1, hB1⟩
theorem strOf_bs (L : List UInt8) : strOfNums (L.map fun b => (b.toNat : Int)) = bs L := by
  apply ByteArray.ext
  apply Array.toList_inj.1
  rw [strOfNums_data, List.map_map]
  show _ = L
  conv => rhs; rw [← List.map_id L]
  apply List.map_congr_left
  intro x _
  simp
/-- What Done tells of a pen. -/
def doneV (L : List UInt8) : Value := if L.length ≤ 4096 then .tuple #[.string (bs L), .int .i64 0] else .tuple #[.string (bs []), .int .i64 3]
set_option maxHeartbeats 4000000 in
set_option maxRecDepth 100000 in
theorem all_any {w : World} {B : Nat} {L : List UInt8} (h : Pen w B L) (hL : L.length < 4611686018427380000) :
    Calls Tryd.prog 49 #[ptr B] w fun e w' => e = .returned (doneV L) ∧ Below w.heap.size w w' := by
  have cm : w.cell? ⟨B, 4096, none⟩ = some (.int .i64 (L.length : Int)) := (h.cell 4096).trans (penC_many L)
  have fm := h.thaw 4096
  unfold doneV
  by_cases hl : L.length ≤ 4096
  · rw [if_pos hl]
    have j0 : ¬ (4096 : Int) < (L.length : Int) := by omega
    go_enter Tryd.func49, Tryd.ntmps49
    go_upto_region 3 with fail
    go_still_tail 7, (by kernel_rfl)
    change wpList _ _ _ _ _ w.drew
    have hB : ∀ i, i < L.length → w.drew.cell? ⟨B, 0 + i, none⟩ = some (.int .u8 ((L.map fun b => (b.toNat : Int)).getD i 0)) := fun i hi => by
      rw [Nat.zero_add]
      refine ((Box.cell (show Box w.drew B (penC L) 69 from h) i).trans (penC_byte L (by omega))).trans ?_
      simp [gvL, List.getD, hi]
    have hconv := run_convert_bytes_arg (P := Tryd.prog) w.drew 61 5 Tryd.underlying61 Tryd.underlying5 B 0 L.length 4096 (L.map fun b => (b.toNat : Int)) (by simp) hB 9 Tryd.underlying9
    rw [strOf_bs] at hconv
    have j1 : (L.length : Int) ≤ 4096 := by omega
    have j2 : (0 : Int) ≤ (L.length : Int) := by omega
    clear hB cm fm h
    have T := (Below.refl w.heap.size w).drew
    generalize w.drew = w1 at *
    go_wp2
    go_ret2
    exact ⟨rfl, T⟩
  · rw [if_neg hl]
    have j0 : (4096 : Int) < (L.length : Int) := by omega
    go_enter Tryd.func49, Tryd.ntmps49
    go_wp2
    go_ret2
    exact ⟨rfl, Below.refl _ _⟩
set_option maxHeartbeats 4000000 in
set_option maxRecDepth 100000 in
theorem Done_any {w : World} {B : Nat} {L : List UInt8} (h : Pen w B L) (hL : L.length < 4611686018427380000) :
    Calls Tryd.prog 27 #[ptr B] w fun e w' => e = .returned (doneV L) ∧ Below w.heap.size w w' := by
  have hK := all_any h hL
  unfold doneV at hK ⊢
  by_cases hl : L.length ≤ 4096
  · rw [if_pos hl] at hK ⊢
    go_enter Tryd.func27, Tryd.ntmps27
    go_wp2_with (go_at_call 49; (with_reducible refine hK.mono ?_); rintro e w1 ⟨rfl, T⟩)
    go_ret2
    exact ⟨rfl, T⟩
  · rw [if_neg hl] at hK ⊢
    go_enter Tryd.func27, Tryd.ntmps27
    go_wp2_with (go_at_call 49; (with_reducible refine hK.mono ?_); rintro e w1 ⟨rfl, T⟩)
    go_ret2
    exact ⟨rfl, T⟩
set_option maxHeartbeats 4000000 in
set_option maxRecDepth 100000 in
theorem Done_nil (w : World) : Calls Tryd.prog 27 #[.pointer none] w fun e w' => e = .returned (.tuple #[.string (bs []), .int .i64 1]) ∧ w = w' := by
  go_enter Tryd.func27, Tryd.ntmps27
  go_wp2
  go_ret2
  exact ⟨rfl, rfl⟩
end Go.Proofs.YtamjnekdfhocdaaDoor
