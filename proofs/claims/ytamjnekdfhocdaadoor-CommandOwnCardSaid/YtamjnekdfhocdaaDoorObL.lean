/- The document's numbers, and its eye. Condition: less than 2^59 bytes. -/
import Derived.Test.YtamjnekdfhocdaaDoorObC
import Derived.Laws.Concat
namespace Go.Proofs.YtamjnekdfhocdaaDoor
open Go.RowKit
set_option linter.unusedVariables false
theorem row_one (w : World) (b : Int) (t : TypeId) : (w.alloc (.cells #[.int .u8 b] t)).cell? ⟨w.heap.size, 0, none⟩ = some (.int .u8 b) := (Box.new w t _).cell 0
/-- A slice of one byte as a string. -/
theorem conv_one (w : World) (b : UInt8) : (convert 61 9 (.slice (some ⟨w.heap.size, 0, none⟩) 1 1)).run Tryd.prog (w.alloc (.cells #[.int .u8 (b.toNat : Int)] 5)) = .ok (.string (bs [b])) (w.alloc (.cells #[.int .u8 (b.toNat : Int)] 5)) := by
  have h := run_convert_bytes_arg (P := Tryd.prog) (w.alloc (.cells #[.int .u8 (b.toNat : Int)] 5)) 61 5 Tryd.underlying61 Tryd.underlying5 w.heap.size 0 1 1 [(b.toNat : Int)] rfl (fun i hi => by
    obtain rfl : i = 0 := by omega
    exact row_one w _ 5) 9 Tryd.underlying9
  have e := strOf_bs [b]
  simp only [List.map_cons, List.map_nil] at e
  rw [e] at h
  exact h
theorem conv_in (w : World) (B : Nat) (b : UInt8) (hb : w.cell? ⟨B, 0, none⟩ = some (.int .u8 (b.toNat : Int))) : (convert 61 9 (.slice (some ⟨B, 0, none⟩) 1 1)).run Tryd.prog w = .ok (.string (bs [b])) w := by
  have h := run_convert_bytes_arg (P := Tryd.prog) w 61 5 Tryd.underlying61 Tryd.underlying5 B 0 1 1 [(b.toNat : Int)] rfl (fun i hi => by
    obtain rfl : i = 0 := by omega
    exact hb) 9 Tryd.underlying9
  have e := strOf_bs [b]
  simp only [List.map_cons, List.map_nil] at e
  rw [e] at h
  exact h
set_option maxHeartbeats 16000000 in
set_option maxRecDepth 100000 in
theorem RNum_lo (n : Nat) (hn : n < 128) (w : World) : Calls Tryd.prog 28 #[.int .u64 (n : Int)] w fun e w' => e = .returned (.string (bs (numL n))) ∧ Below w.heap.size w w' := by
  rw [numL_lt hn]
  have j0 : (n : Int) < 128 := by omega
  have hc := conv_one w (UInt8.ofNat n)
  rw [toNat_lo hn] at hc
  have T := up1 w (.cells #[.int .u8 (n : Int)] 5)
  go_enter Tryd.func28, Tryd.ntmps28
  go_wp2
  go_ret
  exact ⟨rfl, T⟩
set_option maxHeartbeats 16000000 in
set_option maxRecDepth 100000 in
theorem RNum_hi (n : Nat) (hn : 128 ≤ n) (h64 : n < 18446744073709551616) (w : World)
    (ih : ∀ w, Calls Tryd.prog 28 #[.int .u64 ((n / 128 : Nat) : Int)] w fun e w' => e = .returned (.string (bs (numL (n / 128)))) ∧ Below w.heap.size w w') :
    Calls Tryd.prog 28 #[.int .u64 (n : Int)] w fun e w' => e = .returned (.string (bs (numL n))) ∧ Below w.heap.size w w' := by
  rw [numL_ge hn]
  have j0 : ¬ (n : Int) < 128 := by omega
  have hl := numL_le10 (n := n / 128) (by omega)
  have hadd : ∀ W, (Op.stringOp .add (bs [UInt8.ofNat (128 + n % 128)]) (bs (numL (n / 128)))).run Tryd.prog W = .ok (.string (bs (UInt8.ofNat (128 + n % 128) :: numL (n / 128)))) W := fun W => by
    have h := run_string_add_sum (P := Tryd.prog) (w := W) (bs [UInt8.ofNat (128 + n % 128)]) (bs (numL (n / 128))) (by rw [bs_size, bs_size]; simp only [List.length_cons, List.length_nil]; omega)
    rw [bs_append] at h
    exact h
  have hq : ((n / 128 : Nat) : Int) = (n : Int) / 128 := by omega
  rw [hq] at ih
  generalize numL (n / 128) = X at *
  go_enter Tryd.func28, Tryd.ntmps28
  obtain ⟨c, hc⟩ : ∃ c, UInt8.ofNat (128 + n % 128) = c := ⟨_, rfl⟩
  have hct : ((c.toNat : Nat) : Int) = 128 + (n : Int) % 128 := by rw [← hc, toNat_hi]; omega
  rw [hc] at hadd ⊢
  obtain ⟨r, hr⟩ : ∃ r, (n : Int) % 128 = r := ⟨_, rfl⟩
  have hm : (n : Int).tmod 128 = r := by rw [Int.tmod_eq_emod_of_nonneg (by omega), hr]
  have h1 : IntKind.u8.wrap r = r := by rw [IntKind.wrap_u8]; omega
  have h2 : IntKind.u8.wrap (128 + r) = 128 + r := by rw [IntKind.wrap_u8]; omega
  have h3 : IntKind.u64.wrap ((n : Int) / 128) = (n : Int) / 128 := by rw [IntKind.wrap_u64]; omega
  rw [hr] at hct
  clear hr
  obtain ⟨v, hv⟩ : ∃ v, 128 + r = v := ⟨_, rfl⟩
  rw [hv] at h2 hct
  have h2 : IntKind.u8.wrap (128 + r) = v := by rw [hv]; exact h2
  clear hv
  have hconv : ∀ (W : World) (B : Nat), W.cell? ⟨B, 0, none⟩ = some (.int .u8 v) → (convert 61 9 (.slice (some ⟨B, 0, none⟩) 1 1)).run Tryd.prog W = .ok (.string (bs [c])) W := fun W B h => conv_in W B c (by rw [hct]; exact h)
  clear hc hct
  go_upto_region 3 with fail
  go_cut [2] from 9 to 18 (fun s2 wx => s2 = .string (bs (c :: X)) ∧ Below w.heap.size w wx)
  case first =>
    have f0 := hconv (w.drew.alloc (.cells #[.int .u8 v] 5)) w.heap.size (row_one w.drew _ 5)
    have A0 : Below w.heap.size w (w.drew.alloc (.cells #[.int .u8 v] 5)) := (Below.refl w.heap.size w).drew.alloc (Nat.le_refl _) _
    have D0 : Below w.heap.size w w.drew := (Below.refl w.heap.size w).drew
    go_region_with (first
      | (go_at_call 28; (with_reducible refine (ih w.drew).mono ?_); rintro e w1 ⟨rfl, T1⟩; have f1 := hconv _ _ (row_one w1 v 5); have D1 := (ups D0 T1 D0.size).alloc (ups D0 T1 D0.size).size (.cells #[.int .u8 v] 5))
      | (go_at_call 28; (with_reducible refine (ih (w.alloc (.cells #[.int .u8 v] 5)).drew).mono ?_); rintro e w1 ⟨rfl, T1⟩; have D1 := ups A0 T1 A0.size; have f1 := hconv w1 w.heap.size ((T1.cell (p := ⟨w.heap.size, 0, none⟩) (by simp)).trans (row_one w.drew _ 5))))
    all_goals (go_wp2_with fail; go_meet; exact ⟨rfl, D1⟩)
  case rest =>
    obtain ⟨rfl, T⟩ := hcut
    go_wp2
    go_ret
    exact ⟨rfl, T⟩
theorem RNum_any : ∀ (n : Nat), n < 18446744073709551616 → ∀ w, Calls Tryd.prog 28 #[.int .u64 (n : Int)] w fun e w' => e = .returned (.string (bs (numL n))) ∧ Below w.heap.size w w' := by
  intro n
  induction n using Nat.strongRecOn with
  | _ n ih =>
    intro h w
    by_cases hn : n < 128
    · exact RNum_lo n hn w
    · exact RNum_hi n (by omega) h w (ih (n / 128) (by omega) (by omega))
set_option maxHeartbeats 4000000 in
set_option maxRecDepth 100000 in
theorem RInt_any (i : Int) (hi : -9223372036854775808 ≤ i ∧ i < 9223372036854775808) (w : World) : Calls Tryd.prog 29 #[.int .i64 i] w fun e w' => e = .returned (.string (bs (numL (zg i)))) ∧ Below w.heap.size w w' := by
  have hK := RNum_any (zg i) (zg_lt hi) w
  by_cases h0 : 0 ≤ i
  · have e0 : ((zg i : Nat) : Int) = 2 * i := by unfold zg; rw [if_pos h0]; omega
    rw [e0] at hK
    go_enter Tryd.func29, Tryd.ntmps29
    go_wp2_with (go_at_call 28; (with_reducible refine hK.mono ?_); rintro e w1 ⟨rfl, T⟩)
    go_ret
    exact ⟨rfl, T⟩
  · have e0 : ((zg i : Nat) : Int) = 2 * -(i + 1) + 1 := by unfold zg; rw [if_neg h0]; omega
    rw [e0] at hK
    go_enter Tryd.func29, Tryd.ntmps29
    go_wp2_with (go_at_call 28; (with_reducible refine hK.mono ?_); rintro e w1 ⟨rfl, T⟩)
    go_ret
    exact ⟨rfl, T⟩
set_option maxHeartbeats 4000000 in
set_option maxRecDepth 100000 in
theorem RFlag_any (b : Bool) (w : World) : Calls Tryd.prog 30 #[.bool b] w fun e w' => e = .returned (.string (bs [if b then 1 else 0])) ∧ Below w.heap.size w w' := by
  cases b
  · go_enter Tryd.func30, Tryd.ntmps30
    go_wp2
    go_ret
    exact ⟨rfl, Below.refl _ _⟩
  · go_enter Tryd.func30, Tryd.ntmps30
    go_wp2
    go_ret
    exact ⟨rfl, Below.refl _ _⟩
end Go.Proofs.YtamjnekdfhocdaaDoor
