/- The document's command of some bytes. No condition. -/
import Derived.Test.YtamjnekdfhocdaaDoorCmR
namespace Go.Proofs.YtamjnekdfhocdaaDoor
open Go.ChangeShapes Go.WideShapes Go.Deep Go.RowKit
set_option linter.unusedVariables false
set_option linter.unusedSimpArgs false
theorem zero26 : (Tryd.prog.info? 26).map (fun i => i.zero) = some (some (.agg (cuV 0 0 0))) := by kernel_rfl
theorem built26 (x : Nat) : Tryd.prog.built 26 [(0, .int .u64 (x : Int))] = some (cuV x 0 0) := by kernel_rfl
theorem built92 (S : List UInt8) : Tryd.prog.built 92 [(0, .string (bs S))] = some #[.string (bs S), .bool false] := by kernel_rfl
theorem cuV_one (x y z : Nat) : (cuV x y z).all (·.oneCell') = true := by kernel_rfl
theorem spl3 (x y z a b c : Nat) : spl (cuV x y z) 0 (cuV a b c).toList = cuV a b c := by kernel_rfl
theorem cu1 (x y z n : Nat) : (cuV x y z).setIfInBounds 1 (.int .u64 (n : Int)) = cuV x n z := by kernel_rfl
theorem cu2 (x y z n : Nat) : (cuV x y z).setIfInBounds 2 (.int .u64 (n : Int)) = cuV x y n := by kernel_rfl
theorem But.fresh {E B : Nat} {w w' w'' : World} (h : But E w w') (k : But B w' w'') (hB : w.heap.size ≤ B) : But E w w'' :=
  ⟨k.os.trans h.os, k.tape.trans h.tape, k.output.trans h.output, Nat.le_trans h.size k.size, fun i hi hn => (k.block i (Nat.lt_of_lt_of_le hi h.size) (by omega)).trans (h.block i hi hn)⟩
/-- What is left of an eye behind three numbers. -/
noncomputable def n3E (s : Ey) : Ey := nuE (nuE (nuE s))
noncomputable def n3V (s : Ey) : Array Value := cuV (nuV s.left) (nuV (nuE s).left) (nuV (nuE (nuE s)).left)
set_option maxHeartbeats 16000000 in
set_option maxRecDepth 100000 in
theorem getCurve_any {w : World} {E : Nat} {s : Ey} (h : Rye w E s) (hl : s.left.length < 100000) : Calls Tryd.prog 42 #[ptr E] w fun e w' => e = .returned (.agg (n3V s)) ∧ Rye w' E (n3E s) ∧ But E w w' := by
  unfold n3V n3E
  obtain ⟨s1, hs1⟩ : ∃ x, nuE s = x := ⟨_, rfl⟩
  rw [hs1]
  obtain ⟨s2, hs2⟩ : ∃ x, nuE s1 = x := ⟨_, rfl⟩
  rw [hs2]
  obtain ⟨s3, hs3⟩ : ∃ x, nuE s2 = x := ⟨_, rfl⟩
  rw [hs3]
  have l1 : s1.left.length < 100000 := by rw [← hs1]; exact Nat.lt_of_le_of_lt (nuE_len s) hl
  have l2 : s2.left.length < 100000 := by rw [← hs2]; exact Nat.lt_of_le_of_lt (nuE_len s1) l1
  replace hs1 := Lib.hid hs1
  replace hs2 := Lib.hid hs2
  replace hs3 := Lib.hid hs3
  obtain ⟨n0, hn0⟩ : ∃ n, nuV s.left = n := ⟨_, rfl⟩
  obtain ⟨n1, hn1⟩ : ∃ n, nuV s1.left = n := ⟨_, rfl⟩
  obtain ⟨n2, hn2⟩ : ∃ n, nuV s2.left = n := ⟨_, rfl⟩
  rw [hn0, hn1, hn2]
  have hE := h.lt
  go_enter Tryd.func42, Tryd.ntmps42
  go_upto_region 1 with (refine wl_alloc 26 rfl rfl zero26 ?_; intro w1 R1 T1; have E1 : Rye w1 E s := Box.below h T1; have K1 := REye_num E1 (by omega); rw [hs1.out, hn0] at K1)
  go_upto_region 2 with (first
    | (go_at_call 39; (with_reducible refine K1.mono ?_); rintro e w2 ⟨rfl, E2, B2⟩; have R2 := B2.box R1 (Ne.symm (Nat.ne_of_lt hE)))
    | (refine wl_build 26 rfl rfl (built26 n0) ?_)
    | (refine wl_alloc 26 rfl rfl zero26 ?_; intro w3 Z3 T3; have R3 := R2.below T3; have E3 : Rye w3 E s1 := Box.below E2 T3)
    | (refine wl_store 26 Z3 rfl rfl rfl rfl size26 rfl (by omega : 0 + 3 ≤ 3) (cuV_one _ _ _) (spl3 _ _ _ _ _ _) ?_; intro w4 Z4 B4; have R4 := B4.box R3 (Nat.ne_of_lt R2.lt); have E4 : Rye w4 E s1 := B4.box E3 (Nat.ne_of_lt E2.lt); have K4 := REye_num E4 (by omega); rw [hs2.out, hn1] at K4))
  have d1 : w.heap.size < w2.heap.size := R2.lt
  have d2 : E < w2.heap.size := E2.lt
  have T4 : But E w w4 := (((But.of T1).trans B2).trans (But.of T3)).fresh B4 (Nat.le_of_lt d1)
  clear B2 T3 B4 R1 E1 K1 R2 E2 R3 Z3 E3 T1
  go_upto_region 3 with (first
    | (go_at_call 39; (with_reducible refine K4.mono ?_); rintro e w5 ⟨rfl, E5, B5⟩; have R5 := B5.box R4 (Ne.symm (Nat.ne_of_lt hE)); have Z5 := B5.box Z4 (Ne.symm (Nat.ne_of_lt d2)))
    | (refine wl_put 22 Z5 rfl rfl rfl rfl rfl rfl size22 (by decide : 1 < 3) (cu1 _ _ _ _) ?_; intro w6 Z6 B6; have R6 := B6.box R5 (Nat.ne_of_lt d1); have E6 : Rye w6 E s2 := B6.box E5 (Nat.ne_of_lt d2); have K6 := REye_num E6 (by omega); rw [hs3.out, hn2] at K6))
  have T6 : But E w w6 := (T4.trans B5).fresh B6 (Nat.le_of_lt d1)
  clear B5 B6 Z4 E4 K4 R4 R5 Z5 E5 T4
  go_upto_region 4 with (first
    | (go_at_call 39; (with_reducible refine K6.mono ?_); rintro e w7 ⟨rfl, E7, B7⟩; have R7 := B7.box R6 (Ne.symm (Nat.ne_of_lt hE)); have Z7 := B7.box Z6 (Ne.symm (Nat.ne_of_lt d2)))
    | (refine wl_put 22 Z7 rfl rfl rfl rfl rfl rfl size22 (by decide : 2 < 3) (cu2 _ _ _ _) ?_; intro w8 Z8 B8; have R8 := B8.box R7 (Nat.ne_of_lt d1); have E8 : Rye w8 E s3 := B8.box E7 (Nat.ne_of_lt d2)))
  have T8 : But E w w8 := (T6.trans B7).fresh B8 (Nat.le_of_lt d1)
  clear B7 B8 Z6 E6 K6 R6 R7 Z7 E7 T6
  go_wp2_with (first
    | (refine wl_load 26 Z8 rfl rfl rfl Tryd.underlying26 rfl size26 (by omega : 0 + 3 ≤ 3) (cuV_all _ _ _) ?_)
    | (refine wl_store 26 R8 rfl rfl rfl rfl size26 rfl (by omega : 0 + 3 ≤ 3) (cuV_one _ _ _) (spl3 _ _ _ _ _ _) ?_; intro w9 R9 B9))
  refine bodyPost_ret (v := .agg (cuV n0 n1 n2)) ?_ rfl ⟨rfl, B9.box E8 (Nat.ne_of_lt hE), T8.fresh B9 (Nat.le_refl _)⟩
  exact results_cell_row rfl _ _ _ _ _ _ _ rfl R9 Tryd.underlying26 rfl size26
end Go.Proofs.YtamjnekdfhocdaaDoor
