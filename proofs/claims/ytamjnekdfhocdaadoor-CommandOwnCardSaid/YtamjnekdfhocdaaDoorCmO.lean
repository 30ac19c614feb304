/- The document's curves, as bytes. No condition. -/
import Derived.Test.YtamjnekdfhocdaaDoorCmN
import Derived.Test.YtamjnekdfhocdaaDoorCmH
namespace Go.Proofs.YtamjnekdfhocdaaDoor
open Go.ChangeShapes Go.WideShapes Go.Deep Go.RowKit
set_option linter.unusedVariables false
set_option linter.unusedSimpArgs false
def cuV (x y z : Nat) : Array Value := #[.int .u64 (x : Int), .int .u64 (y : Int), .int .u64 (z : Int)]
theorem cuV_all (x y z : Nat) : (cuV x y z).extract 0 (0 + 3) = cuV x y z := by kernel_rfl
set_option maxHeartbeats 16000000 in
set_option maxRecDepth 100000 in
theorem rcurve_any {x y z : Nat} (hx : x < 18446744073709551616) (hy : y < 18446744073709551616) (hz : z < 18446744073709551616) (w : World) : Calls Tryd.prog 50 #[.agg (cuV x y z)] w fun e w' => e = .returned (.string (bs (encL [.u x, .u y, .u z]))) ∧ Below w.heap.size w w' := by
  have l0 := numL_le10 hx
  have l1 := numL_le10 hy
  have l2 := numL_le10 hz
  have hv : encL [.u x, .u y, .u z] = numL x ++ numL y ++ numL z := by simp [encL, encF]
  rw [hv]
  have hl : (numL x ++ numL y).length ≤ 20 := by rw [List.length_append]; omega
  go_enter Tryd.func50, Tryd.ntmps50
  go_upto_region 1 with (refine wl_box 26 rfl rfl rfl ?_; intro w1 X1 T1)
  refine wp_region_held_drew (S := fun W => Box W w.heap.size (cuV x y z) 26) (by kernel_rfl) X1.drew (fun hHeld => ?_)
  replace X1 := X1.drew
  replace T1 := T1.drew
  generalize w1.drew = w2 at *
  refine wpAnyH_take (i := 0) (v := ?_) (by simp only [List.getElem?_toArray, List.getElem?_cons_zero]; rfl) (by kernel_rfl) (by kernel_rfl) (by kernel_rfl) (by exact fun _ _ _ h => h) (Or.inl ⟨by rfl, ?_⟩) (by assumption) ?_
  rotate_left
  · (intro w hSw; (try dsimp only at hSw); go_simp; (try with_reducible rfl))
  try simp only [Act.put, List.setIfInBounds_toArray, List.set_cons_zero, List.set_cons_succ]
  refine wpAnyH_take (i := 1) (v := .int .u64 (x : Int)) (by simp only [List.getElem?_toArray, List.getElem?_cons_zero, List.getElem?_cons_succ]; rfl) (by kernel_rfl) (by kernel_rfl) (by kernel_rfl) (by exact fun _ _ _ h => h) (Or.inl ⟨by rfl, fun w hSw => xl_cell 22 hSw rfl rfl Tryd.underlying22 rfl rfl⟩) (by assumption) ?_
  try simp only [Act.put, List.setIfInBounds_toArray, List.set_cons_zero, List.set_cons_succ]
  refine wpAnyH_take (i := 3) (v := ?_) (by simp only [List.getElem?_toArray, List.getElem?_cons_zero, List.getElem?_cons_succ]; rfl) (by kernel_rfl) (by kernel_rfl) (by kernel_rfl) (by exact fun _ _ _ h => h) (Or.inl ⟨by rfl, ?_⟩) (by assumption) ?_
  rotate_left
  · (intro w hSw; (try dsimp only at hSw); go_simp; (try with_reducible rfl))
  try simp only [Act.put, List.setIfInBounds_toArray, List.set_cons_zero, List.set_cons_succ]
  refine wpAnyH_take (i := 4) (v := .int .u64 (y : Int)) (by simp only [List.getElem?_toArray, List.getElem?_cons_zero, List.getElem?_cons_succ]; rfl) (by kernel_rfl) (by kernel_rfl) (by kernel_rfl) (by exact fun _ _ _ h => h) (Or.inl ⟨by rfl, fun w hSw => xl_cell 22 hSw rfl rfl Tryd.underlying22 rfl rfl⟩) (by assumption) ?_
  try simp only [Act.put, List.setIfInBounds_toArray, List.set_cons_zero, List.set_cons_succ]
  refine wpAnyH_take (i := 7) (v := ?_) (by simp only [List.getElem?_toArray, List.getElem?_cons_zero, List.getElem?_cons_succ]; rfl) (by kernel_rfl) (by kernel_rfl) (by kernel_rfl) (by exact fun _ _ _ h => h) (Or.inl ⟨by rfl, ?_⟩) (by assumption) ?_
  rotate_left
  · (intro w hSw; (try dsimp only at hSw); go_simp; (try with_reducible rfl))
  try simp only [Act.put, List.setIfInBounds_toArray, List.set_cons_zero, List.set_cons_succ]
  refine wpAnyH_take (i := 8) (v := .int .u64 (z : Int)) (by simp only [List.getElem?_toArray, List.getElem?_cons_zero, List.getElem?_cons_succ]; rfl) (by kernel_rfl) (by kernel_rfl) (by kernel_rfl) (by exact fun _ _ _ h => h) (Or.inl ⟨by rfl, fun w hSw => xl_cell 22 hSw rfl rfl Tryd.underlying22 rfl rfl⟩) (by assumption) ?_
  try simp only [Act.put, List.setIfInBounds_toArray, List.set_cons_zero, List.set_cons_succ]
  refine wpAnyH_ready (rs := [2]) (by kernel_rfl) (by simp) ?_
  refine AllReadyH.cons (by simp only [List.getElem?_toArray, List.getElem?_cons_zero, List.getElem?_cons_succ]; rfl) (fun K hK => ?_) AllReadyH.nil
  go_simp
  go_at_call 28
  (with_reducible refine (RNum_any x hx _).mono ?_)
  rintro e w3 ⟨rfl, T2⟩
  replace X1 := X1.below T2
  replace T1 := ups T1 T2 T1.size
  clear T2
  refine hK.out _ _ X1 (fun hHeld => ?_)
  clear hK K
  try simp only [Act.put, List.setIfInBounds_toArray, List.set_cons_zero, List.set_cons_succ]
  refine wpAnyH_ready (rs := [5]) (by kernel_rfl) (by simp) ?_
  refine AllReadyH.cons (by simp only [List.getElem?_toArray, List.getElem?_cons_zero, List.getElem?_cons_succ]; rfl) (fun K hK => ?_) AllReadyH.nil
  go_simp
  go_at_call 28
  (with_reducible refine (RNum_any y hy _).mono ?_)
  rintro e w4 ⟨rfl, T2⟩
  replace X1 := X1.below T2
  replace T1 := ups T1 T2 T1.size
  clear T2
  refine hK.out _ _ X1 (fun hHeld => ?_)
  clear hK K
  try simp only [Act.put, List.setIfInBounds_toArray, List.set_cons_zero, List.set_cons_succ]
  refine wpAnyH_take (i := 6) (v := .string (bs (numL x ++ numL y))) (by simp only [List.getElem?_toArray, List.getElem?_cons_zero, List.getElem?_cons_succ]; rfl) (by kernel_rfl) (by kernel_rfl) (by kernel_rfl) (by exact fun _ _ _ h => h) (Or.inl ⟨by rfl, fun w hSw => xl_add (by omega) rfl rfl rfl⟩) (by assumption) ?_
  try simp only [Act.put, List.setIfInBounds_toArray, List.set_cons_zero, List.set_cons_succ]
  refine wpAnyH_ready (rs := [9]) (by kernel_rfl) (by simp) ?_
  refine AllReadyH.cons (by simp only [List.getElem?_toArray, List.getElem?_cons_zero, List.getElem?_cons_succ]; rfl) (fun K hK => ?_) AllReadyH.nil
  go_simp
  go_at_call 28
  (with_reducible refine (RNum_any z hz _).mono ?_)
  rintro e w5 ⟨rfl, T2⟩
  replace X1 := X1.below T2
  replace T1 := ups T1 T2 T1.size
  clear T2
  refine hK.out _ _ X1 (fun hHeld => ?_)
  clear hK K
  try simp only [Act.put, List.setIfInBounds_toArray, List.set_cons_zero, List.set_cons_succ]
  refine wpAnyH_take (i := 10) (v := .string (bs ((numL x ++ numL y) ++ numL z))) (by simp only [List.getElem?_toArray, List.getElem?_cons_zero, List.getElem?_cons_succ]; rfl) (by kernel_rfl) (by kernel_rfl) (by kernel_rfl) (by exact fun _ _ _ h => h) (Or.inl ⟨by rfl, fun w hSw => xl_add (by omega) rfl rfl rfl⟩) (by assumption) ?_
  try simp only [Act.put, List.setIfInBounds_toArray, List.set_cons_zero, List.set_cons_succ]
  refine wpAnyH_take (i := 11) (v := ?_) (by simp only [List.getElem?_toArray, List.getElem?_cons_zero, List.getElem?_cons_succ]; rfl) (by kernel_rfl) (by kernel_rfl) (by kernel_rfl) (by exact fun _ _ _ h => h) (Or.inl ⟨by rfl, ?_⟩) (by assumption) ?_
  rotate_left
  · (intro w hSw; (try dsimp only at hSw); go_simp; (try with_reducible rfl))
  try simp only [Act.put, List.setIfInBounds_toArray, List.set_cons_zero, List.set_cons_succ]
  refine wpAnyH_done (by kernel_rfl) ?_ _
  go_wp2
  go_ret
  exact ⟨by simp, T1⟩
set_option maxHeartbeats 16000000 in
set_option maxRecDepth 100000 in
theorem rcurves_any {C : Cm} (ho : C.ok) (w : World) : Calls Tryd.prog 31 #[.agg (sdV C)] w fun e w' => e = .returned (.string (bs (encL [.u C.r0, .u C.r1, .u C.r2, .u C.s0, .u C.s1, .u C.s2, .u C.u0, .u C.u1, .u C.u2]))) ∧ Below w.heap.size w w' := by
  have h := ho.2
  simp only [List.forall_mem_cons, List.not_mem_nil, false_implies, implies_true, and_true] at h
  obtain ⟨a1, a2, a3, a4, a5, a7, a8, a9, a10, a11, a12, a13, a14, a15, a16, a17, a18, a19, a20, a21, a22, a23⟩ := h
  have k0 := rcurve_any a7 a8 a9
  have k1 := rcurve_any a10 a11 a12
  have k2 := rcurve_any a13 a14 a15
  rw [show cuV C.r0 C.r1 C.r2 = c0V C from rfl] at k0
  rw [show cuV C.s0 C.s1 C.s2 = c1V C from rfl] at k1
  rw [show cuV C.u0 C.u1 C.u2 = c2V C from rfl] at k2
  have l0 : (encL [.u C.r0, .u C.r1, .u C.r2]).length ≤ 30 := encL_len _ (by simp only [List.forall_mem_cons, List.not_mem_nil, false_implies, implies_true, and_true]; exact ⟨a7, a8, a9⟩)
  have l1 : (encL [.u C.s0, .u C.s1, .u C.s2]).length ≤ 30 := encL_len _ (by simp only [List.forall_mem_cons, List.not_mem_nil, false_implies, implies_true, and_true]; exact ⟨a10, a11, a12⟩)
  have l2 : (encL [.u C.u0, .u C.u1, .u C.u2]).length ≤ 30 := encL_len _ (by simp only [List.forall_mem_cons, List.not_mem_nil, false_implies, implies_true, and_true]; exact ⟨a13, a14, a15⟩)
  have hv : encL [.u C.r0, .u C.r1, .u C.r2, .u C.s0, .u C.s1, .u C.s2, .u C.u0, .u C.u1, .u C.u2] = encL [.u C.r0, .u C.r1, .u C.r2] ++ encL [.u C.s0, .u C.s1, .u C.s2] ++ encL [.u C.u0, .u C.u1, .u C.u2] := by simp [encL]
  rw [hv]
  generalize encL [.u C.r0, .u C.r1, .u C.r2] = A0 at *
  generalize encL [.u C.s0, .u C.s1, .u C.s2] = A1 at *
  generalize encL [.u C.u0, .u C.u1, .u C.u2] = A2 at *
  have hl : (A0 ++ A1).length ≤ 60 := by rw [List.length_append]; omega
  clear hv a1 a2 a3 a4 a5 a7 a8 a9 a10 a11 a12 a13 a14 a15 a16 a17 a18 a19 a20 a21 a22 a23
  go_enter Tryd.func31, Tryd.ntmps31
  go_upto_region 1 with (refine wl_box 28 rfl rfl rfl ?_; intro w1 X1 T1)
  refine wp_region_held_drew (S := fun W => Box W w.heap.size (sdV C) 28) (by kernel_rfl) X1.drew (fun hHeld => ?_)
  replace X1 := X1.drew
  replace T1 := T1.drew
  generalize w1.drew = w2 at *
  refine wpAnyH_take (i := 0) (v := ?_) (by simp only [List.getElem?_toArray, List.getElem?_cons_zero]; rfl) (by kernel_rfl) (by kernel_rfl) (by kernel_rfl) (by exact fun _ _ _ h => h) (Or.inl ⟨by rfl, ?_⟩) (by assumption) ?_
  rotate_left
  · (intro w hSw; (try dsimp only at hSw); go_simp; (try with_reducible rfl))
  try simp only [Act.put, List.setIfInBounds_toArray, List.set_cons_zero, List.set_cons_succ]
  refine wpAnyH_take (i := 1) (v := .agg (c0V C)) (by simp only [List.getElem?_toArray, List.getElem?_cons_zero, List.getElem?_cons_succ]; rfl) (by kernel_rfl) (by kernel_rfl) (by kernel_rfl) (by exact fun _ _ _ h => h) (Or.inl ⟨by rfl, fun w hSw => xl_load 26 hSw rfl rfl Tryd.underlying26 rfl size26 (by omega : 3 + 3 ≤ 14) (sdV_c0 C)⟩) (by assumption) ?_
  try simp only [Act.put, List.setIfInBounds_toArray, List.set_cons_zero, List.set_cons_succ]
  refine wpAnyH_take (i := 3) (v := ?_) (by simp only [List.getElem?_toArray, List.getElem?_cons_zero, List.getElem?_cons_succ]; rfl) (by kernel_rfl) (by kernel_rfl) (by kernel_rfl) (by exact fun _ _ _ h => h) (Or.inl ⟨by rfl, ?_⟩) (by assumption) ?_
  rotate_left
  · (intro w hSw; (try dsimp only at hSw); go_simp; (try with_reducible rfl))
  try simp only [Act.put, List.setIfInBounds_toArray, List.set_cons_zero, List.set_cons_succ]
  refine wpAnyH_take (i := 4) (v := .agg (c1V C)) (by simp only [List.getElem?_toArray, List.getElem?_cons_zero, List.getElem?_cons_succ]; rfl) (by kernel_rfl) (by kernel_rfl) (by kernel_rfl) (by exact fun _ _ _ h => h) (Or.inl ⟨by rfl, fun w hSw => xl_load 26 hSw rfl rfl Tryd.underlying26 rfl size26 (by omega : 6 + 3 ≤ 14) (sdV_c1 C)⟩) (by assumption) ?_
  try simp only [Act.put, List.setIfInBounds_toArray, List.set_cons_zero, List.set_cons_succ]
  refine wpAnyH_take (i := 7) (v := ?_) (by simp only [List.getElem?_toArray, List.getElem?_cons_zero, List.getElem?_cons_succ]; rfl) (by kernel_rfl) (by kernel_rfl) (by kernel_rfl) (by exact fun _ _ _ h => h) (Or.inl ⟨by rfl, ?_⟩) (by assumption) ?_
  rotate_left
  · (intro w hSw; (try dsimp only at hSw); go_simp; (try with_reducible rfl))
  try simp only [Act.put, List.setIfInBounds_toArray, List.set_cons_zero, List.set_cons_succ]
  refine wpAnyH_take (i := 8) (v := .agg (c2V C)) (by simp only [List.getElem?_toArray, List.getElem?_cons_zero, List.getElem?_cons_succ]; rfl) (by kernel_rfl) (by kernel_rfl) (by kernel_rfl) (by exact fun _ _ _ h => h) (Or.inl ⟨by rfl, fun w hSw => xl_load 26 hSw rfl rfl Tryd.underlying26 rfl size26 (by omega : 9 + 3 ≤ 14) (sdV_c2 C)⟩) (by assumption) ?_
  try simp only [Act.put, List.setIfInBounds_toArray, List.set_cons_zero, List.set_cons_succ]
  refine wpAnyH_ready (rs := [2]) (by kernel_rfl) (by simp) ?_
  refine AllReadyH.cons (by simp only [List.getElem?_toArray, List.getElem?_cons_zero, List.getElem?_cons_succ]; rfl) (fun K hK => ?_) AllReadyH.nil
  go_simp
  go_at_call 50
  (with_reducible refine (k0 _).mono ?_)
  rintro e w3 ⟨rfl, T2⟩
  replace X1 := X1.below T2
  replace T1 := ups T1 T2 T1.size
  clear T2
  refine hK.out _ _ X1 (fun hHeld => ?_)
  clear hK K
  try simp only [Act.put, List.setIfInBounds_toArray, List.set_cons_zero, List.set_cons_succ]
  refine wpAnyH_ready (rs := [5]) (by kernel_rfl) (by simp) ?_
  refine AllReadyH.cons (by simp only [List.getElem?_toArray, List.getElem?_cons_zero, List.getElem?_cons_succ]; rfl) (fun K hK => ?_) AllReadyH.nil
  go_simp
  go_at_call 50
  (with_reducible refine (k1 _).mono ?_)
  rintro e w4 ⟨rfl, T2⟩
  replace X1 := X1.below T2
  replace T1 := ups T1 T2 T1.size
  clear T2
  refine hK.out _ _ X1 (fun hHeld => ?_)
  clear hK K
  try simp only [Act.put, List.setIfInBounds_toArray, List.set_cons_zero, List.set_cons_succ]
  refine wpAnyH_take (i := 6) (v := .string (bs (A0 ++ A1))) (by simp only [List.getElem?_toArray, List.getElem?_cons_zero, List.getElem?_cons_succ]; rfl) (by kernel_rfl) (by kernel_rfl) (by kernel_rfl) (by exact fun _ _ _ h => h) (Or.inl ⟨by rfl, fun w hSw => xl_add (by omega) rfl rfl rfl⟩) (by assumption) ?_
  try simp only [Act.put, List.setIfInBounds_toArray, List.set_cons_zero, List.set_cons_succ]
  refine wpAnyH_ready (rs := [9]) (by kernel_rfl) (by simp) ?_
  refine AllReadyH.cons (by simp only [List.getElem?_toArray, List.getElem?_cons_zero, List.getElem?_cons_succ]; rfl) (fun K hK => ?_) AllReadyH.nil
  go_simp
  go_at_call 50
  (with_reducible refine (k2 _).mono ?_)
  rintro e w5 ⟨rfl, T2⟩
  replace X1 := X1.below T2
  replace T1 := ups T1 T2 T1.size
  clear T2
  refine hK.out _ _ X1 (fun hHeld => ?_)
  clear hK K
  try simp only [Act.put, List.setIfInBounds_toArray, List.set_cons_zero, List.set_cons_succ]
  refine wpAnyH_take (i := 10) (v := .string (bs ((A0 ++ A1) ++ A2))) (by simp only [List.getElem?_toArray, List.getElem?_cons_zero, List.getElem?_cons_succ]; rfl) (by kernel_rfl) (by kernel_rfl) (by kernel_rfl) (by exact fun _ _ _ h => h) (Or.inl ⟨by rfl, fun w hSw => xl_add (by omega) rfl rfl rfl⟩) (by assumption) ?_
  try simp only [Act.put, List.setIfInBounds_toArray, List.set_cons_zero, List.set_cons_succ]
  refine wpAnyH_take (i := 11) (v := ?_) (by simp only [List.getElem?_toArray, List.getElem?_cons_zero, List.getElem?_cons_succ]; rfl) (by kernel_rfl) (by kernel_rfl) (by kernel_rfl) (by exact fun _ _ _ h => h) (Or.inl ⟨by rfl, ?_⟩) (by assumption) ?_
  rotate_left
  · (intro w hSw; (try dsimp only at hSw); go_simp; (try with_reducible rfl))
  try simp only [Act.put, List.setIfInBounds_toArray, List.set_cons_zero, List.set_cons_succ]
  refine wpAnyH_done (by kernel_rfl) ?_ _
  go_wp2
  go_ret
  exact ⟨by simp, T1⟩
/-- The numbers of a reply. -/
def nuL (r : Rp) : List Nat := [r.t0, r.t1, r.t2, r.t3, r.t4, r.t5, r.t6, r.t7]
def stV (r : Rp) : Array Value := #[.int .u64 (r.t0 : Int), .int .u64 (r.t1 : Int), .int .u64 (r.t2 : Int), .int .u64 (r.t3 : Int), .int .u64 (r.t4 : Int), .int .u64 (r.t5 : Int), .int .u64 (r.t6 : Int), .int .u64 (r.t7 : Int)]
theorem rpV_st (r : Rp) : (rpV r).extract 2 (2 + 8) = stV r := by kernel_rfl
theorem size35 : (Tryd.prog.info? 35).map (·.size) = some 8 := by kernel_rfl
theorem stV_at (r : Rp) (j : Nat) (hj : j < 8) : ∃ n, (nuL r)[j]? = some n ∧ (stV r)[j]? = some (.int .u64 (n : Int)) := by
  rcases (by omega : j = 0 ∨ j = 1 ∨ j = 2 ∨ j = 3 ∨ j = 4 ∨ j = 5 ∨ j = 6 ∨ j = 7) with rfl | rfl | rfl | rfl | rfl | rfl | rfl | rfl <;> exact ⟨_, rfl, rfl⟩
set_option maxHeartbeats 16000000 in
set_option maxRecDepth 100000 in
theorem rnumbers_any (r : Rp) (w : World) : Calls Tryd.prog 32 #[.agg (stV r)] w fun e w' => ∃ g, e = .returned (.slice (some ⟨g, 0, none⟩) 8 8) ∧ w.heap.size ≤ g ∧ Box w' g (stV r) 22 ∧ Below w.heap.size w w' := by
  have hX : ∀ w1 : World, Box (w1.alloc (.cells (stV r) 22)) w1.heap.size (stV r) 22 := fun w1 => Box.new w1 22 (stV r)
  replace hX := Lib.hid hX
  go_enter Tryd.func32, Tryd.ntmps32
  go_upto_region 1 with (refine wl_box 35 rfl rfl rfl ?_; intro w1 X1 T1)
  have c0 : w1.cell? ⟨w.heap.size, 0, none⟩ = some (.int .u64 (r.t0 : Int)) := X1.cell 0
  have c1 : w1.cell? ⟨w.heap.size, 1, none⟩ = some (.int .u64 (r.t1 : Int)) := X1.cell 1
  have c2 : w1.cell? ⟨w.heap.size, 2, none⟩ = some (.int .u64 (r.t2 : Int)) := X1.cell 2
  have c3 : w1.cell? ⟨w.heap.size, 3, none⟩ = some (.int .u64 (r.t3 : Int)) := X1.cell 3
  have c4 : w1.cell? ⟨w.heap.size, 4, none⟩ = some (.int .u64 (r.t4 : Int)) := X1.cell 4
  have c5 : w1.cell? ⟨w.heap.size, 5, none⟩ = some (.int .u64 (r.t5 : Int)) := X1.cell 5
  have c6 : w1.cell? ⟨w.heap.size, 6, none⟩ = some (.int .u64 (r.t6 : Int)) := X1.cell 6
  have c7 : w1.cell? ⟨w.heap.size, 7, none⟩ = some (.int .u64 (r.t7 : Int)) := X1.cell 7
  have T2 := Lib.hid (T1.alloc T1.size (.cells (stV r) 22))
  go_wp2
  go_ret
  exact ⟨_, rfl, T1.size, hX.out w1, T2.out⟩
end Go.Proofs.YtamjnekdfhocdaaDoor
