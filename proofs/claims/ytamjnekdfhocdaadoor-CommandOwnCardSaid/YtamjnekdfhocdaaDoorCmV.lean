/- The document's reply of some bytes. No condition. -/
import Derived.Test.YtamjnekdfhocdaaDoorCmU
import Derived.OwnWalk
import Derived.StillTailTactics
namespace Go.Proofs.YtamjnekdfhocdaaDoor
open Go.ChangeShapes Go.WideShapes Go.Deep Go.RowKit
set_option linter.unusedVariables false
set_option linter.unusedSimpArgs false
theorem infoU : (Tryd.prog.info? 22).map (fun i => (i.zero, i.size, i.bytes)) = some (some (.int .u64 0), 1, 8) := by kernel_rfl
theorem one_news (w : World) (x : Value) (t : TypeId) : ∀ j u, [x][j]? = some u → (w.alloc (.cells #[x] t)).cell? ((⟨w.heap.size, 0, none⟩ : Addr).add j) = some u := by
  intro j u hj
  match j, hj with
  | 0, hj =>
    have e : (w.alloc (.cells #[x] t)).cell? ⟨w.heap.size, 0, none⟩ = (#[x] : Array Value)[0]? := World.cell?_alloc_new _ _ _ _
    have a : (⟨w.heap.size, 0, none⟩ : Addr).add 0 = ⟨w.heap.size, 0, none⟩ := add_plain _ _ _
    rw [a, e]
    simpa using hj
  | j + 1, hj => simp at hj
theorem one_int (x : Int) : ∀ u ∈ [Value.int .u64 x], u.oneCell' = true := by
  intro u hu
  simp only [List.mem_singleton] at hu
  rw [hu]; rfl
theorem own_but {w w' : World} {E base : Nat} {e : TypeId} {size : Nat} {v : Value} {n : Nat} {xs : List Value} (h : w.ownsRow base e size v n xs) (hb : But E w w') (hE : E < base) : w'.ownsRow base e size v n xs :=
  h.kept (row := some E) ⟨hb.os, hb.tape, hb.output, hb.size, fun k hk hne => hb.block k hk (fun q => hne (by rw [q]))⟩ (by
    cases hv : v.ownBlock with
    | none => exact .inl rfl
    | some g =>
      refine .inr (fun q => ?_)
      have := (h.lt g hv).1
      have := Option.some.inj q
      omega)
theorem Box.under {W w : World} {B n : Nat} {t : TypeId} {v : Array Value} (h : Box W B v t) (hb : Below n W w) (hB : B < n) : Box w B v t := (hb.block B hB).trans h
theorem below_under {a b : Nat} {W w w' : World} (h : Below a W w) (k : Below b w w') (hab : a ≤ b) : Below a W w' := h.trans (k.mono hab)
/-- What is left of an eye behind j numbers. -/
noncomputable def itE (s : Ey) : Nat → Ey
  | 0 => s
  | j + 1 => nuE (itE s j)
theorem itE_lt {s : Ey} (h : s.left.length < 100000) : ∀ j, (itE s j).left.length < 100000
  | 0 => h
  | j + 1 => nuE_lt (itE_lt h j)
noncomputable def itV (s : Ey) (j : Nat) : List Value := (List.range j).map fun i => .int .u64 (nuV (itE s i).left : Int)
theorem itV_next (s : Ey) (j : Nat) : itV s (j + 1) = itV s j ++ [.int .u64 (nuV (itE s j).left : Int)] := by
  unfold itV
  rw [List.range_succ, List.map_append]
  rfl
theorem built37 (x : Int) : Tryd.prog.built 37 [(0, .int .i64 x)] = some (rpV ⟨x, 0, 0, 0, 0, 0, 0, 0, 0, 0⟩) := by kernel_rfl
theorem rp1 (x : Int) (n : Nat) : (rpV ⟨x, 0, 0, 0, 0, 0, 0, 0, 0, 0⟩).setIfInBounds 1 (.int .u64 (n : Int)) = rpV ⟨x, n, 0, 0, 0, 0, 0, 0, 0, 0⟩ := by kernel_rfl
theorem rp2 (x : Int) (n a0 a1 a2 a3 a4 a5 a6 a7 : Nat) : spl (rpV ⟨x, n, 0, 0, 0, 0, 0, 0, 0, 0⟩) 2 [.int .u64 (a0 : Int), .int .u64 (a1 : Int), .int .u64 (a2 : Int), .int .u64 (a3 : Int), .int .u64 (a4 : Int), .int .u64 (a5 : Int), .int .u64 (a6 : Int), .int .u64 (a7 : Int)] = rpV ⟨x, n, a0, a1, a2, a3, a4, a5, a6, a7⟩ := by kernel_rfl
set_option maxHeartbeats 16000000 in
set_option maxRecDepth 100000 in
theorem rrdr_n {S : List UInt8} {s0 : Ey} (w : World) (s1 s2 : Ey) (k : Nat) (j0 : ((k : Int) != 0) = true) (hkk : byV S = k) (hs0 : byE ⟨S, false⟩ = s0) (l0s : s0.left.length < 100000) (hs1 : Hid (nuE s0 = s1)) (hs2 : Hid (nuE s1 = s2)) (l1s : s1.left.length < 100000) (l2s : s2.left.length < 100000) :
    Calls Tryd.prog 22 #[.string (bs S)] w fun e w' => e = .returned (.tuple #[.agg (rpV Rp0), .int .i64 140]) ∧ Below w.heap.size w w' := by
  obtain ⟨i0, hi, hz0, hz1, hz2⟩ := info_parts infoU
  go_enter Tryd.func22, Tryd.ntmps22
  go_upto_region 2 with (first
    | (refine wl_alloc 37 rfl rfl zero37 ?_; intro w1 R1 T1)
    | (refine wl_build 92 rfl rfl (built92 S) ?_)
    | (refine wl_box 92 rfl rfl rfl ?_; intro w2 E2 T2; have R2 := R1.below T2; have T2' := ups T1 T2 T1.size; have hB := RByte_any (s := ⟨S, false⟩) E2; rw [show (Ey.mk S false).left = S from rfl, hkk, hs0] at hB))
  go_upto_region 4 with (first
    | (go_at_call 38; (with_reducible refine hB.mono ?_); rintro e w3 ⟨rfl, E3, K3⟩; have T3 := K3.up T2' T1.size; have R3 := K3.box R2 (Nat.ne_of_lt R1.lt); have hI := REye_int E3 (by omega); rw [hs1.out] at hI)
    | (go_at_call 40; (with_reducible refine hI.mono ?_); rintro e w4 ⟨rfl, E4, K4⟩; have T4 := K4.up T3 T1.size; have R4 := K4.box R3 (Nat.ne_of_lt R1.lt))
    | (refine wl_build 37 rfl rfl (built37 _) ?_)
    | (refine wl_alloc 37 rfl rfl zero37 ?_; intro w5 Z5 T5; have R5 := R4.below T5; have E5 : Rye w5 w1.heap.size _ := Box.below E4 T5; have T5' := ups T4 T5 T4.size)
    | (refine wl_store 37 Z5 rfl rfl rfl rfl size37 rfl (by omega : 0 + 10 ≤ 10) (rpV_one _) (spl10 _ _) ?_; intro w6 Z6 K6; have T6 := K6.up T5' T4.size; have R6 := K6.box R5 (Nat.ne_of_lt R4.lt); have E6 : Rye w6 w1.heap.size _ := K6.box E5 (Nat.ne_of_lt (show w1.heap.size < w4.heap.size from E4.lt)); have hU := REye_num E6 (by omega); rw [hs2.out] at hU))
  have hAE := T1.size
  have hAD := T4.size
  have l1 : w.heap.size < w1.heap.size := R1.lt
  have l2 : w1.heap.size < w4.heap.size := E4.lt
  clear R1 T1 E2 T2 R2 T2' hB E3 K3 T3 R3 hI E4 K4 T4 R4 Z5 T5 R5 E5 T5' K6
  go_upto_region 5 with (first
    | (go_at_call 39; (with_reducible refine hU.mono ?_); rintro e w7 ⟨rfl, E7, K7⟩; have T7 := K7.up T6 hAE; have R7 := K7.box R6 (Nat.ne_of_lt l1); have Z7 := K7.box Z6 (Ne.symm (Nat.ne_of_lt l2)))
    | (refine wl_put 22 Z7 rfl rfl rfl rfl rfl rfl size22 (by decide : 1 < 10) (rp1 _ _) ?_; intro w8 Z8 K8; have T8 := K8.up T7 hAD; have R8 := K8.box R7 (by omega); have E8 : Rye w8 w1.heap.size _ := K8.box E7 (Nat.ne_of_lt l2)))
  clear E6 Z6 R6 T6 hU E7 K7 T7 R7 Z7 K8
  have l3 : w4.heap.size < w8.heap.size := Z8.lt
  obtain ⟨A, hA⟩ : ∃ A, w.heap.size = A := ⟨_, rfl⟩
  obtain ⟨EE, hEE⟩ : ∃ A, w1.heap.size = A := ⟨_, rfl⟩
  obtain ⟨D, hD⟩ : ∃ A, w4.heap.size = A := ⟨_, rfl⟩
  obtain ⟨NN0, hN⟩ : ∃ A, w8.heap.size = A := ⟨_, rfl⟩
  rw [hEE] at E8 hAE l1 l2 ⊢
  rw [hD] at Z8 hAD l2 l3 ⊢
  rw [hA] at R8 hAE hAD l1 ⊢
  rw [hN] at l3
  have hsz : NN0 ≤ w8.heap.size := Nat.le_of_eq hN.symm
  clear hEE hD hN
  go_wp2_with (fail)
  go_loopw [7, 8] (fun s7 s8 wr => ∃ j : Nat, s8 = .int .i64 j ∧ j ≤ 8 ∧ wr.ownsRow NN0 22 1 s7 j (itV s2 j) ∧ Rye wr EE (itE s2 j) ∧ Box wr A (rpV Rp0) 37 ∧ Box wr D (rpV ⟨sg (nuV s0.left), nuV s1.left, 0, 0, 0, 0, 0, 0, 0, 0⟩) 37 ∧ Below w.heap.size w wr ∧ NN0 ≤ wr.heap.size) (fun _ s8 _ => 8 - (intOf s8).toNat)
  case atStart => exact ⟨0, rfl, Nat.zero_le _, World.ownsRow_nil _ _ _ _, E8, R8, Z8, T8, hsz⟩
  case round =>
    clear E8 R8 Z8 T8 hsz
    obtain ⟨j, rfl, hj, hown, E9, R9, Z9, T9, hsz⟩ := hrel
    by_cases hlt : j < 8
    · have j0 : (j : Int) < 8 := by omega
      have hK := REye_num E9 (by have := itE_lt l2s j; omega)
      rw [show nuE (itE s2 j) = itE s2 (j + 1) from rfl] at hK
      have hnx := itV_next s2 j
      replace hnx := Lib.hid hnx
      generalize nuV (itE s2 j).left = n at *
      go_wp2_with (first
        | (go_at_call 39; (with_reducible refine hK.mono ?_); rintro e wa ⟨rfl, Ea, Ka⟩; have Ta := Ka.up T9 (by omega); have Ra := Ka.box R9 (Nat.ne_of_lt l1); have Za := Ka.box Z9 (Ne.symm (Nat.ne_of_lt l2)); have Oa := own_but hown Ka (by omega); have Sa := Nat.le_trans hsz Ka.size)
        | (at_builtin; refine wpList_append_own _ rfl _ _ 81 rfl NN0 22 i0 (.int .u64 0) 1 8 Tryd.underlying81 hi hz0 hz1 hz2 rfl (by decide) _ _ _ rfl (Oa.alloc _) ⟨_, 0, none⟩ 1 1 [.int .u64 (n : Int)] rfl rfl (one_news _ _ _) (one_int _) (by unfold maxLen; omega) (by omega) (by simp; omega) ?_; intro v' w' hown' hgrow _; have B' : Below NN0 wa w' := (((Below.refl NN0 wa).alloc Sa _).grown hgrow (by simp; omega) (fun g e => (Oa.lt g e).1))))
      go_roundw
      case rel => exact ⟨j + 1, by simp, hlt, by rw [hnx.out]; exact hown', Box.under Ea B' (by omega), Box.under Ra B' (by omega), Box.under Za B' (by omega), below_under Ta B' (by omega), Nat.le_trans Sa B'.size⟩
      case measure => simp only [intOf]; omega
    · obtain rfl : j = 8 := by omega
      obtain ⟨g, cap, cur, rfl, hgN, hgg, hcap, hml, hcs, htk⟩ : ∃ g cap cur, u7 = Value.slice (some ⟨g, 0, none⟩) 8 cap ∧ NN0 ≤ g ∧ Box wr g cur 22 ∧ 8 ≤ cap ∧ cap ≤ maxLen ∧ cur.size = cap * 1 ∧ cur.toList.take (8 * 1) = itV s2 8 := by
        rcases hown.2 with ⟨_, h0⟩ | h
        · omega
        · exact h
      go_wp2_with (first
        | (refine wl_build 37 rfl rfl built37_0 ?_)
        | (refine wl_store 37 R9 rfl rfl rfl rfl size37 rfl (by omega : 0 + 10 ≤ 10) (rpV_one _) (spl10 _ _) ?_; intro wA RA KA))
      refine bodyPost_ret (v := .tuple #[.agg (rpV Rp0), .int .i64 140]) ?_ rfl ⟨rfl, KA.up T9 (by omega)⟩
      exact results_cell_two rfl _ _ _ _ _ _ _ rfl rfl RA Tryd.underlying37 rfl size37
set_option maxHeartbeats 16000000 in
set_option maxRecDepth 100000 in
theorem rrdr_y {S : List UInt8} {s0 : Ey} (w : World) (s1 s2 : Ey) (CE : Rp) (hCE : (⟨sg (nuV s0.left), nuV s1.left, nuV (itE s2 0).left, nuV (itE s2 1).left, nuV (itE s2 2).left, nuV (itE s2 3).left, nuV (itE s2 4).left, nuV (itE s2 5).left, nuV (itE s2 6).left, nuV (itE s2 7).left⟩ : Rp) = CE) (hg : (itE s2 8).bad = false ∧ (itE s2 8).left = []) (hkk : byV S = 0) (hs0 : byE ⟨S, false⟩ = s0) (l0s : s0.left.length < 100000) (hs1 : Hid (nuE s0 = s1)) (hs2 : Hid (nuE s1 = s2)) (l1s : s1.left.length < 100000) (l2s : s2.left.length < 100000) :
    Calls Tryd.prog 22 #[.string (bs S)] w fun e w' => e = .returned (.tuple #[.agg (rpV CE), .int .i64 0]) ∧ Below w.heap.size w w' := by
  obtain ⟨i0, hi, hz0, hz1, hz2⟩ := info_parts infoU
  go_enter Tryd.func22, Tryd.ntmps22
  go_upto_region 2 with (first
    | (refine wl_alloc 37 rfl rfl zero37 ?_; intro w1 R1 T1)
    | (refine wl_build 92 rfl rfl (built92 S) ?_)
    | (refine wl_box 92 rfl rfl rfl ?_; intro w2 E2 T2; have R2 := R1.below T2; have T2' := ups T1 T2 T1.size; have hB := RByte_any (s := ⟨S, false⟩) E2; rw [show (Ey.mk S false).left = S from rfl, hkk, hs0] at hB))
  go_upto_region 4 with (first
    | (go_at_call 38; (with_reducible refine hB.mono ?_); rintro e w3 ⟨rfl, E3, K3⟩; have T3 := K3.up T2' T1.size; have R3 := K3.box R2 (Nat.ne_of_lt R1.lt); have hI := REye_int E3 (by omega); rw [hs1.out] at hI)
    | (go_at_call 40; (with_reducible refine hI.mono ?_); rintro e w4 ⟨rfl, E4, K4⟩; have T4 := K4.up T3 T1.size; have R4 := K4.box R3 (Nat.ne_of_lt R1.lt))
    | (refine wl_build 37 rfl rfl (built37 _) ?_)
    | (refine wl_alloc 37 rfl rfl zero37 ?_; intro w5 Z5 T5; have R5 := R4.below T5; have E5 : Rye w5 w1.heap.size _ := Box.below E4 T5; have T5' := ups T4 T5 T4.size)
    | (refine wl_store 37 Z5 rfl rfl rfl rfl size37 rfl (by omega : 0 + 10 ≤ 10) (rpV_one _) (spl10 _ _) ?_; intro w6 Z6 K6; have T6 := K6.up T5' T4.size; have R6 := K6.box R5 (Nat.ne_of_lt R4.lt); have E6 : Rye w6 w1.heap.size _ := K6.box E5 (Nat.ne_of_lt (show w1.heap.size < w4.heap.size from E4.lt)); have hU := REye_num E6 (by omega); rw [hs2.out] at hU))
  have hAE := T1.size
  have hAD := T4.size
  have l1 : w.heap.size < w1.heap.size := R1.lt
  have l2 : w1.heap.size < w4.heap.size := E4.lt
  clear R1 T1 E2 T2 R2 T2' hB E3 K3 T3 R3 hI E4 K4 T4 R4 Z5 T5 R5 E5 T5' K6
  go_upto_region 5 with (first
    | (go_at_call 39; (with_reducible refine hU.mono ?_); rintro e w7 ⟨rfl, E7, K7⟩; have T7 := K7.up T6 hAE; have R7 := K7.box R6 (Nat.ne_of_lt l1); have Z7 := K7.box Z6 (Ne.symm (Nat.ne_of_lt l2)))
    | (refine wl_put 22 Z7 rfl rfl rfl rfl rfl rfl size22 (by decide : 1 < 10) (rp1 _ _) ?_; intro w8 Z8 K8; have T8 := K8.up T7 hAD; have R8 := K8.box R7 (by omega); have E8 : Rye w8 w1.heap.size _ := K8.box E7 (Nat.ne_of_lt l2)))
  clear E6 Z6 R6 T6 hU E7 K7 T7 R7 Z7 K8
  have l3 : w4.heap.size < w8.heap.size := Z8.lt
  obtain ⟨A, hA⟩ : ∃ A, w.heap.size = A := ⟨_, rfl⟩
  obtain ⟨EE, hEE⟩ : ∃ A, w1.heap.size = A := ⟨_, rfl⟩
  obtain ⟨D, hD⟩ : ∃ A, w4.heap.size = A := ⟨_, rfl⟩
  obtain ⟨NN0, hN⟩ : ∃ A, w8.heap.size = A := ⟨_, rfl⟩
  rw [hEE] at E8 hAE l1 l2 ⊢
  rw [hD] at Z8 hAD l2 l3 ⊢
  rw [hA] at R8 hAE hAD l1 ⊢
  rw [hN] at l3
  have hsz : NN0 ≤ w8.heap.size := Nat.le_of_eq hN.symm
  clear hEE hD hN
  go_wp2_with (fail)
  go_loopw [7, 8] (fun s7 s8 wr => ∃ j : Nat, s8 = .int .i64 j ∧ j ≤ 8 ∧ wr.ownsRow NN0 22 1 s7 j (itV s2 j) ∧ Rye wr EE (itE s2 j) ∧ Box wr A (rpV Rp0) 37 ∧ Box wr D (rpV ⟨sg (nuV s0.left), nuV s1.left, 0, 0, 0, 0, 0, 0, 0, 0⟩) 37 ∧ Below w.heap.size w wr ∧ NN0 ≤ wr.heap.size) (fun _ s8 _ => 8 - (intOf s8).toNat)
  case atStart => exact ⟨0, rfl, Nat.zero_le _, World.ownsRow_nil _ _ _ _, E8, R8, Z8, T8, hsz⟩
  case round =>
    clear E8 R8 Z8 T8 hsz
    obtain ⟨j, rfl, hj, hown, E9, R9, Z9, T9, hsz⟩ := hrel
    by_cases hlt : j < 8
    · have j0 : (j : Int) < 8 := by omega
      have hK := REye_num E9 (by have := itE_lt l2s j; omega)
      rw [show nuE (itE s2 j) = itE s2 (j + 1) from rfl] at hK
      have hnx := itV_next s2 j
      replace hnx := Lib.hid hnx
      generalize nuV (itE s2 j).left = n at *
      go_wp2_with (first
        | (go_at_call 39; (with_reducible refine hK.mono ?_); rintro e wa ⟨rfl, Ea, Ka⟩; have Ta := Ka.up T9 (by omega); have Ra := Ka.box R9 (Nat.ne_of_lt l1); have Za := Ka.box Z9 (Ne.symm (Nat.ne_of_lt l2)); have Oa := own_but hown Ka (by omega); have Sa := Nat.le_trans hsz Ka.size)
        | (at_builtin; refine wpList_append_own _ rfl _ _ 81 rfl NN0 22 i0 (.int .u64 0) 1 8 Tryd.underlying81 hi hz0 hz1 hz2 rfl (by decide) _ _ _ rfl (Oa.alloc _) ⟨_, 0, none⟩ 1 1 [.int .u64 (n : Int)] rfl rfl (one_news _ _ _) (one_int _) (by unfold maxLen; omega) (by omega) (by simp; omega) ?_; intro v' w' hown' hgrow _; have B' : Below NN0 wa w' := (((Below.refl NN0 wa).alloc Sa _).grown hgrow (by simp; omega) (fun g e => (Oa.lt g e).1))))
      go_roundw
      case rel => exact ⟨j + 1, by simp, hlt, by rw [hnx.out]; exact hown', Box.under Ea B' (by omega), Box.under Ra B' (by omega), Box.under Za B' (by omega), below_under Ta B' (by omega), Nat.le_trans Sa B'.size⟩
      case measure => simp only [intOf]; omega
    · obtain rfl : j = 8 := by omega
      obtain ⟨g, cap, cur, rfl, hgN, hgg, hcap, hml, hcs, htk⟩ : ∃ g cap cur, u7 = Value.slice (some ⟨g, 0, none⟩) 8 cap ∧ NN0 ≤ g ∧ Box wr g cur 22 ∧ 8 ≤ cap ∧ cap ≤ maxLen ∧ cur.size = cap * 1 ∧ cur.toList.take (8 * 1) = itV s2 8 := by
        rcases hown.2 with ⟨_, h0⟩ | h
        · omega
        · exact h
      have hDn := done_yes E9 hg
      have hcu : ∀ i, i < 8 → cur[i]? = some (.int .u64 (nuV (itE s2 i).left : Int)) := fun i hi => by
        have h : (itV s2 8)[i]? = some (.int .u64 (nuV (itE s2 i).left : Int)) := by unfold itV; rw [List.getElem?_map, List.getElem?_range hi]; rfl
        rw [← htk, List.getElem?_take, if_pos (by omega), Array.getElem?_toList] at h
        exact h
      have hh : ∀ i, i < 8 → wr.drew.cell? ⟨g, i, none⟩ = some (.int .u64 (nuV (itE s2 i).left : Int)) := fun i hi => (hgg.drew.cell i).trans (hcu i hi)
      have d0 := hh 0 (by decide)
      have d1 := hh 1 (by decide)
      have d2 := hh 2 (by decide)
      have d3 := hh 3 (by decide)
      have d4 := hh 4 (by decide)
      have d5 := hh 5 (by decide)
      have d6 := hh 6 (by decide)
      have d7 := hh 7 (by decide)
      clear hh hcu htk hown hgg
      generalize nuV (itE s2 0).left = m0 at *
      generalize nuV (itE s2 1).left = m1 at *
      generalize nuV (itE s2 2).left = m2 at *
      generalize nuV (itE s2 3).left = m3 at *
      generalize nuV (itE s2 4).left = m4 at *
      generalize nuV (itE s2 5).left = m5 at *
      generalize nuV (itE s2 6).left = m6 at *
      generalize nuV (itE s2 7).left = m7 at *
      generalize nuV s1.left = n1 at *
      generalize sg (nuV s0.left) = x1 at *
      have hfin : spl (rpV ⟨x1, n1, 0, 0, 0, 0, 0, 0, 0, 0⟩) 2 [.int .u64 (m0 : Int), .int .u64 (m1 : Int), .int .u64 (m2 : Int), .int .u64 (m3 : Int), .int .u64 (m4 : Int), .int .u64 (m5 : Int), .int .u64 (m6 : Int), .int .u64 (m7 : Int)] = rpV CE := by rw [← hCE]; exact rp2 _ _ _ _ _ _ _ _ _ _
      have Zd := Z9.drew
      have Rd := R9.drew
      have Td := T9.drew
      go_upto_region 12 with (go_at_call 43; (with_reducible refine hDn.mono ?_); rintro e w8 ⟨rfl, rfl⟩)
      go_still_tail 26, (by kernel_rfl)
      change wpList _ _ _ _ _ wr.drew
      generalize wr.drew = wd at *
      clear R9 Z9 T9 E9
      refine wl_store 35 Zd rfl rfl rfl rfl size35 rfl (by omega : 2 + 8 ≤ 10) (by kernel_rfl) hfin ?_
      intro we Ze Ke
      have Te := Ke.up Td (by omega)
      have Re := Ke.box Rd (by omega)
      clear d0 d1 d2 d3 d4 d5 d6 d7 Zd Rd Td
      go_wp2_with (first
        | (refine wl_load 37 Ze rfl rfl rfl Tryd.underlying37 rfl size37 (by omega : 0 + 10 ≤ 10) (rpV_all _) ?_)
        | (refine wl_store 37 Re rfl rfl rfl rfl size37 rfl (by omega : 0 + 10 ≤ 10) (rpV_one _) (spl10 _ _) ?_; intro wA RA KA))
      refine bodyPost_ret (v := .tuple #[.agg (rpV CE), .int .i64 0]) ?_ rfl ⟨rfl, KA.up Te (by omega)⟩
      exact results_cell_two rfl _ _ _ _ _ _ _ rfl rfl RA Tryd.underlying37 rfl size37
set_option maxHeartbeats 16000000 in
set_option maxRecDepth 100000 in
theorem rrdr_b {S : List UInt8} {s0 : Ey} (w : World) (s1 s2 : Ey) (hg : ¬ ((itE s2 8).bad = false ∧ (itE s2 8).left = [])) (hkk : byV S = 0) (hs0 : byE ⟨S, false⟩ = s0) (l0s : s0.left.length < 100000) (hs1 : Hid (nuE s0 = s1)) (hs2 : Hid (nuE s1 = s2)) (l1s : s1.left.length < 100000) (l2s : s2.left.length < 100000) :
    Calls Tryd.prog 22 #[.string (bs S)] w fun e w' => e = .returned (.tuple #[.agg (rpV Rp0), .int .i64 140]) ∧ Below w.heap.size w w' := by
  obtain ⟨i0, hi, hz0, hz1, hz2⟩ := info_parts infoU
  go_enter Tryd.func22, Tryd.ntmps22
  go_upto_region 2 with (first
    | (refine wl_alloc 37 rfl rfl zero37 ?_; intro w1 R1 T1)
    | (refine wl_build 92 rfl rfl (built92 S) ?_)
    | (refine wl_box 92 rfl rfl rfl ?_; intro w2 E2 T2; have R2 := R1.below T2; have T2' := ups T1 T2 T1.size; have hB := RByte_any (s := ⟨S, false⟩) E2; rw [show (Ey.mk S false).left = S from rfl, hkk, hs0] at hB))
  go_upto_region 4 with (first
    | (go_at_call 38; (with_reducible refine hB.mono ?_); rintro e w3 ⟨rfl, E3, K3⟩; have T3 := K3.up T2' T1.size; have R3 := K3.box R2 (Nat.ne_of_lt R1.lt); have hI := REye_int E3 (by omega); rw [hs1.out] at hI)
    | (go_at_call 40; (with_reducible refine hI.mono ?_); rintro e w4 ⟨rfl, E4, K4⟩; have T4 := K4.up T3 T1.size; have R4 := K4.box R3 (Nat.ne_of_lt R1.lt))
    | (refine wl_build 37 rfl rfl (built37 _) ?_)
    | (refine wl_alloc 37 rfl rfl zero37 ?_; intro w5 Z5 T5; have R5 := R4.below T5; have E5 : Rye w5 w1.heap.size _ := Box.below E4 T5; have T5' := ups T4 T5 T4.size)
    | (refine wl_store 37 Z5 rfl rfl rfl rfl size37 rfl (by omega : 0 + 10 ≤ 10) (rpV_one _) (spl10 _ _) ?_; intro w6 Z6 K6; have T6 := K6.up T5' T4.size; have R6 := K6.box R5 (Nat.ne_of_lt R4.lt); have E6 : Rye w6 w1.heap.size _ := K6.box E5 (Nat.ne_of_lt (show w1.heap.size < w4.heap.size from E4.lt)); have hU := REye_num E6 (by omega); rw [hs2.out] at hU))
  have hAE := T1.size
  have hAD := T4.size
  have l1 : w.heap.size < w1.heap.size := R1.lt
  have l2 : w1.heap.size < w4.heap.size := E4.lt
  clear R1 T1 E2 T2 R2 T2' hB E3 K3 T3 R3 hI E4 K4 T4 R4 Z5 T5 R5 E5 T5' K6
  go_upto_region 5 with (first
    | (go_at_call 39; (with_reducible refine hU.mono ?_); rintro e w7 ⟨rfl, E7, K7⟩; have T7 := K7.up T6 hAE; have R7 := K7.box R6 (Nat.ne_of_lt l1); have Z7 := K7.box Z6 (Ne.symm (Nat.ne_of_lt l2)))
    | (refine wl_put 22 Z7 rfl rfl rfl rfl rfl rfl size22 (by decide : 1 < 10) (rp1 _ _) ?_; intro w8 Z8 K8; have T8 := K8.up T7 hAD; have R8 := K8.box R7 (by omega); have E8 : Rye w8 w1.heap.size _ := K8.box E7 (Nat.ne_of_lt l2)))
  clear E6 Z6 R6 T6 hU E7 K7 T7 R7 Z7 K8
  have l3 : w4.heap.size < w8.heap.size := Z8.lt
  obtain ⟨A, hA⟩ : ∃ A, w.heap.size = A := ⟨_, rfl⟩
  obtain ⟨EE, hEE⟩ : ∃ A, w1.heap.size = A := ⟨_, rfl⟩
  obtain ⟨D, hD⟩ : ∃ A, w4.heap.size = A := ⟨_, rfl⟩
  obtain ⟨NN0, hN⟩ : ∃ A, w8.heap.size = A := ⟨_, rfl⟩
  rw [hEE] at E8 hAE l1 l2 ⊢
  rw [hD] at Z8 hAD l2 l3 ⊢
  rw [hA] at R8 hAE hAD l1 ⊢
  rw [hN] at l3
  have hsz : NN0 ≤ w8.heap.size := Nat.le_of_eq hN.symm
  clear hEE hD hN
  go_wp2_with (fail)
  go_loopw [7, 8] (fun s7 s8 wr => ∃ j : Nat, s8 = .int .i64 j ∧ j ≤ 8 ∧ wr.ownsRow NN0 22 1 s7 j (itV s2 j) ∧ Rye wr EE (itE s2 j) ∧ Box wr A (rpV Rp0) 37 ∧ Box wr D (rpV ⟨sg (nuV s0.left), nuV s1.left, 0, 0, 0, 0, 0, 0, 0, 0⟩) 37 ∧ Below w.heap.size w wr ∧ NN0 ≤ wr.heap.size) (fun _ s8 _ => 8 - (intOf s8).toNat)
  case atStart => exact ⟨0, rfl, Nat.zero_le _, World.ownsRow_nil _ _ _ _, E8, R8, Z8, T8, hsz⟩
  case round =>
    clear E8 R8 Z8 T8 hsz
    obtain ⟨j, rfl, hj, hown, E9, R9, Z9, T9, hsz⟩ := hrel
    by_cases hlt : j < 8
    · have j0 : (j : Int) < 8 := by omega
      have hK := REye_num E9 (by have := itE_lt l2s j; omega)
      rw [show nuE (itE s2 j) = itE s2 (j + 1) from rfl] at hK
      have hnx := itV_next s2 j
      replace hnx := Lib.hid hnx
      generalize nuV (itE s2 j).left = n at *
      go_wp2_with (first
        | (go_at_call 39; (with_reducible refine hK.mono ?_); rintro e wa ⟨rfl, Ea, Ka⟩; have Ta := Ka.up T9 (by omega); have Ra := Ka.box R9 (Nat.ne_of_lt l1); have Za := Ka.box Z9 (Ne.symm (Nat.ne_of_lt l2)); have Oa := own_but hown Ka (by omega); have Sa := Nat.le_trans hsz Ka.size)
        | (at_builtin; refine wpList_append_own _ rfl _ _ 81 rfl NN0 22 i0 (.int .u64 0) 1 8 Tryd.underlying81 hi hz0 hz1 hz2 rfl (by decide) _ _ _ rfl (Oa.alloc _) ⟨_, 0, none⟩ 1 1 [.int .u64 (n : Int)] rfl rfl (one_news _ _ _) (one_int _) (by unfold maxLen; omega) (by omega) (by simp; omega) ?_; intro v' w' hown' hgrow _; have B' : Below NN0 wa w' := (((Below.refl NN0 wa).alloc Sa _).grown hgrow (by simp; omega) (fun g e => (Oa.lt g e).1))))
      go_roundw
      case rel => exact ⟨j + 1, by simp, hlt, by rw [hnx.out]; exact hown', Box.under Ea B' (by omega), Box.under Ra B' (by omega), Box.under Za B' (by omega), below_under Ta B' (by omega), Nat.le_trans Sa B'.size⟩
      case measure => simp only [intOf]; omega
    · obtain rfl : j = 8 := by omega
      obtain ⟨g, cap, cur, rfl, hgN, hgg, hcap, hml, hcs, htk⟩ : ∃ g cap cur, u7 = Value.slice (some ⟨g, 0, none⟩) 8 cap ∧ NN0 ≤ g ∧ Box wr g cur 22 ∧ 8 ≤ cap ∧ cap ≤ maxLen ∧ cur.size = cap * 1 ∧ cur.toList.take (8 * 1) = itV s2 8 := by
        rcases hown.2 with ⟨_, h0⟩ | h
        · omega
        · exact h
      have hDn := done_not E9 hg
      go_wp2_with (first
        | (go_at_call 43; (with_reducible refine hDn.mono ?_); rintro e w8 ⟨rfl, rfl⟩)
        | (refine wl_build 37 rfl rfl built37_0 ?_)
        | (refine wl_store 37 R9 rfl rfl rfl rfl size37 rfl (by omega : 0 + 10 ≤ 10) (rpV_one _) (spl10 _ _) ?_; intro wA RA KA))
      refine bodyPost_ret (v := .tuple #[.agg (rpV Rp0), .int .i64 140]) ?_ rfl ⟨rfl, KA.up T9 (by omega)⟩
      exact results_cell_two rfl _ _ _ _ _ _ _ rfl rfl RA Tryd.underlying37 rfl size37
theorem RReadReply_any (S : List UInt8) (w : World) (hlen : S.length < 100000) : Calls Tryd.prog 22 #[.string (bs S)] w fun e w' => e = .returned (rdrV S) ∧ Below w.heap.size w w' := by
  have l0 : (byE ⟨S, false⟩).left.length < 100000 := Nat.lt_of_le_of_lt (byE_len _) hlen
  by_cases hno : byV S = 0
  · rw [rdrV_at hno]
    by_cases hg : (endL tyR (byE ⟨S, false⟩)).bad = false ∧ (endL tyR (byE ⟨S, false⟩)).left = []
    · rw [if_pos hg]
      exact rrdr_y w _ _ _ rfl hg hno rfl l0 (Lib.hid rfl) (Lib.hid rfl) (nuE_lt l0) (nuE_lt (nuE_lt l0))
    · rw [if_neg hg]
      exact rrdr_b w _ _ hg hno rfl l0 (Lib.hid rfl) (Lib.hid rfl) (nuE_lt l0) (nuE_lt (nuE_lt l0))
  · rw [rdrV_no hno]
    exact rrdr_n w _ _ _ (by rw [bne_iff_ne]; omega) rfl rfl l0 (Lib.hid rfl) (Lib.hid rfl) (nuE_lt l0) (nuE_lt (nuE_lt l0))
end Go.Proofs.YtamjnekdfhocdaaDoor
