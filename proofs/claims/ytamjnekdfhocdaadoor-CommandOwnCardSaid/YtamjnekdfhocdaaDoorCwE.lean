/- CommandOne: its walk. No condition but those of the row. -/
import Derived.Test.YtamjnekdfhocdaaDoorCwC
namespace Go.Proofs.YtamjnekdfhocdaaDoor
open Go.ChangeShapes Go.WideShapes Go.Deep Go.RowKit
set_option linter.unusedVariables false
set_option linter.unusedSimpArgs false
theorem xl_buildf {P : Program} (t : TypeId) {o : Oper} {a : Act} {w : World} {c : Array Value} (hc : P.built t [] = some c) (ho : o.op = .build t #[]) : (execOp a.eval o).run P w = .ok (.value (.agg c)) w := xl_build (parts := []) t hc ho
theorem nself {α : Type} [DecidableEq α] (x : α) : (!decide (x = x)) = false := by simp
theorem byV_take {S : List UInt8} (j : Nat) (hj : 0 < j) : byV (S.take j) = byV S := by
  cases S with
  | nil => simp
  | cons b R => cases j with
    | zero => omega
    | succ j => rfl
theorem byV_more {S : List UInt8} (m : UInt8) (h : S ≠ []) : byV (S ++ [m]) = byV S := by
  cases S with
  | nil => exact absurd rfl h
  | cons b R => rfl
theorem take_zero_rd (S : List UInt8) : rdC (S.take 0) = none ∧ rdR (S.take 0) = none := ⟨rfl, rfl⟩
theorem cut_split (S : List UInt8) (j : Nat) (hj : j < S.length) : S = S.take j ++ S.drop j ∧ S.drop j ≠ [] := ⟨(List.take_append_drop j S).symm, fun h => by
  have := congrArg List.length h
  rw [List.length_drop, List.length_nil] at this
  omega⟩
/-- What is less, or more, than a command's bytes is none's. -/
theorem less_cmd {S : List UInt8} {C : Cm} (h : rdC S = some C) (j : Nat) (hj : j < S.length) (m : UInt8) : rdC (S.take j) = none ∧ rdR (S.take j) = none ∧ rdC (S ++ [m]) = none ∧ rdR (S ++ [m]) = none := by
  obtain ⟨h1, h2, rfl⟩ := rdC_some h
  have hb : byV (bytC C) ≠ 0 := by
    show (UInt8.ofNat C.k).toNat ≠ 0
    rw [UInt8.toNat_ofNat', Nat.mod_eq_of_lt h2.1]
    have := h1.1
    omega
  obtain ⟨e, hR⟩ := cut_split (bytC C) j hj
  refine ⟨rdC_less h1 h2 e hR, ?_, rdC_more h1 h2 (by simp), rdR_no (by rw [byV_more m (by unfold bytC; simp)]; exact hb)⟩
  by_cases h0 : j = 0
  · subst h0; rfl
  · exact rdR_no (by rw [byV_take j (by omega)]; exact hb)
theorem less_rep {S : List UInt8} {r : Rp} (h : rdR S = some r) (j : Nat) (hj : j < S.length) (m : UInt8) : rdC (S.take j) = none ∧ rdR (S.take j) = none ∧ rdC (S ++ [m]) = none ∧ rdR (S ++ [m]) = none := by
  obtain ⟨h2, rfl⟩ := rdR_some h
  have hb : isK (byV (bytR r)) = false := rfl
  obtain ⟨e, hR⟩ := cut_split (bytR r) j hj
  refine ⟨?_, rdR_less h2 e hR, rdC_no (by rw [byV_more m (by unfold bytR; simp)]; exact hb), rdR_more h2 (by simp)⟩
  by_cases h0 : j = 0
  · subst h0; rfl
  · exact rdC_no (by rw [byV_take j (by omega)]; exact hb)
theorem rdcV_none {S : List UInt8} (h : rdC S = none) : rdcV S = .tuple #[.agg (cmV (Cm.zero 0)), .int .i64 140] := by unfold rdcV; rw [h]
theorem rdrV_none {S : List UInt8} (h : rdR S = none) : rdrV S = .tuple #[.agg (rpV Rp0), .int .i64 140] := by unfold rdrV; rw [h]
theorem rdcV_some {S : List UInt8} {C : Cm} (h : rdC S = some C) : rdcV S = .tuple #[.agg (cmV C), .int .i64 0] := by unfold rdcV; rw [h]
theorem rdrV_some {S : List UInt8} {C : Rp} (h : rdR S = some C) : rdrV S = .tuple #[.agg (rpV C), .int .i64 0] := by unfold rdrV; rw [h]
set_option maxHeartbeats 16000000 in
set_option maxRecDepth 100000 in
theorem one_long (S : List UInt8) (x m : Int) (w : World) (hN : Names w) (hl : 500 < S.length) : Calls Tryd.prog 6 #[.string (bs S), .int .i64 x, .int .u8 m] w fun e w' => e = .returned (.bool true) ∧ Below w.heap.size w w' := by
  have hz := bs_size S
  have j0 : (500 : Int) < (S.length : Int) := by omega
  have a1 := awake_any w hN
  generalize bs S = Z at *
  go_enter Tryd.func6, Tryd.ntmps6
  go_wp2_with (go_at_call 23; (with_reducible refine a1.mono ?_); rintro e w1 ⟨rfl, T1⟩)
  go_ret
  exact ⟨rfl, T1⟩
set_option maxHeartbeats 16000000 in
set_option maxRecDepth 100000 in
theorem one_none (S : List UInt8) (x m : Int) (w : World) (hN : Names w) (hl : S.length ≤ 500) (hC : rdC S = none) (hR : rdR S = none) : Calls Tryd.prog 6 #[.string (bs S), .int .i64 x, .int .u8 m] w fun e w' => e = .returned (.bool true) ∧ Below w.heap.size w w' := by
  have hz := bs_size S
  have j0 : ¬ (500 : Int) < (S.length : Int) := by omega
  have a1 := awake_any w hN
  have p1 : ∀ W, Names W → Calls Tryd.prog 19 #[.string (bs S)] W fun e w' => e = .returned (.tuple #[.agg (cmV (Cm.zero 0)), .int .i64 140]) ∧ Below W.heap.size W w' := fun W hN => by
    have h := ReadCommand_any S W hN (by omega)
    rw [rdcV_none hC] at h
    exact h
  have p2 : ∀ W, Calls Tryd.prog 21 #[.string (bs S)] W fun e w' => e = .returned (.tuple #[.agg (rpV Rp0), .int .i64 140]) ∧ Below W.heap.size W w' := fun W => by
    have h := ReadReply_any S W (by omega)
    rw [rdrV_none hR] at h
    exact h
  clear hC hR
  generalize bs S = Z at *
  go_enter Tryd.func6, Tryd.ntmps6
  go_upto_region 5 with (go_at_call 23; (with_reducible refine a1.mono ?_); rintro e w1 ⟨rfl, T1⟩)
  have a2 := p1 w1 (hN.up T1)
  go_upto_region 6 with (first
    | (go_at_call 19; (with_reducible refine a2.mono ?_); rintro e w2 ⟨rfl, U2⟩; have T2 := ups T1 U2 T1.size)
    | (with_reducible refine at_list ?_; first
      | (with_reducible refine wl_alloc 32 rfl rfl zero32 ?_; intro w3 Z3 U3; (try simp only [Act.put, List.setIfInBounds_toArray, List.set_cons_zero, List.set_cons_succ]); have T3 := ups T2 U3 T2.size)
      | (refine wl_storef 32 Z3 rfl rfl rfl rfl size32 rfl (by omega : 0 + 24 ≤ 24) (cmV_one _) (spl24 _ _) ?_; intro w4 Z4 K4; (try simp only [Act.put, List.setIfInBounds_toArray, List.set_cons_zero, List.set_cons_succ]); have T4 := K4.up T3 T2.size)))
  have a3 := p2 w4
  have hT2 := T2.size
  clear a1 a2 T1 U2 T2 Z3 U3 T3 K4
  go_upto_region 7 with (first
    | (go_at_call 21; (with_reducible refine a3.mono ?_); rintro e w5 ⟨rfl, U5⟩; have T5 := ups T4 U5 T4.size; have Z5 := Z4.below U5)
    | (with_reducible refine at_list ?_; first
      | (with_reducible refine wl_alloc 37 rfl rfl zero37 ?_; intro w6 R6 U6; (try simp only [Act.put, List.setIfInBounds_toArray, List.set_cons_zero, List.set_cons_succ]); have T6 := ups T5 U6 T5.size; have Z6 := Z5.below U6)
      | (refine wl_storef 37 R6 rfl rfl rfl rfl size37 rfl (by omega : 0 + 10 ≤ 10) (rpV_one _) (spl10 _ _) ?_; intro w7 R7 K7; (try simp only [Act.put, List.setIfInBounds_toArray, List.set_cons_zero, List.set_cons_succ]); have T7 := K7.up T6 T5.size; have Z7 := K7.box Z6 (Nat.ne_of_lt Z5.lt))))
  clear a3 T4 Z4 U5 T5 Z5 R6 U6 T6 Z6 K7
  go_wp2_with (first
    | (with_reducible refine at_list ?_; first
      | (refine wl_run (xl_loadf 37 R7 rfl rfl Tryd.underlying37 rfl size37 (by omega : 0 + 10 ≤ 10) (rpV_all _)) (wanted_f rfl rfl rfl rfl) ?_; (try simp only [Act.put, List.setIfInBounds_toArray, List.set_cons_zero, List.set_cons_succ]))
      | (refine wl_run (xl_buildf 37 built37_0 rfl) (wanted_f rfl rfl rfl rfl) ?_; (try simp only [Act.put, List.setIfInBounds_toArray, List.set_cons_zero, List.set_cons_succ]))
      | (refine wl_run (xl_nef37 (nself _) rfl rfl rfl) (wanted_f rfl rfl rfl rfl) ?_; (try simp only [Act.put, List.setIfInBounds_toArray, List.set_cons_zero, List.set_cons_succ]))
      | (refine wl_run (xl_loadf 32 Z7 rfl rfl Tryd.underlying32 rfl size32 (by omega : 0 + 24 ≤ 24) (cmV_all _)) (wanted_f rfl rfl rfl rfl) ?_; (try simp only [Act.put, List.setIfInBounds_toArray, List.set_cons_zero, List.set_cons_succ]))
      | (refine wl_run (xl_buildf 32 built32_0 rfl) (wanted_f rfl rfl rfl rfl) ?_; (try simp only [Act.put, List.setIfInBounds_toArray, List.set_cons_zero, List.set_cons_succ]))
      | (refine wl_run (xl_nef32 (nself _) rfl rfl rfl) (wanted_f rfl rfl rfl rfl) ?_; (try simp only [Act.put, List.setIfInBounds_toArray, List.set_cons_zero, List.set_cons_succ]))))
  go_ret
  exact ⟨rfl, T7⟩
set_option maxHeartbeats 16000000 in
set_option maxRecDepth 100000 in
theorem one_C (S : List UInt8) (x m : Int) (w : World) (hN : Names w) (hl : S.length ≤ 500) (hm : 0 ≤ m ∧ m < 256) (hx : -9223372036854775808 ≤ x ∧ x < 9223372036854775808) {C : Cm} (hC : rdC S = some C) : Calls Tryd.prog 6 #[.string (bs S), .int .i64 x, .int .u8 m] w fun e w' => e = .returned (.bool true) ∧ Below w.heap.size w w' := by
  have hz := bs_size S
  have j0 : ¬ (500 : Int) < (S.length : Int) := by omega
  have a1 := awake_any w hN
  have p1 : ∀ W, Names W → Calls Tryd.prog 19 #[.string (bs S)] W fun e w' => e = .returned (.tuple #[.agg (cmV C), .int .i64 0]) ∧ Below W.heap.size W w' := fun W hN => by
    have h := ReadCommand_any S W hN (by omega)
    rw [rdcV_some hC] at h
    exact h
  have p2 : ∀ W, Calls Tryd.prog 21 #[.string (bs S)] W fun e w' => e = .returned (.tuple #[.agg (rpV Rp0), .int .i64 140]) ∧ Below W.heap.size W w' := fun W => by
    have h := ReadReply_any S W (by omega)
    rw [rdrV_none (rd_apart (by rw [hC]; simp))] at h
    exact h
  have p9 : ∀ W, Names W → Calls Tryd.prog 9 #[.agg (cmV C)] W fun e w' => e = .returned (.tuple #[.string (bs S), .int .i64 0]) ∧ Below W.heap.size W w' := fun W hN => by
    obtain ⟨q1, q2, q3⟩ := rdC_some hC
    have h := Command_any C W hN q2
    rw [show cmdV C = _ from if_pos q1, ← q3] at h
    exact h
  have hpos : 0 < S.length := by
    cases S with
    | nil => cases hC
    | cons b R => simp
  obtain ⟨u, hu⟩ : ∃ u, IntKind.u64.wrap x = u := ⟨_, rfl⟩
  have hu0 : 0 ≤ u := by rw [← hu, IntKind.wrap_u64]; omega
  have hn64 : IntKind.u64.wrap (S.length : Int) = (S.length : Int) := by rw [IntKind.wrap_u64]; omega
  obtain ⟨j, hj⟩ : ∃ j : Nat, u % (S.length : Int) = (j : Int) := ⟨(u % (S.length : Int)).toNat, by have := Int.emod_nonneg u (show (S.length : Int) ≠ 0 by omega); omega⟩
  have hjl : j < S.length := by have := Int.emod_lt_of_pos u (show (0 : Int) < (S.length : Int) by omega); omega
  have hrem : u.tmod (S.length : Int) = (j : Int) := by rw [Int.tmod_eq_emod_of_nonneg hu0, hj]
  have hj64 : IntKind.i64.wrap (j : Int) = (j : Int) := by rw [IntKind.wrap_i64]; omega
  obtain ⟨M, hM⟩ : ∃ M : UInt8, (M.toNat : Int) = m := ⟨UInt8.ofNat m.toNat, by rw [UInt8.toNat_ofNat', Nat.mod_eq_of_lt (by omega)]; omega⟩
  obtain ⟨e1, e2, e3, e4⟩ := less_cmd hC j hjl M
  have hcut : (bs S).extract 0 j = bs (S.take j) := by rw [bs_extract]; rfl
  have q1 : ∀ W, Names W → Calls Tryd.prog 19 #[.string ((bs S).extract 0 j)] W fun e w' => e = .returned (.tuple #[.agg (cmV (Cm.zero 0)), .int .i64 140]) ∧ Below W.heap.size W w' := fun W hN => by
    have h := ReadCommand_any (S.take j) W hN (by rw [List.length_take]; omega)
    rw [rdcV_none e1, ← hcut] at h
    exact h
  have q2 : ∀ W, Calls Tryd.prog 21 #[.string ((bs S).extract 0 j)] W fun e w' => e = .returned (.tuple #[.agg (rpV Rp0), .int .i64 140]) ∧ Below W.heap.size W w' := fun W => by
    have h := ReadReply_any (S.take j) W (by rw [List.length_take]; omega)
    rw [rdrV_none e2, ← hcut] at h
    exact h
  have q3 : ∀ W, Names W → Calls Tryd.prog 19 #[.string (bs (S ++ [M]))] W fun e w' => e = .returned (.tuple #[.agg (cmV (Cm.zero 0)), .int .i64 140]) ∧ Below W.heap.size W w' := fun W hN => by
    have h := ReadCommand_any (S ++ [M]) W hN (by rw [List.length_append, List.length_singleton]; omega)
    rw [rdcV_none e3] at h
    exact h
  have q4 : ∀ W, Calls Tryd.prog 21 #[.string (bs (S ++ [M]))] W fun e w' => e = .returned (.tuple #[.agg (rpV Rp0), .int .i64 140]) ∧ Below W.heap.size W w' := fun W => by
    have h := ReadReply_any (S ++ [M]) W (by rw [List.length_append, List.length_singleton]; omega)
    rw [rdrV_none e4] at h
    exact h
  have hconv : ∀ W : World, (convert 61 9 (.slice (some ⟨W.heap.size, 0, none⟩) 1 1)).run Tryd.prog (W.alloc (.cells #[.int .u8 m] 5)) = .ok (.string (bs [M])) (W.alloc (.cells #[.int .u8 m] 5)) := fun W => by
    have h := conv_one W M
    rw [hM] at h
    exact h
  have hadd := add_sum S [M] (by rw [List.length_singleton]; omega)
  have jn0 : ((S.length : Int) == 0) = false := beq_eq_false_iff_ne.2 (by omega)
  have jn1 : ¬ (S.length : Int) = 0 := by omega
  have jj : (j : Int) ≤ (S.length : Int) := by omega
  clear e1 e2 e3 e4 hcut hC hj hM
  generalize bs (S ++ [M]) = Zm at *
  generalize bs [M] = Z1 at *
  generalize bs S = Z at *
  go_enter Tryd.func6, Tryd.ntmps6
  go_upto_region 5 with (go_at_call 23; (with_reducible refine a1.mono ?_); rintro e w1 ⟨rfl, T1⟩)
  have a2 := p1 w1 (hN.up T1)
  go_upto_region 6 with (first
    | (go_at_call 19; (with_reducible refine a2.mono ?_); rintro e w2 ⟨rfl, U2⟩; have T2 := ups T1 U2 T1.size)
    | (with_reducible refine at_list ?_; first
      | (with_reducible refine wl_alloc 32 rfl rfl zero32 ?_; intro w3 Z3 U3; (try simp only [Act.put, List.setIfInBounds_toArray, List.set_cons_zero, List.set_cons_succ]); have T3 := ups T2 U3 T2.size)
      | (refine wl_storef 32 Z3 rfl rfl rfl rfl size32 rfl (by omega : 0 + 24 ≤ 24) (cmV_one _) (spl24 _ _) ?_; intro w4 Z4 K4; (try simp only [Act.put, List.setIfInBounds_toArray, List.set_cons_zero, List.set_cons_succ]); have T4 := K4.up T3 T2.size)))
  have a3 := p2 w4
  have hT2 := T2.size
  clear a1 a2 T1 U2 T2 Z3 U3 T3 K4
  go_upto_region 7 with (first
    | (go_at_call 21; (with_reducible refine a3.mono ?_); rintro e w5 ⟨rfl, U5⟩; have T5 := ups T4 U5 T4.size; have Z5 := Z4.below U5)
    | (with_reducible refine at_list ?_; first
      | (with_reducible refine wl_alloc 37 rfl rfl zero37 ?_; intro w6 R6 U6; (try simp only [Act.put, List.setIfInBounds_toArray, List.set_cons_zero, List.set_cons_succ]); have T6 := ups T5 U6 T5.size; have Z6 := Z5.below U6)
      | (refine wl_storef 37 R6 rfl rfl rfl rfl size37 rfl (by omega : 0 + 10 ≤ 10) (rpV_one _) (spl10 _ _) ?_; intro w7 R7 K7; (try simp only [Act.put, List.setIfInBounds_toArray, List.set_cons_zero, List.set_cons_succ]); have T7 := K7.up T6 T5.size; have Z7 := K7.box Z6 (Nat.ne_of_lt Z5.lt))))
  clear a3 T4 Z4 U5 T5 Z5 R6 U6 T6 Z6 K7
  have a4 := p9 w7 (hN.up T7)
  go_upto_region 19 with (first
    | (go_at_call 9; (with_reducible refine a4.mono ?_); rintro e w8 ⟨rfl, U8⟩; have T8 := ups T7 U8 T7.size)
    | (with_reducible refine at_list ?_; first
      | (refine wl_loadf 32 Z7 rfl rfl rfl Tryd.underlying32 rfl size32 (by omega : 0 + 24 ≤ 24) (cmV_all _) ?_; (try simp only [Act.put, List.setIfInBounds_toArray, List.set_cons_zero, List.set_cons_succ]))
      | (refine wl_run (xl_loadf 37 R7 rfl rfl Tryd.underlying37 rfl size37 (by omega : 0 + 10 ≤ 10) (rpV_all _)) (wanted_f rfl rfl rfl rfl) ?_; (try simp only [Act.put, List.setIfInBounds_toArray, List.set_cons_zero, List.set_cons_succ]))
      | (refine wl_run (xl_buildf 37 built37_0 rfl) (wanted_f rfl rfl rfl rfl) ?_; (try simp only [Act.put, List.setIfInBounds_toArray, List.set_cons_zero, List.set_cons_succ]))
      | (refine wl_run (xl_nef37 (nself _) rfl rfl rfl) (wanted_f rfl rfl rfl rfl) ?_; (try simp only [Act.put, List.setIfInBounds_toArray, List.set_cons_zero, List.set_cons_succ]))
      | (refine wl_run (xl_loadf 32 Z7 rfl rfl Tryd.underlying32 rfl size32 (by omega : 0 + 24 ≤ 24) (cmV_all _)) (wanted_f rfl rfl rfl rfl) ?_; (try simp only [Act.put, List.setIfInBounds_toArray, List.set_cons_zero, List.set_cons_succ]))
      | (refine wl_run (xl_buildf 32 built32_0 rfl) (wanted_f rfl rfl rfl rfl) ?_; (try simp only [Act.put, List.setIfInBounds_toArray, List.set_cons_zero, List.set_cons_succ]))
      | (refine wl_run (xl_nef32 (nself _) rfl rfl rfl) (wanted_f rfl rfl rfl rfl) ?_; (try simp only [Act.put, List.setIfInBounds_toArray, List.set_cons_zero, List.set_cons_succ]))))
  clear a4 Z7 R7 T7
  go_upto_region 20 with fail
  have b1 := q1 w8 (hN.up T8)
  clear hu hu0 hn64 hrem hj64 jn0 jn1 jj hjl
  go_upto_region 21 with (first
    | (go_at_call 19; (with_reducible refine b1.mono ?_); rintro e w9 ⟨rfl, U9⟩; have T9 := ups T8 U9 T8.size)
    | (with_reducible refine at_list ?_; first
      | (with_reducible refine wl_alloc 32 rfl rfl zero32 ?_; intro wa Va Ua; (try simp only [Act.put, List.setIfInBounds_toArray, List.set_cons_zero, List.set_cons_succ]); have Ta := ups T9 Ua T9.size)
      | (refine wl_storef 32 Va rfl rfl rfl rfl size32 rfl (by omega : 0 + 24 ≤ 24) (cmV_one _) (spl24 _ _) ?_; intro wb Vb Kb; (try simp only [Act.put, List.setIfInBounds_toArray, List.set_cons_zero, List.set_cons_succ]); have Tb := Kb.up Ta T9.size; have b2 := q2 wb)))
  clear b1 T8 U9 T9 Va Ua Ta Vb Kb
  go_upto_region 22 with (first
    | (go_at_call 21; (with_reducible refine b2.mono ?_); rintro e wc ⟨rfl, Uc⟩; have Tc := ups Tb Uc Tb.size)
    | (with_reducible refine at_list ?_; first
      | (with_reducible refine wl_alloc 37 rfl rfl zero37 ?_; intro wd Vd Ud; (try simp only [Act.put, List.setIfInBounds_toArray, List.set_cons_zero, List.set_cons_succ]); have Td := ups Tc Ud Tc.size)
      | (refine wl_storef 37 Vd rfl rfl rfl rfl size37 rfl (by omega : 0 + 10 ≤ 10) (rpV_one _) (spl10 _ _) ?_; intro we Ve Ke; (try simp only [Act.put, List.setIfInBounds_toArray, List.set_cons_zero, List.set_cons_succ]); have Te := Ke.up Td Tc.size; have ce := hconv we; have Tf := Te.alloc Te.size (.cells #[.int .u8 m] 5); have b3 := q3 _ (hN.up Tf))))
  clear b2 Tb Uc Tc Vd Ud Td Ve Ke
  go_upto_region 23 with (first
    | (go_at_call 19; (with_reducible refine b3.mono ?_); rintro e wg ⟨rfl, Ug⟩; have Tg := ups Tf Ug Tf.size)
    | (with_reducible refine at_list ?_; first
      | (with_reducible refine wl_alloc 32 rfl rfl zero32 ?_; intro wh Vh Uh; (try simp only [Act.put, List.setIfInBounds_toArray, List.set_cons_zero, List.set_cons_succ]); have Th := ups Tg Uh Tg.size)
      | (refine wl_storef 32 Vh rfl rfl rfl rfl size32 rfl (by omega : 0 + 24 ≤ 24) (cmV_one _) (spl24 _ _) ?_; intro wi Vi Ki; (try simp only [Act.put, List.setIfInBounds_toArray, List.set_cons_zero, List.set_cons_succ]); have Ti := Ki.up Th Tg.size; have ci := hconv wi; have Tj := Ti.alloc Ti.size (.cells #[.int .u8 m] 5); have b4 := q4 (wi.alloc (.cells #[.int .u8 m] 5)))))
  clear b3 ce Te Tf Ug Tg Vh Uh Th Vi Ki
  go_upto_region 24 with (first
    | (go_at_call 21; (with_reducible refine b4.mono ?_); rintro e wk ⟨rfl, Uk⟩; have Tk := ups Tj Uk Tj.size)
    | (with_reducible refine at_list ?_; first
      | (with_reducible refine wl_alloc 37 rfl rfl zero37 ?_; intro wl Vl Ul; (try simp only [Act.put, List.setIfInBounds_toArray, List.set_cons_zero, List.set_cons_succ]); have Tl := ups Tk Ul Tk.size)
      | (refine wl_storef 37 Vl rfl rfl rfl rfl size37 rfl (by omega : 0 + 10 ≤ 10) (rpV_one _) (spl10 _ _) ?_; intro wm Vm Km; (try simp only [Act.put, List.setIfInBounds_toArray, List.set_cons_zero, List.set_cons_succ]); have Tm := Km.up Tl Tk.size)))
  clear b4 ci Ti Tj Uk Tk Vl Ul Tl Vm Km
  go_wp2
  go_ret
  exact ⟨rfl, Tm⟩
set_option maxHeartbeats 16000000 in
set_option maxRecDepth 100000 in
theorem one_R (S : List UInt8) (x m : Int) (w : World) (hN : Names w) (hl : S.length ≤ 500) (hm : 0 ≤ m ∧ m < 256) (hx : -9223372036854775808 ≤ x ∧ x < 9223372036854775808) {r : Rp} (hR : rdR S = some r) : Calls Tryd.prog 6 #[.string (bs S), .int .i64 x, .int .u8 m] w fun e w' => e = .returned (.bool true) ∧ Below w.heap.size w w' := by
  have hz := bs_size S
  have j0 : ¬ (500 : Int) < (S.length : Int) := by omega
  have a1 := awake_any w hN
  have p1 : ∀ W, Names W → Calls Tryd.prog 19 #[.string (bs S)] W fun e w' => e = .returned (.tuple #[.agg (cmV (Cm.zero 0)), .int .i64 140]) ∧ Below W.heap.size W w' := fun W hN => by
    have h := ReadCommand_any S W hN (by omega)
    rw [rdcV_none (by cases hq : rdC S with | none => rfl | some C => exact absurd hR (by rw [rd_apart (by rw [hq]; simp)]; simp))] at h
    exact h
  have p2 : ∀ W, Calls Tryd.prog 21 #[.string (bs S)] W fun e w' => e = .returned (.tuple #[.agg (rpV r), .int .i64 0]) ∧ Below W.heap.size W w' := fun W => by
    have h := ReadReply_any S W (by omega)
    rw [rdrV_some hR] at h
    exact h
  have p9 : ∀ W, Calls Tryd.prog 11 #[.agg (rpV r)] W fun e w' => e = .returned (.tuple #[.string (bs S), .int .i64 0]) ∧ Below W.heap.size W w' := fun W => by
    obtain ⟨q2, q3⟩ := rdR_some hR
    have h := Reply_any r W q2
    unfold repV at h
    rw [← q3] at h
    exact h
  have hpos : 0 < S.length := by
    cases S with
    | nil => cases hR
    | cons b R => simp
  obtain ⟨u, hu⟩ : ∃ u, IntKind.u64.wrap x = u := ⟨_, rfl⟩
  have hu0 : 0 ≤ u := by rw [← hu, IntKind.wrap_u64]; omega
  have hn64 : IntKind.u64.wrap (S.length : Int) = (S.length : Int) := by rw [IntKind.wrap_u64]; omega
  obtain ⟨j, hj⟩ : ∃ j : Nat, u % (S.length : Int) = (j : Int) := ⟨(u % (S.length : Int)).toNat, by have := Int.emod_nonneg u (show (S.length : Int) ≠ 0 by omega); omega⟩
  have hjl : j < S.length := by have := Int.emod_lt_of_pos u (show (0 : Int) < (S.length : Int) by omega); omega
  have hrem : u.tmod (S.length : Int) = (j : Int) := by rw [Int.tmod_eq_emod_of_nonneg hu0, hj]
  have hj64 : IntKind.i64.wrap (j : Int) = (j : Int) := by rw [IntKind.wrap_i64]; omega
  obtain ⟨M, hM⟩ : ∃ M : UInt8, (M.toNat : Int) = m := ⟨UInt8.ofNat m.toNat, by rw [UInt8.toNat_ofNat', Nat.mod_eq_of_lt (by omega)]; omega⟩
  obtain ⟨e1, e2, e3, e4⟩ := less_rep hR j hjl M
  have hcut : (bs S).extract 0 j = bs (S.take j) := by rw [bs_extract]; rfl
  have q1 : ∀ W, Names W → Calls Tryd.prog 19 #[.string ((bs S).extract 0 j)] W fun e w' => e = .returned (.tuple #[.agg (cmV (Cm.zero 0)), .int .i64 140]) ∧ Below W.heap.size W w' := fun W hN => by
    have h := ReadCommand_any (S.take j) W hN (by rw [List.length_take]; omega)
    rw [rdcV_none e1, ← hcut] at h
    exact h
  have q2 : ∀ W, Calls Tryd.prog 21 #[.string ((bs S).extract 0 j)] W fun e w' => e = .returned (.tuple #[.agg (rpV Rp0), .int .i64 140]) ∧ Below W.heap.size W w' := fun W => by
    have h := ReadReply_any (S.take j) W (by rw [List.length_take]; omega)
    rw [rdrV_none e2, ← hcut] at h
    exact h
  have q3 : ∀ W, Names W → Calls Tryd.prog 19 #[.string (bs (S ++ [M]))] W fun e w' => e = .returned (.tuple #[.agg (cmV (Cm.zero 0)), .int .i64 140]) ∧ Below W.heap.size W w' := fun W hN => by
    have h := ReadCommand_any (S ++ [M]) W hN (by rw [List.length_append, List.length_singleton]; omega)
    rw [rdcV_none e3] at h
    exact h
  have q4 : ∀ W, Calls Tryd.prog 21 #[.string (bs (S ++ [M]))] W fun e w' => e = .returned (.tuple #[.agg (rpV Rp0), .int .i64 140]) ∧ Below W.heap.size W w' := fun W => by
    have h := ReadReply_any (S ++ [M]) W (by rw [List.length_append, List.length_singleton]; omega)
    rw [rdrV_none e4] at h
    exact h
  have hconv : ∀ W : World, (convert 61 9 (.slice (some ⟨W.heap.size, 0, none⟩) 1 1)).run Tryd.prog (W.alloc (.cells #[.int .u8 m] 5)) = .ok (.string (bs [M])) (W.alloc (.cells #[.int .u8 m] 5)) := fun W => by
    have h := conv_one W M
    rw [hM] at h
    exact h
  have hadd := add_sum S [M] (by rw [List.length_singleton]; omega)
  have jn0 : ((S.length : Int) == 0) = false := beq_eq_false_iff_ne.2 (by omega)
  have jn1 : ¬ (S.length : Int) = 0 := by omega
  have jj : (j : Int) ≤ (S.length : Int) := by omega
  clear e1 e2 e3 e4 hcut hR hj hM
  generalize bs (S ++ [M]) = Zm at *
  generalize bs [M] = Z1 at *
  generalize bs S = Z at *
  go_enter Tryd.func6, Tryd.ntmps6
  go_upto_region 5 with (go_at_call 23; (with_reducible refine a1.mono ?_); rintro e w1 ⟨rfl, T1⟩)
  have a2 := p1 w1 (hN.up T1)
  go_upto_region 6 with (first
    | (go_at_call 19; (with_reducible refine a2.mono ?_); rintro e w2 ⟨rfl, U2⟩; have T2 := ups T1 U2 T1.size)
    | (with_reducible refine at_list ?_; first
      | (with_reducible refine wl_alloc 32 rfl rfl zero32 ?_; intro w3 Z3 U3; (try simp only [Act.put, List.setIfInBounds_toArray, List.set_cons_zero, List.set_cons_succ]); have T3 := ups T2 U3 T2.size)
      | (refine wl_storef 32 Z3 rfl rfl rfl rfl size32 rfl (by omega : 0 + 24 ≤ 24) (cmV_one _) (spl24 _ _) ?_; intro w4 Z4 K4; (try simp only [Act.put, List.setIfInBounds_toArray, List.set_cons_zero, List.set_cons_succ]); have T4 := K4.up T3 T2.size)))
  have a3 := p2 w4
  have hT2 := T2.size
  clear a1 a2 T1 U2 T2 Z3 U3 T3 K4
  go_upto_region 7 with (first
    | (go_at_call 21; (with_reducible refine a3.mono ?_); rintro e w5 ⟨rfl, U5⟩; have T5 := ups T4 U5 T4.size; have Z5 := Z4.below U5)
    | (with_reducible refine at_list ?_; first
      | (with_reducible refine wl_alloc 37 rfl rfl zero37 ?_; intro w6 R6 U6; (try simp only [Act.put, List.setIfInBounds_toArray, List.set_cons_zero, List.set_cons_succ]); have T6 := ups T5 U6 T5.size; have Z6 := Z5.below U6)
      | (refine wl_storef 37 R6 rfl rfl rfl rfl size37 rfl (by omega : 0 + 10 ≤ 10) (rpV_one _) (spl10 _ _) ?_; intro w7 R7 K7; (try simp only [Act.put, List.setIfInBounds_toArray, List.set_cons_zero, List.set_cons_succ]); have T7 := K7.up T6 T5.size; have Z7 := K7.box Z6 (Nat.ne_of_lt Z5.lt))))
  clear a3 T4 Z4 U5 T5 Z5 R6 U6 T6 Z6 K7
  have a4 := p9 w7
  go_upto_region 19 with (first
    | (go_at_call 11; (with_reducible refine a4.mono ?_); rintro e w8 ⟨rfl, U8⟩; have T8 := ups T7 U8 T7.size)
    | (with_reducible refine at_list ?_; first
      | (refine wl_loadf 37 R7 rfl rfl rfl Tryd.underlying37 rfl size37 (by omega : 0 + 10 ≤ 10) (rpV_all _) ?_; (try simp only [Act.put, List.setIfInBounds_toArray, List.set_cons_zero, List.set_cons_succ]))
      | (refine wl_run (xl_loadf 37 R7 rfl rfl Tryd.underlying37 rfl size37 (by omega : 0 + 10 ≤ 10) (rpV_all _)) (wanted_f rfl rfl rfl rfl) ?_; (try simp only [Act.put, List.setIfInBounds_toArray, List.set_cons_zero, List.set_cons_succ]))
      | (refine wl_run (xl_buildf 37 built37_0 rfl) (wanted_f rfl rfl rfl rfl) ?_; (try simp only [Act.put, List.setIfInBounds_toArray, List.set_cons_zero, List.set_cons_succ]))
      | (refine wl_run (xl_nef37 (nself _) rfl rfl rfl) (wanted_f rfl rfl rfl rfl) ?_; (try simp only [Act.put, List.setIfInBounds_toArray, List.set_cons_zero, List.set_cons_succ]))
      | (refine wl_run (xl_loadf 32 Z7 rfl rfl Tryd.underlying32 rfl size32 (by omega : 0 + 24 ≤ 24) (cmV_all _)) (wanted_f rfl rfl rfl rfl) ?_; (try simp only [Act.put, List.setIfInBounds_toArray, List.set_cons_zero, List.set_cons_succ]))
      | (refine wl_run (xl_buildf 32 built32_0 rfl) (wanted_f rfl rfl rfl rfl) ?_; (try simp only [Act.put, List.setIfInBounds_toArray, List.set_cons_zero, List.set_cons_succ]))
      | (refine wl_run (xl_nef32 (nself _) rfl rfl rfl) (wanted_f rfl rfl rfl rfl) ?_; (try simp only [Act.put, List.setIfInBounds_toArray, List.set_cons_zero, List.set_cons_succ]))))
  clear a4 Z7 R7 T7
  go_upto_region 20 with fail
  have b1 := q1 w8 (hN.up T8)
  clear hu hu0 hn64 hrem hj64 jn0 jn1 jj hjl
  go_upto_region 21 with (first
    | (go_at_call 19; (with_reducible refine b1.mono ?_); rintro e w9 ⟨rfl, U9⟩; have T9 := ups T8 U9 T8.size)
    | (with_reducible refine at_list ?_; first
      | (with_reducible refine wl_alloc 32 rfl rfl zero32 ?_; intro wa Va Ua; (try simp only [Act.put, List.setIfInBounds_toArray, List.set_cons_zero, List.set_cons_succ]); have Ta := ups T9 Ua T9.size)
      | (refine wl_storef 32 Va rfl rfl rfl rfl size32 rfl (by omega : 0 + 24 ≤ 24) (cmV_one _) (spl24 _ _) ?_; intro wb Vb Kb; (try simp only [Act.put, List.setIfInBounds_toArray, List.set_cons_zero, List.set_cons_succ]); have Tb := Kb.up Ta T9.size; have b2 := q2 wb)))
  clear b1 T8 U9 T9 Va Ua Ta Vb Kb
  go_upto_region 22 with (first
    | (go_at_call 21; (with_reducible refine b2.mono ?_); rintro e wc ⟨rfl, Uc⟩; have Tc := ups Tb Uc Tb.size)
    | (with_reducible refine at_list ?_; first
      | (with_reducible refine wl_alloc 37 rfl rfl zero37 ?_; intro wd Vd Ud; (try simp only [Act.put, List.setIfInBounds_toArray, List.set_cons_zero, List.set_cons_succ]); have Td := ups Tc Ud Tc.size)
      | (refine wl_storef 37 Vd rfl rfl rfl rfl size37 rfl (by omega : 0 + 10 ≤ 10) (rpV_one _) (spl10 _ _) ?_; intro we Ve Ke; (try simp only [Act.put, List.setIfInBounds_toArray, List.set_cons_zero, List.set_cons_succ]); have Te := Ke.up Td Tc.size; have ce := hconv we; have Tf := Te.alloc Te.size (.cells #[.int .u8 m] 5); have b3 := q3 _ (hN.up Tf))))
  clear b2 Tb Uc Tc Vd Ud Td Ve Ke
  go_upto_region 23 with (first
    | (go_at_call 19; (with_reducible refine b3.mono ?_); rintro e wg ⟨rfl, Ug⟩; have Tg := ups Tf Ug Tf.size)
    | (with_reducible refine at_list ?_; first
      | (with_reducible refine wl_alloc 32 rfl rfl zero32 ?_; intro wh Vh Uh; (try simp only [Act.put, List.setIfInBounds_toArray, List.set_cons_zero, List.set_cons_succ]); have Th := ups Tg Uh Tg.size)
      | (refine wl_storef 32 Vh rfl rfl rfl rfl size32 rfl (by omega : 0 + 24 ≤ 24) (cmV_one _) (spl24 _ _) ?_; intro wi Vi Ki; (try simp only [Act.put, List.setIfInBounds_toArray, List.set_cons_zero, List.set_cons_succ]); have Ti := Ki.up Th Tg.size; have ci := hconv wi; have Tj := Ti.alloc Ti.size (.cells #[.int .u8 m] 5); have b4 := q4 (wi.alloc (.cells #[.int .u8 m] 5)))))
  clear b3 ce Te Tf Ug Tg Vh Uh Th Vi Ki
  go_upto_region 24 with (first
    | (go_at_call 21; (with_reducible refine b4.mono ?_); rintro e wk ⟨rfl, Uk⟩; have Tk := ups Tj Uk Tj.size)
    | (with_reducible refine at_list ?_; first
      | (with_reducible refine wl_alloc 37 rfl rfl zero37 ?_; intro wl Vl Ul; (try simp only [Act.put, List.setIfInBounds_toArray, List.set_cons_zero, List.set_cons_succ]); have Tl := ups Tk Ul Tk.size)
      | (refine wl_storef 37 Vl rfl rfl rfl rfl size37 rfl (by omega : 0 + 10 ≤ 10) (rpV_one _) (spl10 _ _) ?_; intro wm Vm Km; (try simp only [Act.put, List.setIfInBounds_toArray, List.set_cons_zero, List.set_cons_succ]); have Tm := Km.up Tl Tk.size)))
  clear b4 ci Ti Tj Uk Tk Vl Ul Tl Vm Km
  go_wp2
  go_ret
  exact ⟨rfl, Tm⟩
theorem CommandOne_walk (s : ByteArray) (x m : Int) (w : World) (hN : Names w) (hx : -9223372036854775808 ≤ x ∧ x < 9223372036854775808) (hm : 0 ≤ m ∧ m < 256) : Calls Tryd.prog 6 #[.string s, .int .i64 x, .int .u8 m] w fun e w' => e = .returned (.bool true) ∧ Below w.heap.size w w' := by
  rw [bs_of s]
  by_cases hl : 500 < s.data.toList.length
  · exact one_long _ x m w hN hl
  · cases hC : rdC s.data.toList with
    | some C => exact one_C _ x m w hN (by omega) hm hx hC
    | none =>
      cases hR : rdR s.data.toList with
      | some r => exact one_R _ x m w hN (by omega) hm hx hR
      | none => exact one_none _ x m w hN (by omega) hC hR
end Go.Proofs.YtamjnekdfhocdaaDoor
