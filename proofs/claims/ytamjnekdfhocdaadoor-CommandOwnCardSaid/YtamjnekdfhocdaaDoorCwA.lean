/- CommandReads: its walk. No condition but those of the row. -/
import Derived.Test.YtamjnekdfhocdaaDoorCmX
namespace Go.Proofs.YtamjnekdfhocdaaDoor
open Go.ChangeShapes Go.WideShapes Go.Deep Go.RowKit
set_option linter.unusedVariables false
set_option linter.unusedSimpArgs false
theorem rdcV_tuple (S : List UInt8) : ∃ C E, rdcV S = .tuple #[.agg (cmV C), .int .i64 E] := by
  unfold rdcV
  cases rdC S with
  | none => exact ⟨_, _, rfl⟩
  | some C => exact ⟨_, _, rfl⟩
theorem rdrV_tuple (S : List UInt8) : ∃ C E, rdrV S = .tuple #[.agg (rpV C), .int .i64 E] := by
  unfold rdrV
  cases rdR S with
  | none => exact ⟨_, _, rfl⟩
  | some C => exact ⟨_, _, rfl⟩
set_option maxHeartbeats 16000000 in
set_option maxRecDepth 100000 in
theorem CommandReads_walk (s : ByteArray) (w : World) (hN : Names w) : Calls Tryd.prog 4 #[.string s] w fun e w' => e = .returned (.bool true) ∧ Below w.heap.size w w' := by
  have hsz : s.size = s.data.toList.length := by rw [Array.length_toList]; rfl
  rw [bs_of s]
  generalize s.data.toList = S at *
  have hz := bs_size S
  by_cases hb : (500 : Int) < (S.length : Int)
  · go_enter Tryd.func4, Tryd.ntmps4
    go_wp2
    go_ret
    exact ⟨rfl, Below.refl _ _⟩
  · have hl : S.length < 100000 := by omega
    obtain ⟨C, E, hC⟩ := rdcV_tuple S
    obtain ⟨R, F, hR⟩ := rdrV_tuple S
    have p19 := fun W hN => ReadCommand_any S W hN hl
    have d20 := fun W => RReadCommand_any S W hl
    have p21 := fun W => ReadReply_any S W hl
    have d22 := fun W => RReadReply_any S W hl
    rw [hC] at p19 d20
    rw [hR] at p21 d22
    clear hC hR
    have a1 := p19 w hN
    go_enter Tryd.func4, Tryd.ntmps4
    go_upto_region 4 with (first
      | (go_at_call 19; (with_reducible refine a1.mono ?_); rintro e w1 ⟨rfl, T1⟩)
      | (refine wl_alloc 32 rfl rfl zero32 ?_; intro w2 Z2 T2; have S2 := ups T1 T2 T1.size)
      | (refine wl_store 32 Z2 rfl rfl rfl rfl size32 rfl (by omega : 0 + 24 ≤ 24) (cmV_one _) (spl24 _ _) ?_; intro w3 X3 K3; have S3 := K3.up S2 T1.size; have a2 := d20 w3))
    have L1 := T1.size
    clear a1 T1 Z2 T2 S2 K3 p19 d20
    go_upto_region 5 with (first
      | (go_at_call 20; (with_reducible refine a2.mono ?_); rintro e w4 ⟨rfl, T4⟩; have X4 := X3.below T4; have S4 := ups S3 T4 S3.size)
      | (refine wl_alloc 32 rfl rfl zero32 ?_; intro w5 Z5 T5; have X5 := X4.below T5; have S5 := ups S4 T5 S4.size)
      | (refine wl_store 32 Z5 rfl rfl rfl rfl size32 rfl (by omega : 0 + 24 ≤ 24) (cmV_one _) (spl24 _ _) ?_; intro w6 Y6 K6; have X6 := K6.box X5 (Nat.ne_of_lt X4.lt); have S6 := K6.up S5 S4.size; have a3 := p21 w6))
    clear a2 X3 S3 T4 X4 Z5 T5 X5 S5 K6 p21
    go_upto_region 6 with (first
      | (go_at_call 21; (with_reducible refine a3.mono ?_); rintro e w7 ⟨rfl, T7⟩; have X7 := X6.below T7; have Y7 := Y6.below T7; have S7 := ups S6 T7 S6.size)
      | (refine wl_alloc 37 rfl rfl zero37 ?_; intro w8 Z8 T8; have X8 := X7.below T8; have Y8 := Y7.below T8; have S8 := ups S7 T8 S7.size)
      | (refine wl_store 37 Z8 rfl rfl rfl rfl size37 rfl (by omega : 0 + 10 ≤ 10) (rpV_one _) (spl10 _ _) ?_; intro w9 Z9 K9; have X9 := K9.box X8 (Nat.ne_of_lt X7.lt); have Y9 := K9.box Y8 (Nat.ne_of_lt Y7.lt); have S9 := K9.up S8 S7.size; have a4 := d22 w9))
    clear a3 X6 Y6 S6 T7 X7 Y7 Z8 T8 X8 Y8 S8 K9 d22
    go_upto_region 7 with (first
      | (go_at_call 22; (with_reducible refine a4.mono ?_); rintro e wa ⟨rfl, Ta⟩; have Xa := X9.below Ta; have Ya := Y9.below Ta; have Za := Z9.below Ta; have Sa := ups S9 Ta S9.size)
      | (refine wl_alloc 37 rfl rfl zero37 ?_; intro wb Vb Tb; have Xb := Xa.below Tb; have Yb := Ya.below Tb; have Zb := Za.below Tb; have Sb := ups Sa Tb Sa.size)
      | (refine wl_store 37 Vb rfl rfl rfl rfl size37 rfl (by omega : 0 + 10 ≤ 10) (rpV_one _) (spl10 _ _) ?_; intro wc Vc Kc; have Xc := Kc.box Xb (Nat.ne_of_lt Xa.lt); have Yc := Kc.box Yb (Nat.ne_of_lt Ya.lt); have Zc := Kc.box Zb (Nat.ne_of_lt Za.lt); have Sc := Kc.up Sb Sa.size))
    clear a4 X9 Y9 Z9 S9 Ta Xa Ya Za Sa Vb Tb Xb Yb Zb Sb Kc
    go_wp2_with (first
      | (refine wl_load 32 Xc rfl rfl rfl Tryd.underlying32 rfl size32 (by omega : 0 + 24 ≤ 24) (cmV_all _) ?_)
      | (refine wl_load 32 Yc rfl rfl rfl Tryd.underlying32 rfl size32 (by omega : 0 + 24 ≤ 24) (cmV_all _) ?_)
      | (refine wl_run (xl_eqb32 (decide_eq_true rfl) rfl rfl rfl) rfl ?_)
      | (refine wl_run (xl_load 37 Zc rfl rfl Tryd.underlying37 rfl size37 (by omega : 0 + 10 ≤ 10) (rpV_all _)) rfl ?_)
      | (refine wl_run (xl_load 37 Vc rfl rfl Tryd.underlying37 rfl size37 (by omega : 0 + 10 ≤ 10) (rpV_all _)) rfl ?_)
      | (refine wl_run (xl_eqb37 (decide_eq_true rfl) rfl rfl rfl) rfl ?_))
    go_ret
    exact ⟨by simp, Sc⟩
end Go.Proofs.YtamjnekdfhocdaaDoor
