/- TableNone's walk. No condition but words. -/
import Derived.Test.YtenghpgnhmglpaaDoorRtO
import Derived.Test.YtenghpgnhmglpaaDoorRtW
namespace Go.Proofs.YtenghpgnhmglpaaDoor
open Go.RowKit Go.Shelf
set_option linter.unusedVariables false
set_option linter.unusedSimpArgs false
attribute [local go_sem] Oper.semAt_some
set_option maxRecDepth 100000 in
set_option maxHeartbeats 4000000 in
theorem TableNone_walk (x : Ac) (w : World) (ht : Tab w) (hx : x.ok) :
    Calls Tryd.prog 4 #[.agg #[.int .u8 x.kd, .int .i64 x.id, .int .u64 x.v, .int .i64 x.ask]] w fun e w' => e = .returned (.bool true) ∧ Below w.heap.size w w' := by
  go_enter Tryd.func4, Tryd.ntmps4
  have ba := ((Box.new w 31 #[.int .u8 x.kd, .int .i64 x.id, .int .u64 x.v, .int .i64 x.ask]).alloc (.cells #[.map none, .slice none 0 0, .int .i64 0] 50)).alloc (.cells #[.pointer none, .pointer (some ⟨w.heap.size + 1, 0, none⟩)] 23)
  have bz := (Box.new (w.alloc (.cells #[.int .u8 x.kd, .int .i64 x.id, .int .u64 x.v, .int .i64 x.ask] 31)) 50 #[.map none, .slice none 0 0, .int .i64 0]).alloc (.cells #[.pointer none, .pointer (some ⟨w.heap.size + 1, 0, none⟩)] 23)
  have bl := Box.new ((w.alloc (.cells #[.int .u8 x.kd, .int .i64 x.id, .int .u64 x.v, .int .i64 x.ask] 31)).alloc (.cells #[.map none, .slice none 0 0, .int .i64 0] 50)) 23 #[.pointer none, .pointer (some ⟨w.heap.size + 1, 0, none⟩)]
  have T0 : Below w.heap.size w (((w.alloc (.cells #[.int .u8 x.kd, .int .i64 x.id, .int .u64 x.v, .int .i64 x.ask] 31)).alloc (.cells #[.map none, .slice none 0 0, .int .i64 0] 50)).alloc (.cells #[.pointer none, .pointer (some ⟨w.heap.size + 1, 0, none⟩)] 23)) := (up2 w _ _).alloc (by simp; omega) _
  simp only [World.size_alloc] at bz bl
  go_upto_region 4 with fail
  obtain ⟨W0, hW0⟩ : ∃ X, ((w.alloc (.cells #[.int .u8 x.kd, .int .i64 x.id, .int .u64 x.v, .int .i64 x.ask] 31)).alloc (.cells #[.map none, .slice none 0 0, .int .i64 0] 50)).alloc (.cells #[.pointer none, .pointer (some ⟨w.heap.size + 1, 0, none⟩)] 23) = X := ⟨_, rfl⟩
  rw [hW0] at ba bz bl T0
  simp only [hW0]
  clear hW0
  have hq : ∀ k, k < 2 → ∃ p, NoneT W0 p ∧ ∀ X, Below W0.heap.size W0 X → X.cell? ⟨w.heap.size + 1 + 1, k, none⟩ = some (.pointer p) := fun k hk => by
    obtain rfl | rfl : k = 0 ∨ k = 1 := by omega
    · exact ⟨none, .inl rfl, fun X hX => (bl.below hX).cell 0⟩
    · exact ⟨some ⟨w.heap.size + 1, 0, none⟩, .inr ⟨_, rfl, bz⟩, fun X hX => (bl.below hX).cell 1⟩
  have hqh := Lib.hid hq
  clear hq bz bl
  go_loopw [5] (fun s5 wr => ∃ k : Nat, s5 = .int .i64 k ∧ k ≤ 2 ∧ Below W0.heap.size W0 wr) (fun s5 _ => 2 - (intOf s5).toNat)
  case atStart => exact ⟨0, rfl, by omega, Below.refl _ _⟩
  case round =>
    obtain ⟨k, rfl, hk, hW⟩ := hrel
    by_cases hlt : k < 2
    · have i1 : (k : Int) < 2 := by omega
      have i2 : (0 : Int) ≤ (k : Int) := by omega
      obtain ⟨p, hp, hc⟩ := hqh.out k hlt
      have c0 := hc wr hW
      have d1 := (ba.below hW).cell 1
      have d2 := (ba.below hW).cell 2
      have d3 := (ba.below hW).cell 3
      have d4 := ((ba.below hW).alloc (.cells #[.slice none 0 0] 29)).cell 3
      have hPt := put_no (hp.below hW) x.id x.v
      have hSt := set_no (hp.below hW) x.id x.v
      have hDp := drop_no (hp.below hW) x.id
      have hR : Rt (wr.alloc (.cells #[.slice none 0 0] 29)) wr.heap.size [] (.slice none 0 0) := ⟨Box.new _ _ _, by simp [rowC], .inl ⟨rfl, rfl⟩⟩
      have hSm := same_any (.pointer p) wr.heap.size [] _ x.ask (wr.alloc (.cells #[.slice none 0 0] 29)) ((hp.below hW).below (up1 wr _)).tells hR (by decide) hx.2.2.2
      have hw1 : IntKind.i64.wrap ((k : Int) + 1) = (k : Int) + 1 := i64_id (by omega)
      have e1 : ((1 : Int) != 1) = false := by simp
      go_wp2_with (first
        | (go_at_call 16; (with_reducible refine hPt.mono ?_); rintro e w1 ⟨rfl, rfl⟩)
        | (go_at_call 18; (with_reducible refine hSt.mono ?_); rintro e w1 ⟨rfl, rfl⟩)
        | (go_at_call 17; (with_reducible refine hDp.mono ?_); rintro e w1 ⟨rfl, rfl⟩)
        | (go_at_call 12; (with_reducible refine hSm.mono ?_); rintro e w2 ⟨rfl, hb2⟩))
      exact ⟨⟨k + 1, rfl, by omega, upp (ups hW (up1 wr _) hW.size) hb2⟩, by simp [intOf]; omega⟩
    · obtain rfl : k = 2 := by omega
      have i1 : ¬ ((2 : Nat) : Int) < 2 := by omega
      have hC := copy_no wr
      go_wp2_with (go_at_call 10; (with_reducible refine hC.mono ?_); rintro e w1 ⟨rfl, hb1⟩)
      go_ret
      exact ⟨rfl, upp (upp T0 hW) hb1⟩
end Go.Proofs.YtenghpgnhmglpaaDoor
