/- What packet.Text answers of a packet that has no text. Condition: the library's table of powers of ten holds them. -/
import Derived.Test.YtdmgalcfgignpaaDoorPkT
namespace Go.Proofs.YtdmgalcfgignpaaDoor
open Go.RowKit W
set_option linter.unusedVariables false
set_option maxHeartbeats 4000000 in
set_option maxRecDepth 100000 in
theorem Text_bad1 (i c l t : Int) (wi : Word i) (gc : c < 0) (w : World) (ht : Tab w) :
    Calls Tryd.prog 8 #[.agg #[.int .u64 i, .int .i64 c, .int .i64 l, .int .u64 t]] w fun e w' => e = .returned (.tuple #[.string ⟨#[]⟩, .int .i64 2]) ∧ Below w.heap.size w w' := by
  have hN := numbers_any
  have h0 := fun w => id_any i c l t w
  have h1 := fun w => class_no i c l t w gc
  have F0 := fun w => FormatU_any i wi w
  have x0 := ix0
  have x1 := ix1
  obtain ⟨i0, hi, hz0, hz1, hz2⟩ := info_parts infoS
  have BX := Box.new w 24 #[.int .u64 i, .int .i64 c, .int .i64 l, .int .u64 t]
  have T := up1 w (.cells #[.int .u64 i, .int .i64 c, .int .i64 l, .int .u64 t] 24)
  generalize hS : strV ⟨i, c, l, t⟩ = S
  have t0 : S.take 1 = S.take 0 ++ [.string (dec i.toNat)] := by rw [← hS]; rfl
  have t1 : S.take 2 = S.take 1 ++ [.string (dec c.toNat)] := by rw [← hS]; rfl
  replace t0 := Lib.hid t0
  replace t1 := Lib.hid t1
  clear hS
  go_enter Tryd.func8, Tryd.ntmps8
  go_wp2_with (first
    | (go_at_call 22; (with_reducible refine (hN _).mono ?_); rintro e w1 ⟨rfl, hb1⟩; replace BX := BX.below hb1; replace T := ups T hb1 T.size; clear hb1))
  go_loopw [4, 10] (fun v j wr => ∃ k : Nat, k ≤ 1 ∧ j = .int .i64 k ∧ wr.ownsRow (w.heap.size + 1) 9 1 v k (S.take k) ∧ Box wr w.heap.size #[.int .u64 i, .int .i64 c, .int .i64 l, .int .u64 t] 24 ∧ Below w.heap.size w wr) (fun _ j _ => 4 - (Lib.intOf j).toNat)
  case atStart => exact ⟨0, by omega, rfl, World.ownsRow_nil _ _ _ _, BX, T⟩
  case round =>
    obtain ⟨k, hk, rfl, hown, hbox, hbw⟩ := hrel
    have c0 : wr.cell? ⟨w.heap.size, 0, none⟩ = some (.int .u64 i) := hbox.cell 0
    have c1 : wr.cell? ⟨w.heap.size, 1, none⟩ = some (.int .i64 c) := hbox.cell 1
    have c2 : wr.cell? ⟨w.heap.size, 2, none⟩ = some (.int .i64 l) := hbox.cell 2
    have c3 : wr.cell? ⟨w.heap.size, 3, none⟩ = some (.int .u64 t) := hbox.cell 3
    rcases (by omega : k = 0 ∨ k = 1) with rfl | rfl
    · go_wp2_with (first
        | (go_at_call 36; (with_reducible refine (h0 _).mono ?_); rintro e w2 ⟨rfl, hb2⟩; replace hown := own_below hown hb2; replace hbox := hbox.below hb2; replace hbw := ups hbw hb2 hbw.size; clear hb2)
        | (go_at_call 23; (with_reducible refine (F0 _ (ht.below hbw)).mono ?_); rintro e w3 ⟨rfl, hb3⟩; replace hown := own_below hown hb3; replace hbox := hbox.below hb3; replace hbw := ups hbw hb3 hbw.size; clear hb3)
        | (at_builtin; refine wpList_append_own _ rfl _ _ 52 rfl (w.heap.size + 1) 9 i0 (.string ⟨#[]⟩) 1 16 Tryd.underlying52 hi hz0 hz1 hz2 rfl (by decide) _ _ _ rfl (hown.alloc _) ⟨_, 0, none⟩ 1 1 [.string (dec i.toNat)] rfl rfl (one_news _ _ _) (one_str _) (by unfold maxLen; omega) (by omega) (by have := hbox.lt; simp; omega) ?_; intro v' w' hown' hgrow _))
      go_wp2
      rw [← t0.out] at hown'
      exact ⟨⟨1, by omega, rfl, hown', (hbox.alloc _).grown hgrow (fun e => by have := (hown.lt _ e.symm).1; omega), (hbw.alloc hbw.size _).grown hgrow (by have := hbw.size; simp; omega) (fun k e => by have := (hown.lt k e).1; omega)⟩, by simp [Lib.intOf]⟩
    · go_wp2_with (first
        | (go_at_call 37; (with_reducible refine (h1 _).mono ?_); rintro e w2 ⟨rfl, hb2⟩; replace hbw := ups hbw hb2 hbw.size; clear hb2))
      go_ret2
      exact ⟨rfl, hbw⟩
set_option maxHeartbeats 4000000 in
set_option maxRecDepth 100000 in
theorem Text_bad2 (i c l t : Int) (wi : Word i) (gc : 0 ≤ c) (wc : c < 9223372036854775808) (gl : l < 0) (w : World) (ht : Tab w) :
    Calls Tryd.prog 8 #[.agg #[.int .u64 i, .int .i64 c, .int .i64 l, .int .u64 t]] w fun e w' => e = .returned (.tuple #[.string ⟨#[]⟩, .int .i64 2]) ∧ Below w.heap.size w w' := by
  have hN := numbers_any
  have h0 := fun w => id_any i c l t w
  have h1 := fun w => class_ok i c l t w gc wc
  have h2 := fun w => length_no i c l t w gl
  have F0 := fun w => FormatU_any i wi w
  have F1 := fun w => FormatU_any c ⟨gc, by omega⟩ w
  have x0 := ix0
  have x1 := ix1
  have x2 := ix2
  obtain ⟨i0, hi, hz0, hz1, hz2⟩ := info_parts infoS
  have BX := Box.new w 24 #[.int .u64 i, .int .i64 c, .int .i64 l, .int .u64 t]
  have T := up1 w (.cells #[.int .u64 i, .int .i64 c, .int .i64 l, .int .u64 t] 24)
  generalize hS : strV ⟨i, c, l, t⟩ = S
  have t0 : S.take 1 = S.take 0 ++ [.string (dec i.toNat)] := by rw [← hS]; rfl
  have t1 : S.take 2 = S.take 1 ++ [.string (dec c.toNat)] := by rw [← hS]; rfl
  replace t0 := Lib.hid t0
  replace t1 := Lib.hid t1
  clear hS
  go_enter Tryd.func8, Tryd.ntmps8
  go_wp2_with (first
    | (go_at_call 22; (with_reducible refine (hN _).mono ?_); rintro e w1 ⟨rfl, hb1⟩; replace BX := BX.below hb1; replace T := ups T hb1 T.size; clear hb1))
  go_loopw [4, 10] (fun v j wr => ∃ k : Nat, k ≤ 2 ∧ j = .int .i64 k ∧ wr.ownsRow (w.heap.size + 1) 9 1 v k (S.take k) ∧ Box wr w.heap.size #[.int .u64 i, .int .i64 c, .int .i64 l, .int .u64 t] 24 ∧ Below w.heap.size w wr) (fun _ j _ => 4 - (Lib.intOf j).toNat)
  case atStart => exact ⟨0, by omega, rfl, World.ownsRow_nil _ _ _ _, BX, T⟩
  case round =>
    obtain ⟨k, hk, rfl, hown, hbox, hbw⟩ := hrel
    have c0 : wr.cell? ⟨w.heap.size, 0, none⟩ = some (.int .u64 i) := hbox.cell 0
    have c1 : wr.cell? ⟨w.heap.size, 1, none⟩ = some (.int .i64 c) := hbox.cell 1
    have c2 : wr.cell? ⟨w.heap.size, 2, none⟩ = some (.int .i64 l) := hbox.cell 2
    have c3 : wr.cell? ⟨w.heap.size, 3, none⟩ = some (.int .u64 t) := hbox.cell 3
    rcases (by omega : k = 0 ∨ k = 1 ∨ k = 2) with rfl | rfl | rfl
    · go_wp2_with (first
        | (go_at_call 36; (with_reducible refine (h0 _).mono ?_); rintro e w2 ⟨rfl, hb2⟩; replace hown := own_below hown hb2; replace hbox := hbox.below hb2; replace hbw := ups hbw hb2 hbw.size; clear hb2)
        | (go_at_call 23; (with_reducible refine (F0 _ (ht.below hbw)).mono ?_); rintro e w3 ⟨rfl, hb3⟩; replace hown := own_below hown hb3; replace hbox := hbox.below hb3; replace hbw := ups hbw hb3 hbw.size; clear hb3)
        | (at_builtin; refine wpList_append_own _ rfl _ _ 52 rfl (w.heap.size + 1) 9 i0 (.string ⟨#[]⟩) 1 16 Tryd.underlying52 hi hz0 hz1 hz2 rfl (by decide) _ _ _ rfl (hown.alloc _) ⟨_, 0, none⟩ 1 1 [.string (dec i.toNat)] rfl rfl (one_news _ _ _) (one_str _) (by unfold maxLen; omega) (by omega) (by have := hbox.lt; simp; omega) ?_; intro v' w' hown' hgrow _))
      go_wp2
      rw [← t0.out] at hown'
      exact ⟨⟨1, by omega, rfl, hown', (hbox.alloc _).grown hgrow (fun e => by have := (hown.lt _ e.symm).1; omega), (hbw.alloc hbw.size _).grown hgrow (by have := hbw.size; simp; omega) (fun k e => by have := (hown.lt k e).1; omega)⟩, by simp [Lib.intOf]⟩
    · go_wp2_with (first
        | (go_at_call 37; (with_reducible refine (h1 _).mono ?_); rintro e w2 ⟨rfl, hb2⟩; replace hown := own_below hown hb2; replace hbox := hbox.below hb2; replace hbw := ups hbw hb2 hbw.size; clear hb2)
        | (go_at_call 23; (with_reducible refine (F1 _ (ht.below hbw)).mono ?_); rintro e w3 ⟨rfl, hb3⟩; replace hown := own_below hown hb3; replace hbox := hbox.below hb3; replace hbw := ups hbw hb3 hbw.size; clear hb3)
        | (at_builtin; refine wpList_append_own _ rfl _ _ 52 rfl (w.heap.size + 1) 9 i0 (.string ⟨#[]⟩) 1 16 Tryd.underlying52 hi hz0 hz1 hz2 rfl (by decide) _ _ _ rfl (hown.alloc _) ⟨_, 0, none⟩ 1 1 [.string (dec c.toNat)] rfl rfl (one_news _ _ _) (one_str _) (by unfold maxLen; omega) (by omega) (by have := hbox.lt; simp; omega) ?_; intro v' w' hown' hgrow _))
      go_wp2
      rw [← t1.out] at hown'
      exact ⟨⟨2, by omega, rfl, hown', (hbox.alloc _).grown hgrow (fun e => by have := (hown.lt _ e.symm).1; omega), (hbw.alloc hbw.size _).grown hgrow (by have := hbw.size; simp; omega) (fun k e => by have := (hown.lt k e).1; omega)⟩, by simp [Lib.intOf]⟩
    · go_wp2_with (first
        | (go_at_call 38; (with_reducible refine (h2 _).mono ?_); rintro e w2 ⟨rfl, hb2⟩; replace hbw := ups hbw hb2 hbw.size; clear hb2))
      go_ret2
      exact ⟨rfl, hbw⟩
theorem Text_bad (p : Pk) (hp : p.ok) (g : ¬ p.good) (w : World) (ht : Tab w) :
    Calls Tryd.prog 8 #[.agg #[.int .u64 p.id, .int .i64 p.cls, .int .i64 p.len, .int .u64 p.tick]] w fun e w' => e = .returned (.tuple #[.string ⟨#[]⟩, .int .i64 2]) ∧ Below w.heap.size w w' := by
  obtain ⟨i, c, l, t⟩ := p
  obtain ⟨wi, ⟨_, wc⟩, ⟨_, wl⟩, wt⟩ := hp
  simp only at wi wc wl wt ⊢
  by_cases gc : c < 0
  · exact Text_bad1 i c l t wi gc w ht
  · have gl : l < 0 := by
      by_cases h : l < 0
      · exact h
      · exact absurd ⟨show 0 ≤ c by omega, show 0 ≤ l by omega⟩ g
    exact Text_bad2 i c l t wi (by omega) wc gl w ht
end Go.Proofs.YtdmgalcfgignpaaDoor
