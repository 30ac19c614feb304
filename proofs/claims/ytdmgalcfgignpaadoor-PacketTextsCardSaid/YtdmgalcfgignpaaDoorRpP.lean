/- What the document's own Parse answers: the packet whose text it is, or none. Condition: at most 200 bytes. -/
import Derived.Test.YtdmgalcfgignpaaDoorRpW
import Derived.Test.YtdmgalcfgignpaaDoorRpT
import Derived.Test.YtdmgalcfgignpaaDoorPkP
namespace Go.Proofs.YtdmgalcfgignpaaDoor
open Go.RowKit W
set_option linter.unusedVariables false
theorem infoU : (Tryd.prog.info? 22).map (fun i => (i.zero, i.size, i.bytes)) = some (some (.int .u64 0), 1, 8) := by kernel_rfl
theorem one_int (x : Int) : ∀ u ∈ [Value.int .u64 x], u.oneCell' = true := by
  intro u hu
  simp only [List.mem_singleton] at hu
  subst hu; rfl
theorem off4 {w : World} {B g j : Nat} {v a b c d : Value} (hne : g ≠ B) (h : w.cell? ⟨g, j, none⟩ = some v) :
    ((((w.setCell ⟨B, 0, none⟩ a).setCell ⟨B, 1, none⟩ b).setCell ⟨B, 2, none⟩ c).setCell ⟨B, 3, none⟩ d).drew.cell? ⟨g, j, none⟩ = some v := by
  have e : ((((w.setCell ⟨B, 0, none⟩ a).setCell ⟨B, 1, none⟩ b).setCell ⟨B, 2, none⟩ c).setCell ⟨B, 3, none⟩ d).heap[g]? = w.heap[g]? := by
    rw [Below.heap_setCell _ _ _ _ hne, Below.heap_setCell _ _ _ _ hne, Below.heap_setCell _ _ _ _ hne, Below.heap_setCell _ _ _ _ hne]
  exact (World.cell?_of_block (a := ⟨g, j, none⟩) e).trans h
theorem bad_of {b : Bool} {x : Int} (h : ¬ (b = true ∧ x ≤ 9223372036854775807)) : b = false ∨ (b = true ∧ 9223372036854775807 < x) := by
  cases b
  · exact .inl rfl
  · exact .inr ⟨rfl, by have : ¬ x ≤ 9223372036854775807 := fun k => h ⟨rfl, k⟩; omega⟩
theorem Digits_str (l : List UInt8) (w : World) :
    Calls Tryd.prog 28 #[str l] w fun e w' => e = .returned (.tuple #[.int .u64 (dgN l), .bool (dgB l)]) ∧ Below w.heap.size w w' := Digits_any ⟨l.toArray⟩ w
set_option maxHeartbeats 4000000 in
set_option maxRecDepth 100000 in
theorem RParse_few (s : ByteArray) (w : World) (hs : s.size ≤ 200) (h : (cut s.data.toList).length ≠ 4) :
    Calls Tryd.prog 11 #[.string s] w fun e w' => e = .returned (.tuple #[.agg #[.int .u64 0, .int .i64 0, .int .i64 0, .int .u64 0], .int .i64 2]) ∧ Below w.heap.size w w' := by
  have hpos : 0 < (cut s.data.toList).length := List.length_pos_iff.2 (cut_ne _)
  have hW := fun w => Words_any s w hs
  have hn : (((cut s.data.toList).length : Int) == 4) = false := beq_eq_false_iff_ne.2 (by omega)
  have BX := Box.new w 24 #[.int .u64 0, .int .i64 0, .int .i64 0, .int .u64 0]
  have T := up1 w (.cells #[.int .u64 0, .int .i64 0, .int .i64 0, .int .u64 0] 24)
  generalize cut s.data.toList = C at hW hpos hn
  clear h
  go_enter Tryd.func11, Tryd.ntmps11
  go_upto_region 2 with (go_at_call 27; (with_reducible refine (hW _).mono ?_); rintro e w1 ⟨⟨v, rfl, hown⟩, hb⟩; replace BX := BX.below hb; replace T := ups T hb T.size; obtain ⟨g, cap, rfl, _, _, _, _, _⟩ := own_some hown hpos; clear hb hown)
  obtain ⟨c0, c1, c2, c3, f0, f1, f2, f3⟩ := BX.four
  clear hW
  go_wp2
  exact bodyPost_ret (v := .tuple #[.agg #[.int .u64 0, .int .i64 0, .int .i64 0, .int .u64 0], .int .i64 2]) (by simp [results, Tryd.results11, go_sem, c0, c1, c2, c3]) rfl ⟨rfl, (((T.setCell (Nat.le_refl _) _).setCell (Nat.le_refl _) _).setCell (Nat.le_refl _) _).setCell (Nat.le_refl _) _⟩
set_option maxHeartbeats 8000000 in
set_option maxRecDepth 100000 in
theorem RParse_at0 (s : ByteArray) (l0 l1 l2 l3 : List UInt8) (x0 x1 x2 x3 : Int) (y0 y1 y2 y3 : Bool) (w : World) (hs : s.size ≤ 200)
    (hcut : cut s.data.toList = [l0, l1, l2, l3]) (r1 : 0 ≤ x1) (r2 : 0 ≤ x2)
    (h0 : ∀ w, Calls Tryd.prog 28 #[str l0] w fun e w' => e = .returned (.tuple #[.int .u64 x0, .bool y0]) ∧ Below w.heap.size w w')
    (h1 : ∀ w, Calls Tryd.prog 28 #[str l1] w fun e w' => e = .returned (.tuple #[.int .u64 x1, .bool y1]) ∧ Below w.heap.size w w')
    (h2 : ∀ w, Calls Tryd.prog 28 #[str l2] w fun e w' => e = .returned (.tuple #[.int .u64 x2, .bool y2]) ∧ Below w.heap.size w w')
    (h3 : ∀ w, Calls Tryd.prog 28 #[str l3] w fun e w' => e = .returned (.tuple #[.int .u64 x3, .bool y3]) ∧ Below w.heap.size w w')
    (bad : y0 = false) :
    Calls Tryd.prog 11 #[.string s] w fun e w' => e = .returned (.tuple #[.agg #[.int .u64 0, .int .i64 0, .int .i64 0, .int .u64 0], .int .i64 2]) ∧ Below w.heap.size w w' := by
  have hW := fun w => Words_any s w hs
  rw [hcut] at hW
  have BX := Box.new w 24 #[.int .u64 0, .int .i64 0, .int .i64 0, .int .u64 0]
  have T := up1 w (.cells #[.int .u64 0, .int .i64 0, .int .i64 0, .int .u64 0] 24)
  obtain ⟨i0, hi, hz0, hz1, hz2⟩ := info_parts infoU
  clear hcut
  go_enter Tryd.func11, Tryd.ntmps11
  go_upto_region 2 with (go_at_call 27; (with_reducible refine (hW _).mono ?_); rintro e w1 ⟨⟨v, rfl, hown⟩, hb⟩; replace BX := BX.below hb; replace T := ups T hb T.size; clear hb; obtain ⟨g, cap, rfl, _, hlt, hcap, _, hcells⟩ := own_some hown (by simp); clear hown)
  have q0 : w1.cell? ⟨g, 0, none⟩ = some (str l0) := by have := hcells 0 (str l0) rfl; rwa [Lib.add_plain] at this
  have q1 : w1.cell? ⟨g, 1, none⟩ = some (str l1) := by have := hcells 1 (str l1) rfl; rwa [Lib.add_plain] at this
  have q2 : w1.cell? ⟨g, 2, none⟩ = some (str l2) := by have := hcells 2 (str l2) rfl; rwa [Lib.add_plain] at this
  have q3 : w1.cell? ⟨g, 3, none⟩ = some (str l3) := by have := hcells 3 (str l3) rfl; rwa [Lib.add_plain] at this
  replace q0 := Lib.hid q0
  replace q1 := Lib.hid q1
  replace q2 := Lib.hid q2
  replace q3 := Lib.hid q3
  have hBX := BX.lt
  obtain ⟨L, hL⟩ : ∃ L : List Value, L = [.int .u64 x0, .int .u64 x1, .int .u64 x2, .int .u64 x3] := ⟨_, rfl⟩
  have ta0 := Lib.hid (show L.take 1 = L.take 0 ++ [.int .u64 x0] by rw [hL]; rfl)
  have ta1 := Lib.hid (show L.take 2 = L.take 1 ++ [.int .u64 x1] by rw [hL]; rfl)
  have ta2 := Lib.hid (show L.take 3 = L.take 2 ++ [.int .u64 x2] by rw [hL]; rfl)
  have ta3 := Lib.hid (show L.take 4 = L.take 3 ++ [.int .u64 x3] by rw [hL]; rfl)
  replace hL := Lib.hid hL
  clear hW hcells
  go_upto_region 6 with (fail)
  go_loopw [5, 6] (fun v j wr => ∃ k : Nat, k ≤ 0 ∧ j = .int .i64 k ∧ wr.ownsRow w1.heap.size 22 1 v k (L.take k) ∧ Box wr w.heap.size #[.int .u64 0, .int .i64 0, .int .i64 0, .int .u64 0] 24 ∧ wr.heap[g]? = w1.heap[g]? ∧ w1.heap.size ≤ wr.heap.size ∧ Below w.heap.size w wr) (fun _ j _ => 4 - (Lib.intOf j).toNat)
  case atStart => exact ⟨0, by omega, rfl, World.ownsRow_nil _ _ _ _, BX, rfl, Nat.le_refl _, T⟩
  case round =>
    obtain ⟨k, hk, rfl, hown, hbox, hg, hsz, hbw⟩ := hrel
    have p0 : wr.cell? ⟨g, 0, none⟩ = some (str l0) := (World.cell?_of_block (a := ⟨g, 0, none⟩) hg).trans q0.out
    have p1 : wr.cell? ⟨g, 1, none⟩ = some (str l1) := (World.cell?_of_block (a := ⟨g, 1, none⟩) hg).trans q1.out
    have p2 : wr.cell? ⟨g, 2, none⟩ = some (str l2) := (World.cell?_of_block (a := ⟨g, 2, none⟩) hg).trans q2.out
    have p3 : wr.cell? ⟨g, 3, none⟩ = some (str l3) := (World.cell?_of_block (a := ⟨g, 3, none⟩) hg).trans q3.out
    replace hg := Lib.hid hg
    rcases (by omega : k = 0) with rfl
    · subst bad
      go_wp2_with (go_at_call 28; (with_reducible refine (h0 _).mono ?_); rintro e w2 ⟨rfl, hb⟩; replace hown := own_below hown hb; replace hbox := hbox.below hb; replace hbw := ups hbw hb hbw.size; replace hg := Lib.hid ((hb.block g (by omega)).trans hg.out); replace hsz := Nat.le_trans hsz hb.size; clear hb; obtain ⟨c0, c1, c2, c3, f0, f1, f2, f3⟩ := hbox.four)
      exact bodyPost_ret (v := .tuple #[.agg #[.int .u64 0, .int .i64 0, .int .i64 0, .int .u64 0], .int .i64 2]) (by simp [results, Tryd.results11, go_sem, c0, c1, c2, c3]) rfl ⟨rfl, (((hbw.setCell (Nat.le_refl _) _).setCell (Nat.le_refl _) _).setCell (Nat.le_refl _) _).setCell (Nat.le_refl _) _⟩
set_option maxHeartbeats 8000000 in
set_option maxRecDepth 100000 in
theorem RParse_at1 (s : ByteArray) (l0 l1 l2 l3 : List UInt8) (x0 x1 x2 x3 : Int) (y0 y1 y2 y3 : Bool) (w : World) (hs : s.size ≤ 200)
    (hcut : cut s.data.toList = [l0, l1, l2, l3]) (r1 : 0 ≤ x1) (r2 : 0 ≤ x2)
    (h0 : ∀ w, Calls Tryd.prog 28 #[str l0] w fun e w' => e = .returned (.tuple #[.int .u64 x0, .bool y0]) ∧ Below w.heap.size w w')
    (h1 : ∀ w, Calls Tryd.prog 28 #[str l1] w fun e w' => e = .returned (.tuple #[.int .u64 x1, .bool y1]) ∧ Below w.heap.size w w')
    (h2 : ∀ w, Calls Tryd.prog 28 #[str l2] w fun e w' => e = .returned (.tuple #[.int .u64 x2, .bool y2]) ∧ Below w.heap.size w w')
    (h3 : ∀ w, Calls Tryd.prog 28 #[str l3] w fun e w' => e = .returned (.tuple #[.int .u64 x3, .bool y3]) ∧ Below w.heap.size w w')
    (i0 : y0 = true) (bad : y1 = false ∨ (y1 = true ∧ 9223372036854775807 < x1)) :
    Calls Tryd.prog 11 #[.string s] w fun e w' => e = .returned (.tuple #[.agg #[.int .u64 0, .int .i64 0, .int .i64 0, .int .u64 0], .int .i64 2]) ∧ Below w.heap.size w w' := by
  have hW := fun w => Words_any s w hs
  rw [hcut] at hW
  subst i0
  have BX := Box.new w 24 #[.int .u64 0, .int .i64 0, .int .i64 0, .int .u64 0]
  have T := up1 w (.cells #[.int .u64 0, .int .i64 0, .int .i64 0, .int .u64 0] 24)
  obtain ⟨i0, hi, hz0, hz1, hz2⟩ := info_parts infoU
  clear hcut
  go_enter Tryd.func11, Tryd.ntmps11
  go_upto_region 2 with (go_at_call 27; (with_reducible refine (hW _).mono ?_); rintro e w1 ⟨⟨v, rfl, hown⟩, hb⟩; replace BX := BX.below hb; replace T := ups T hb T.size; clear hb; obtain ⟨g, cap, rfl, _, hlt, hcap, _, hcells⟩ := own_some hown (by simp); clear hown)
  have q0 : w1.cell? ⟨g, 0, none⟩ = some (str l0) := by have := hcells 0 (str l0) rfl; rwa [Lib.add_plain] at this
  have q1 : w1.cell? ⟨g, 1, none⟩ = some (str l1) := by have := hcells 1 (str l1) rfl; rwa [Lib.add_plain] at this
  have q2 : w1.cell? ⟨g, 2, none⟩ = some (str l2) := by have := hcells 2 (str l2) rfl; rwa [Lib.add_plain] at this
  have q3 : w1.cell? ⟨g, 3, none⟩ = some (str l3) := by have := hcells 3 (str l3) rfl; rwa [Lib.add_plain] at this
  replace q0 := Lib.hid q0
  replace q1 := Lib.hid q1
  replace q2 := Lib.hid q2
  replace q3 := Lib.hid q3
  have hBX := BX.lt
  obtain ⟨L, hL⟩ : ∃ L : List Value, L = [.int .u64 x0, .int .u64 x1, .int .u64 x2, .int .u64 x3] := ⟨_, rfl⟩
  have ta0 := Lib.hid (show L.take 1 = L.take 0 ++ [.int .u64 x0] by rw [hL]; rfl)
  have ta1 := Lib.hid (show L.take 2 = L.take 1 ++ [.int .u64 x1] by rw [hL]; rfl)
  have ta2 := Lib.hid (show L.take 3 = L.take 2 ++ [.int .u64 x2] by rw [hL]; rfl)
  have ta3 := Lib.hid (show L.take 4 = L.take 3 ++ [.int .u64 x3] by rw [hL]; rfl)
  replace hL := Lib.hid hL
  clear hW hcells
  go_upto_region 6 with (fail)
  go_loopw [5, 6] (fun v j wr => ∃ k : Nat, k ≤ 1 ∧ j = .int .i64 k ∧ wr.ownsRow w1.heap.size 22 1 v k (L.take k) ∧ Box wr w.heap.size #[.int .u64 0, .int .i64 0, .int .i64 0, .int .u64 0] 24 ∧ wr.heap[g]? = w1.heap[g]? ∧ w1.heap.size ≤ wr.heap.size ∧ Below w.heap.size w wr) (fun _ j _ => 4 - (Lib.intOf j).toNat)
  case atStart => exact ⟨0, by omega, rfl, World.ownsRow_nil _ _ _ _, BX, rfl, Nat.le_refl _, T⟩
  case round =>
    obtain ⟨k, hk, rfl, hown, hbox, hg, hsz, hbw⟩ := hrel
    have p0 : wr.cell? ⟨g, 0, none⟩ = some (str l0) := (World.cell?_of_block (a := ⟨g, 0, none⟩) hg).trans q0.out
    have p1 : wr.cell? ⟨g, 1, none⟩ = some (str l1) := (World.cell?_of_block (a := ⟨g, 1, none⟩) hg).trans q1.out
    have p2 : wr.cell? ⟨g, 2, none⟩ = some (str l2) := (World.cell?_of_block (a := ⟨g, 2, none⟩) hg).trans q2.out
    have p3 : wr.cell? ⟨g, 3, none⟩ = some (str l3) := (World.cell?_of_block (a := ⟨g, 3, none⟩) hg).trans q3.out
    replace hg := Lib.hid hg
    rcases (by omega : k = 0 ∨ k = 1) with rfl | rfl
    · go_wp2_with (first
        | (go_at_call 28; (with_reducible refine (h0 _).mono ?_); rintro e w2 ⟨rfl, hb⟩; replace hown := own_below hown hb; replace hbox := hbox.below hb; replace hbw := ups hbw hb hbw.size; replace hg := Lib.hid ((hb.block g (by omega)).trans hg.out); replace hsz := Nat.le_trans hsz hb.size; clear hb)
        | (at_builtin; refine wpList_append_own _ rfl _ _ 65 rfl w1.heap.size 22 i0 (.int .u64 0) 1 8 Tryd.underlying65 hi hz0 hz1 hz2 rfl (by decide) _ _ _ rfl (hown.alloc _) ⟨_, 0, none⟩ 1 1 [.int .u64 x0] rfl rfl (one_news _ _ _) (one_int _) (by unfold maxLen; omega) (by omega) (by simp; omega) ?_; intro v' w' hown' hgrow _))
      go_wp2
      rw [← ta0.out] at hown'
      exact ⟨⟨1, by omega, rfl, hown', (hbox.alloc _).grown hgrow (fun e => by have := (hown.lt _ e.symm).1; omega), (hgrow.block g (by simp; omega) (fun e => by have := (hown.lt _ e.symm).1; omega)).trans ((Below.heap_alloc _ _ _ (by omega)).trans hg.out), (by have := hgrow.size; simp at this; omega), (hbw.alloc hbw.size _).grown hgrow (by have := hbw.size; simp; omega) (fun k e => by have := (hown.lt k e).1; omega)⟩, by simp [Lib.intOf]⟩
    · rcases bad with rfl | ⟨rfl, bad⟩
      · go_wp2_with (go_at_call 28; (with_reducible refine (h1 _).mono ?_); rintro e w2 ⟨rfl, hb⟩; replace hown := own_below hown hb; replace hbox := hbox.below hb; replace hbw := ups hbw hb hbw.size; replace hg := Lib.hid ((hb.block g (by omega)).trans hg.out); replace hsz := Nat.le_trans hsz hb.size; clear hb; obtain ⟨c0, c1, c2, c3, f0, f1, f2, f3⟩ := hbox.four)
        exact bodyPost_ret (v := .tuple #[.agg #[.int .u64 0, .int .i64 0, .int .i64 0, .int .u64 0], .int .i64 2]) (by simp [results, Tryd.results11, go_sem, c0, c1, c2, c3]) rfl ⟨rfl, (((hbw.setCell (Nat.le_refl _) _).setCell (Nat.le_refl _) _).setCell (Nat.le_refl _) _).setCell (Nat.le_refl _) _⟩
      · go_wp2_with (go_at_call 28; (with_reducible refine (h1 _).mono ?_); rintro e w2 ⟨rfl, hb⟩; replace hown := own_below hown hb; replace hbox := hbox.below hb; replace hbw := ups hbw hb hbw.size; replace hg := Lib.hid ((hb.block g (by omega)).trans hg.out); replace hsz := Nat.le_trans hsz hb.size; clear hb; obtain ⟨c0, c1, c2, c3, f0, f1, f2, f3⟩ := hbox.four)
        exact bodyPost_ret (v := .tuple #[.agg #[.int .u64 0, .int .i64 0, .int .i64 0, .int .u64 0], .int .i64 2]) (by simp [results, Tryd.results11, go_sem, c0, c1, c2, c3]) rfl ⟨rfl, (((hbw.setCell (Nat.le_refl _) _).setCell (Nat.le_refl _) _).setCell (Nat.le_refl _) _).setCell (Nat.le_refl _) _⟩
set_option maxHeartbeats 8000000 in
set_option maxRecDepth 100000 in
theorem RParse_at2 (s : ByteArray) (l0 l1 l2 l3 : List UInt8) (x0 x1 x2 x3 : Int) (y0 y1 y2 y3 : Bool) (w : World) (hs : s.size ≤ 200)
    (hcut : cut s.data.toList = [l0, l1, l2, l3]) (r1 : 0 ≤ x1) (r2 : 0 ≤ x2)
    (h0 : ∀ w, Calls Tryd.prog 28 #[str l0] w fun e w' => e = .returned (.tuple #[.int .u64 x0, .bool y0]) ∧ Below w.heap.size w w')
    (h1 : ∀ w, Calls Tryd.prog 28 #[str l1] w fun e w' => e = .returned (.tuple #[.int .u64 x1, .bool y1]) ∧ Below w.heap.size w w')
    (h2 : ∀ w, Calls Tryd.prog 28 #[str l2] w fun e w' => e = .returned (.tuple #[.int .u64 x2, .bool y2]) ∧ Below w.heap.size w w')
    (h3 : ∀ w, Calls Tryd.prog 28 #[str l3] w fun e w' => e = .returned (.tuple #[.int .u64 x3, .bool y3]) ∧ Below w.heap.size w w')
    (i0 : y0 = true) (i1 : y1 = true) (m1 : x1 ≤ 9223372036854775807) (bad : y2 = false ∨ (y2 = true ∧ 9223372036854775807 < x2)) :
    Calls Tryd.prog 11 #[.string s] w fun e w' => e = .returned (.tuple #[.agg #[.int .u64 0, .int .i64 0, .int .i64 0, .int .u64 0], .int .i64 2]) ∧ Below w.heap.size w w' := by
  have hW := fun w => Words_any s w hs
  rw [hcut] at hW
  subst i0
  subst i1
  have BX := Box.new w 24 #[.int .u64 0, .int .i64 0, .int .i64 0, .int .u64 0]
  have T := up1 w (.cells #[.int .u64 0, .int .i64 0, .int .i64 0, .int .u64 0] 24)
  obtain ⟨i0, hi, hz0, hz1, hz2⟩ := info_parts infoU
  clear hcut
  go_enter Tryd.func11, Tryd.ntmps11
  go_upto_region 2 with (go_at_call 27; (with_reducible refine (hW _).mono ?_); rintro e w1 ⟨⟨v, rfl, hown⟩, hb⟩; replace BX := BX.below hb; replace T := ups T hb T.size; clear hb; obtain ⟨g, cap, rfl, _, hlt, hcap, _, hcells⟩ := own_some hown (by simp); clear hown)
  have q0 : w1.cell? ⟨g, 0, none⟩ = some (str l0) := by have := hcells 0 (str l0) rfl; rwa [Lib.add_plain] at this
  have q1 : w1.cell? ⟨g, 1, none⟩ = some (str l1) := by have := hcells 1 (str l1) rfl; rwa [Lib.add_plain] at this
  have q2 : w1.cell? ⟨g, 2, none⟩ = some (str l2) := by have := hcells 2 (str l2) rfl; rwa [Lib.add_plain] at this
  have q3 : w1.cell? ⟨g, 3, none⟩ = some (str l3) := by have := hcells 3 (str l3) rfl; rwa [Lib.add_plain] at this
  replace q0 := Lib.hid q0
  replace q1 := Lib.hid q1
  replace q2 := Lib.hid q2
  replace q3 := Lib.hid q3
  have hBX := BX.lt
  obtain ⟨L, hL⟩ : ∃ L : List Value, L = [.int .u64 x0, .int .u64 x1, .int .u64 x2, .int .u64 x3] := ⟨_, rfl⟩
  have ta0 := Lib.hid (show L.take 1 = L.take 0 ++ [.int .u64 x0] by rw [hL]; rfl)
  have ta1 := Lib.hid (show L.take 2 = L.take 1 ++ [.int .u64 x1] by rw [hL]; rfl)
  have ta2 := Lib.hid (show L.take 3 = L.take 2 ++ [.int .u64 x2] by rw [hL]; rfl)
  have ta3 := Lib.hid (show L.take 4 = L.take 3 ++ [.int .u64 x3] by rw [hL]; rfl)
  replace hL := Lib.hid hL
  clear hW hcells
  go_upto_region 6 with (fail)
  go_loopw [5, 6] (fun v j wr => ∃ k : Nat, k ≤ 2 ∧ j = .int .i64 k ∧ wr.ownsRow w1.heap.size 22 1 v k (L.take k) ∧ Box wr w.heap.size #[.int .u64 0, .int .i64 0, .int .i64 0, .int .u64 0] 24 ∧ wr.heap[g]? = w1.heap[g]? ∧ w1.heap.size ≤ wr.heap.size ∧ Below w.heap.size w wr) (fun _ j _ => 4 - (Lib.intOf j).toNat)
  case atStart => exact ⟨0, by omega, rfl, World.ownsRow_nil _ _ _ _, BX, rfl, Nat.le_refl _, T⟩
  case round =>
    obtain ⟨k, hk, rfl, hown, hbox, hg, hsz, hbw⟩ := hrel
    have p0 : wr.cell? ⟨g, 0, none⟩ = some (str l0) := (World.cell?_of_block (a := ⟨g, 0, none⟩) hg).trans q0.out
    have p1 : wr.cell? ⟨g, 1, none⟩ = some (str l1) := (World.cell?_of_block (a := ⟨g, 1, none⟩) hg).trans q1.out
    have p2 : wr.cell? ⟨g, 2, none⟩ = some (str l2) := (World.cell?_of_block (a := ⟨g, 2, none⟩) hg).trans q2.out
    have p3 : wr.cell? ⟨g, 3, none⟩ = some (str l3) := (World.cell?_of_block (a := ⟨g, 3, none⟩) hg).trans q3.out
    replace hg := Lib.hid hg
    rcases (by omega : k = 0 ∨ k = 1 ∨ k = 2) with rfl | rfl | rfl
    · go_wp2_with (first
        | (go_at_call 28; (with_reducible refine (h0 _).mono ?_); rintro e w2 ⟨rfl, hb⟩; replace hown := own_below hown hb; replace hbox := hbox.below hb; replace hbw := ups hbw hb hbw.size; replace hg := Lib.hid ((hb.block g (by omega)).trans hg.out); replace hsz := Nat.le_trans hsz hb.size; clear hb)
        | (at_builtin; refine wpList_append_own _ rfl _ _ 65 rfl w1.heap.size 22 i0 (.int .u64 0) 1 8 Tryd.underlying65 hi hz0 hz1 hz2 rfl (by decide) _ _ _ rfl (hown.alloc _) ⟨_, 0, none⟩ 1 1 [.int .u64 x0] rfl rfl (one_news _ _ _) (one_int _) (by unfold maxLen; omega) (by omega) (by simp; omega) ?_; intro v' w' hown' hgrow _))
      go_wp2
      rw [← ta0.out] at hown'
      exact ⟨⟨1, by omega, rfl, hown', (hbox.alloc _).grown hgrow (fun e => by have := (hown.lt _ e.symm).1; omega), (hgrow.block g (by simp; omega) (fun e => by have := (hown.lt _ e.symm).1; omega)).trans ((Below.heap_alloc _ _ _ (by omega)).trans hg.out), (by have := hgrow.size; simp at this; omega), (hbw.alloc hbw.size _).grown hgrow (by have := hbw.size; simp; omega) (fun k e => by have := (hown.lt k e).1; omega)⟩, by simp [Lib.intOf]⟩
    · go_wp2_with (first
        | (go_at_call 28; (with_reducible refine (h1 _).mono ?_); rintro e w2 ⟨rfl, hb⟩; replace hown := own_below hown hb; replace hbox := hbox.below hb; replace hbw := ups hbw hb hbw.size; replace hg := Lib.hid ((hb.block g (by omega)).trans hg.out); replace hsz := Nat.le_trans hsz hb.size; clear hb)
        | (at_builtin; refine wpList_append_own _ rfl _ _ 65 rfl w1.heap.size 22 i0 (.int .u64 0) 1 8 Tryd.underlying65 hi hz0 hz1 hz2 rfl (by decide) _ _ _ rfl (hown.alloc _) ⟨_, 0, none⟩ 1 1 [.int .u64 x1] rfl rfl (one_news _ _ _) (one_int _) (by unfold maxLen; omega) (by omega) (by simp; omega) ?_; intro v' w' hown' hgrow _))
      go_wp2
      rw [← ta1.out] at hown'
      exact ⟨⟨2, by omega, rfl, hown', (hbox.alloc _).grown hgrow (fun e => by have := (hown.lt _ e.symm).1; omega), (hgrow.block g (by simp; omega) (fun e => by have := (hown.lt _ e.symm).1; omega)).trans ((Below.heap_alloc _ _ _ (by omega)).trans hg.out), (by have := hgrow.size; simp at this; omega), (hbw.alloc hbw.size _).grown hgrow (by have := hbw.size; simp; omega) (fun k e => by have := (hown.lt k e).1; omega)⟩, by simp [Lib.intOf]⟩
    · rcases bad with rfl | ⟨rfl, bad⟩
      · go_wp2_with (go_at_call 28; (with_reducible refine (h2 _).mono ?_); rintro e w2 ⟨rfl, hb⟩; replace hown := own_below hown hb; replace hbox := hbox.below hb; replace hbw := ups hbw hb hbw.size; replace hg := Lib.hid ((hb.block g (by omega)).trans hg.out); replace hsz := Nat.le_trans hsz hb.size; clear hb; obtain ⟨c0, c1, c2, c3, f0, f1, f2, f3⟩ := hbox.four)
        exact bodyPost_ret (v := .tuple #[.agg #[.int .u64 0, .int .i64 0, .int .i64 0, .int .u64 0], .int .i64 2]) (by simp [results, Tryd.results11, go_sem, c0, c1, c2, c3]) rfl ⟨rfl, (((hbw.setCell (Nat.le_refl _) _).setCell (Nat.le_refl _) _).setCell (Nat.le_refl _) _).setCell (Nat.le_refl _) _⟩
      · go_wp2_with (go_at_call 28; (with_reducible refine (h2 _).mono ?_); rintro e w2 ⟨rfl, hb⟩; replace hown := own_below hown hb; replace hbox := hbox.below hb; replace hbw := ups hbw hb hbw.size; replace hg := Lib.hid ((hb.block g (by omega)).trans hg.out); replace hsz := Nat.le_trans hsz hb.size; clear hb; obtain ⟨c0, c1, c2, c3, f0, f1, f2, f3⟩ := hbox.four)
        exact bodyPost_ret (v := .tuple #[.agg #[.int .u64 0, .int .i64 0, .int .i64 0, .int .u64 0], .int .i64 2]) (by simp [results, Tryd.results11, go_sem, c0, c1, c2, c3]) rfl ⟨rfl, (((hbw.setCell (Nat.le_refl _) _).setCell (Nat.le_refl _) _).setCell (Nat.le_refl _) _).setCell (Nat.le_refl _) _⟩
set_option maxHeartbeats 8000000 in
set_option maxRecDepth 100000 in
theorem RParse_at3 (s : ByteArray) (l0 l1 l2 l3 : List UInt8) (x0 x1 x2 x3 : Int) (y0 y1 y2 y3 : Bool) (w : World) (hs : s.size ≤ 200)
    (hcut : cut s.data.toList = [l0, l1, l2, l3]) (r1 : 0 ≤ x1) (r2 : 0 ≤ x2)
    (h0 : ∀ w, Calls Tryd.prog 28 #[str l0] w fun e w' => e = .returned (.tuple #[.int .u64 x0, .bool y0]) ∧ Below w.heap.size w w')
    (h1 : ∀ w, Calls Tryd.prog 28 #[str l1] w fun e w' => e = .returned (.tuple #[.int .u64 x1, .bool y1]) ∧ Below w.heap.size w w')
    (h2 : ∀ w, Calls Tryd.prog 28 #[str l2] w fun e w' => e = .returned (.tuple #[.int .u64 x2, .bool y2]) ∧ Below w.heap.size w w')
    (h3 : ∀ w, Calls Tryd.prog 28 #[str l3] w fun e w' => e = .returned (.tuple #[.int .u64 x3, .bool y3]) ∧ Below w.heap.size w w')
    (i0 : y0 = true) (i1 : y1 = true) (m1 : x1 ≤ 9223372036854775807) (i2 : y2 = true) (m2 : x2 ≤ 9223372036854775807) (bad : y3 = false) :
    Calls Tryd.prog 11 #[.string s] w fun e w' => e = .returned (.tuple #[.agg #[.int .u64 0, .int .i64 0, .int .i64 0, .int .u64 0], .int .i64 2]) ∧ Below w.heap.size w w' := by
  have hW := fun w => Words_any s w hs
  rw [hcut] at hW
  subst i0
  subst i1
  subst i2
  have BX := Box.new w 24 #[.int .u64 0, .int .i64 0, .int .i64 0, .int .u64 0]
  have T := up1 w (.cells #[.int .u64 0, .int .i64 0, .int .i64 0, .int .u64 0] 24)
  obtain ⟨i0, hi, hz0, hz1, hz2⟩ := info_parts infoU
  clear hcut
  go_enter Tryd.func11, Tryd.ntmps11
  go_upto_region 2 with (go_at_call 27; (with_reducible refine (hW _).mono ?_); rintro e w1 ⟨⟨v, rfl, hown⟩, hb⟩; replace BX := BX.below hb; replace T := ups T hb T.size; clear hb; obtain ⟨g, cap, rfl, _, hlt, hcap, _, hcells⟩ := own_some hown (by simp); clear hown)
  have q0 : w1.cell? ⟨g, 0, none⟩ = some (str l0) := by have := hcells 0 (str l0) rfl; rwa [Lib.add_plain] at this
  have q1 : w1.cell? ⟨g, 1, none⟩ = some (str l1) := by have := hcells 1 (str l1) rfl; rwa [Lib.add_plain] at this
  have q2 : w1.cell? ⟨g, 2, none⟩ = some (str l2) := by have := hcells 2 (str l2) rfl; rwa [Lib.add_plain] at this
  have q3 : w1.cell? ⟨g, 3, none⟩ = some (str l3) := by have := hcells 3 (str l3) rfl; rwa [Lib.add_plain] at this
  replace q0 := Lib.hid q0
  replace q1 := Lib.hid q1
  replace q2 := Lib.hid q2
  replace q3 := Lib.hid q3
  have hBX := BX.lt
  obtain ⟨L, hL⟩ : ∃ L : List Value, L = [.int .u64 x0, .int .u64 x1, .int .u64 x2, .int .u64 x3] := ⟨_, rfl⟩
  have ta0 := Lib.hid (show L.take 1 = L.take 0 ++ [.int .u64 x0] by rw [hL]; rfl)
  have ta1 := Lib.hid (show L.take 2 = L.take 1 ++ [.int .u64 x1] by rw [hL]; rfl)
  have ta2 := Lib.hid (show L.take 3 = L.take 2 ++ [.int .u64 x2] by rw [hL]; rfl)
  have ta3 := Lib.hid (show L.take 4 = L.take 3 ++ [.int .u64 x3] by rw [hL]; rfl)
  replace hL := Lib.hid hL
  clear hW hcells
  go_upto_region 6 with (fail)
  go_loopw [5, 6] (fun v j wr => ∃ k : Nat, k ≤ 3 ∧ j = .int .i64 k ∧ wr.ownsRow w1.heap.size 22 1 v k (L.take k) ∧ Box wr w.heap.size #[.int .u64 0, .int .i64 0, .int .i64 0, .int .u64 0] 24 ∧ wr.heap[g]? = w1.heap[g]? ∧ w1.heap.size ≤ wr.heap.size ∧ Below w.heap.size w wr) (fun _ j _ => 4 - (Lib.intOf j).toNat)
  case atStart => exact ⟨0, by omega, rfl, World.ownsRow_nil _ _ _ _, BX, rfl, Nat.le_refl _, T⟩
  case round =>
    obtain ⟨k, hk, rfl, hown, hbox, hg, hsz, hbw⟩ := hrel
    have p0 : wr.cell? ⟨g, 0, none⟩ = some (str l0) := (World.cell?_of_block (a := ⟨g, 0, none⟩) hg).trans q0.out
    have p1 : wr.cell? ⟨g, 1, none⟩ = some (str l1) := (World.cell?_of_block (a := ⟨g, 1, none⟩) hg).trans q1.out
    have p2 : wr.cell? ⟨g, 2, none⟩ = some (str l2) := (World.cell?_of_block (a := ⟨g, 2, none⟩) hg).trans q2.out
    have p3 : wr.cell? ⟨g, 3, none⟩ = some (str l3) := (World.cell?_of_block (a := ⟨g, 3, none⟩) hg).trans q3.out
    replace hg := Lib.hid hg
    rcases (by omega : k = 0 ∨ k = 1 ∨ k = 2 ∨ k = 3) with rfl | rfl | rfl | rfl
    · go_wp2_with (first
        | (go_at_call 28; (with_reducible refine (h0 _).mono ?_); rintro e w2 ⟨rfl, hb⟩; replace hown := own_below hown hb; replace hbox := hbox.below hb; replace hbw := ups hbw hb hbw.size; replace hg := Lib.hid ((hb.block g (by omega)).trans hg.out); replace hsz := Nat.le_trans hsz hb.size; clear hb)
        | (at_builtin; refine wpList_append_own _ rfl _ _ 65 rfl w1.heap.size 22 i0 (.int .u64 0) 1 8 Tryd.underlying65 hi hz0 hz1 hz2 rfl (by decide) _ _ _ rfl (hown.alloc _) ⟨_, 0, none⟩ 1 1 [.int .u64 x0] rfl rfl (one_news _ _ _) (one_int _) (by unfold maxLen; omega) (by omega) (by simp; omega) ?_; intro v' w' hown' hgrow _))
      go_wp2
      rw [← ta0.out] at hown'
      exact ⟨⟨1, by omega, rfl, hown', (hbox.alloc _).grown hgrow (fun e => by have := (hown.lt _ e.symm).1; omega), (hgrow.block g (by simp; omega) (fun e => by have := (hown.lt _ e.symm).1; omega)).trans ((Below.heap_alloc _ _ _ (by omega)).trans hg.out), (by have := hgrow.size; simp at this; omega), (hbw.alloc hbw.size _).grown hgrow (by have := hbw.size; simp; omega) (fun k e => by have := (hown.lt k e).1; omega)⟩, by simp [Lib.intOf]⟩
    · go_wp2_with (first
        | (go_at_call 28; (with_reducible refine (h1 _).mono ?_); rintro e w2 ⟨rfl, hb⟩; replace hown := own_below hown hb; replace hbox := hbox.below hb; replace hbw := ups hbw hb hbw.size; replace hg := Lib.hid ((hb.block g (by omega)).trans hg.out); replace hsz := Nat.le_trans hsz hb.size; clear hb)
        | (at_builtin; refine wpList_append_own _ rfl _ _ 65 rfl w1.heap.size 22 i0 (.int .u64 0) 1 8 Tryd.underlying65 hi hz0 hz1 hz2 rfl (by decide) _ _ _ rfl (hown.alloc _) ⟨_, 0, none⟩ 1 1 [.int .u64 x1] rfl rfl (one_news _ _ _) (one_int _) (by unfold maxLen; omega) (by omega) (by simp; omega) ?_; intro v' w' hown' hgrow _))
      go_wp2
      rw [← ta1.out] at hown'
      exact ⟨⟨2, by omega, rfl, hown', (hbox.alloc _).grown hgrow (fun e => by have := (hown.lt _ e.symm).1; omega), (hgrow.block g (by simp; omega) (fun e => by have := (hown.lt _ e.symm).1; omega)).trans ((Below.heap_alloc _ _ _ (by omega)).trans hg.out), (by have := hgrow.size; simp at this; omega), (hbw.alloc hbw.size _).grown hgrow (by have := hbw.size; simp; omega) (fun k e => by have := (hown.lt k e).1; omega)⟩, by simp [Lib.intOf]⟩
    · go_wp2_with (first
        | (go_at_call 28; (with_reducible refine (h2 _).mono ?_); rintro e w2 ⟨rfl, hb⟩; replace hown := own_below hown hb; replace hbox := hbox.below hb; replace hbw := ups hbw hb hbw.size; replace hg := Lib.hid ((hb.block g (by omega)).trans hg.out); replace hsz := Nat.le_trans hsz hb.size; clear hb)
        | (at_builtin; refine wpList_append_own _ rfl _ _ 65 rfl w1.heap.size 22 i0 (.int .u64 0) 1 8 Tryd.underlying65 hi hz0 hz1 hz2 rfl (by decide) _ _ _ rfl (hown.alloc _) ⟨_, 0, none⟩ 1 1 [.int .u64 x2] rfl rfl (one_news _ _ _) (one_int _) (by unfold maxLen; omega) (by omega) (by simp; omega) ?_; intro v' w' hown' hgrow _))
      go_wp2
      rw [← ta2.out] at hown'
      exact ⟨⟨3, by omega, rfl, hown', (hbox.alloc _).grown hgrow (fun e => by have := (hown.lt _ e.symm).1; omega), (hgrow.block g (by simp; omega) (fun e => by have := (hown.lt _ e.symm).1; omega)).trans ((Below.heap_alloc _ _ _ (by omega)).trans hg.out), (by have := hgrow.size; simp at this; omega), (hbw.alloc hbw.size _).grown hgrow (by have := hbw.size; simp; omega) (fun k e => by have := (hown.lt k e).1; omega)⟩, by simp [Lib.intOf]⟩
    · subst bad
      go_wp2_with (go_at_call 28; (with_reducible refine (h3 _).mono ?_); rintro e w2 ⟨rfl, hb⟩; replace hown := own_below hown hb; replace hbox := hbox.below hb; replace hbw := ups hbw hb hbw.size; replace hg := Lib.hid ((hb.block g (by omega)).trans hg.out); replace hsz := Nat.le_trans hsz hb.size; clear hb; obtain ⟨c0, c1, c2, c3, f0, f1, f2, f3⟩ := hbox.four)
      exact bodyPost_ret (v := .tuple #[.agg #[.int .u64 0, .int .i64 0, .int .i64 0, .int .u64 0], .int .i64 2]) (by simp [results, Tryd.results11, go_sem, c0, c1, c2, c3]) rfl ⟨rfl, (((hbw.setCell (Nat.le_refl _) _).setCell (Nat.le_refl _) _).setCell (Nat.le_refl _) _).setCell (Nat.le_refl _) _⟩
set_option maxHeartbeats 8000000 in
set_option maxRecDepth 100000 in
theorem RParse_at4 (s : ByteArray) (l0 l1 l2 l3 : List UInt8) (x0 x1 x2 x3 : Int) (y0 y1 y2 y3 : Bool) (w : World) (hs : s.size ≤ 200)
    (hcut : cut s.data.toList = [l0, l1, l2, l3]) (r1 : 0 ≤ x1) (r2 : 0 ≤ x2)
    (h0 : ∀ w, Calls Tryd.prog 28 #[str l0] w fun e w' => e = .returned (.tuple #[.int .u64 x0, .bool y0]) ∧ Below w.heap.size w w')
    (h1 : ∀ w, Calls Tryd.prog 28 #[str l1] w fun e w' => e = .returned (.tuple #[.int .u64 x1, .bool y1]) ∧ Below w.heap.size w w')
    (h2 : ∀ w, Calls Tryd.prog 28 #[str l2] w fun e w' => e = .returned (.tuple #[.int .u64 x2, .bool y2]) ∧ Below w.heap.size w w')
    (h3 : ∀ w, Calls Tryd.prog 28 #[str l3] w fun e w' => e = .returned (.tuple #[.int .u64 x3, .bool y3]) ∧ Below w.heap.size w w')
    (i0 : y0 = true) (i1 : y1 = true) (m1 : x1 ≤ 9223372036854775807) (i2 : y2 = true) (m2 : x2 ≤ 9223372036854775807) (i3 : y3 = true) :
    Calls Tryd.prog 11 #[.string s] w fun e w' => e = .returned (.tuple #[.agg #[.int .u64 x0, .int .i64 x1, .int .i64 x2, .int .u64 x3], .int .i64 0]) ∧ Below w.heap.size w w' := by
  have hW := fun w => Words_any s w hs
  rw [hcut] at hW
  subst i0
  subst i1
  subst i2
  subst i3
  have w1' : IntKind.i64.wrap x1 = x1 := by rw [IntKind.wrap_i64]; omega
  have w2' : IntKind.i64.wrap x2 = x2 := by rw [IntKind.wrap_i64]; omega
  have BX := Box.new w 24 #[.int .u64 0, .int .i64 0, .int .i64 0, .int .u64 0]
  have T := up1 w (.cells #[.int .u64 0, .int .i64 0, .int .i64 0, .int .u64 0] 24)
  obtain ⟨i0, hi, hz0, hz1, hz2⟩ := info_parts infoU
  clear hcut
  go_enter Tryd.func11, Tryd.ntmps11
  go_upto_region 2 with (go_at_call 27; (with_reducible refine (hW _).mono ?_); rintro e w1 ⟨⟨v, rfl, hown⟩, hb⟩; replace BX := BX.below hb; replace T := ups T hb T.size; clear hb; obtain ⟨g, cap, rfl, _, hlt, hcap, _, hcells⟩ := own_some hown (by simp); clear hown)
  have q0 : w1.cell? ⟨g, 0, none⟩ = some (str l0) := by have := hcells 0 (str l0) rfl; rwa [Lib.add_plain] at this
  have q1 : w1.cell? ⟨g, 1, none⟩ = some (str l1) := by have := hcells 1 (str l1) rfl; rwa [Lib.add_plain] at this
  have q2 : w1.cell? ⟨g, 2, none⟩ = some (str l2) := by have := hcells 2 (str l2) rfl; rwa [Lib.add_plain] at this
  have q3 : w1.cell? ⟨g, 3, none⟩ = some (str l3) := by have := hcells 3 (str l3) rfl; rwa [Lib.add_plain] at this
  replace q0 := Lib.hid q0
  replace q1 := Lib.hid q1
  replace q2 := Lib.hid q2
  replace q3 := Lib.hid q3
  have hBX := BX.lt
  obtain ⟨L, hL⟩ : ∃ L : List Value, L = [.int .u64 x0, .int .u64 x1, .int .u64 x2, .int .u64 x3] := ⟨_, rfl⟩
  have ta0 := Lib.hid (show L.take 1 = L.take 0 ++ [.int .u64 x0] by rw [hL]; rfl)
  have ta1 := Lib.hid (show L.take 2 = L.take 1 ++ [.int .u64 x1] by rw [hL]; rfl)
  have ta2 := Lib.hid (show L.take 3 = L.take 2 ++ [.int .u64 x2] by rw [hL]; rfl)
  have ta3 := Lib.hid (show L.take 4 = L.take 3 ++ [.int .u64 x3] by rw [hL]; rfl)
  replace hL := Lib.hid hL
  clear hW hcells
  go_upto_region 6 with (fail)
  go_loopw [5, 6] (fun v j wr => ∃ k : Nat, k ≤ 4 ∧ j = .int .i64 k ∧ wr.ownsRow w1.heap.size 22 1 v k (L.take k) ∧ Box wr w.heap.size #[.int .u64 0, .int .i64 0, .int .i64 0, .int .u64 0] 24 ∧ wr.heap[g]? = w1.heap[g]? ∧ w1.heap.size ≤ wr.heap.size ∧ Below w.heap.size w wr) (fun _ j _ => 4 - (Lib.intOf j).toNat)
  case atStart => exact ⟨0, by omega, rfl, World.ownsRow_nil _ _ _ _, BX, rfl, Nat.le_refl _, T⟩
  case round =>
    obtain ⟨k, hk, rfl, hown, hbox, hg, hsz, hbw⟩ := hrel
    have p0 : wr.cell? ⟨g, 0, none⟩ = some (str l0) := (World.cell?_of_block (a := ⟨g, 0, none⟩) hg).trans q0.out
    have p1 : wr.cell? ⟨g, 1, none⟩ = some (str l1) := (World.cell?_of_block (a := ⟨g, 1, none⟩) hg).trans q1.out
    have p2 : wr.cell? ⟨g, 2, none⟩ = some (str l2) := (World.cell?_of_block (a := ⟨g, 2, none⟩) hg).trans q2.out
    have p3 : wr.cell? ⟨g, 3, none⟩ = some (str l3) := (World.cell?_of_block (a := ⟨g, 3, none⟩) hg).trans q3.out
    replace hg := Lib.hid hg
    rcases (by omega : k = 0 ∨ k = 1 ∨ k = 2 ∨ k = 3 ∨ k = 4) with rfl | rfl | rfl | rfl | rfl
    · go_wp2_with (first
        | (go_at_call 28; (with_reducible refine (h0 _).mono ?_); rintro e w2 ⟨rfl, hb⟩; replace hown := own_below hown hb; replace hbox := hbox.below hb; replace hbw := ups hbw hb hbw.size; replace hg := Lib.hid ((hb.block g (by omega)).trans hg.out); replace hsz := Nat.le_trans hsz hb.size; clear hb)
        | (at_builtin; refine wpList_append_own _ rfl _ _ 65 rfl w1.heap.size 22 i0 (.int .u64 0) 1 8 Tryd.underlying65 hi hz0 hz1 hz2 rfl (by decide) _ _ _ rfl (hown.alloc _) ⟨_, 0, none⟩ 1 1 [.int .u64 x0] rfl rfl (one_news _ _ _) (one_int _) (by unfold maxLen; omega) (by omega) (by simp; omega) ?_; intro v' w' hown' hgrow _))
      go_wp2
      rw [← ta0.out] at hown'
      exact ⟨⟨1, by omega, rfl, hown', (hbox.alloc _).grown hgrow (fun e => by have := (hown.lt _ e.symm).1; omega), (hgrow.block g (by simp; omega) (fun e => by have := (hown.lt _ e.symm).1; omega)).trans ((Below.heap_alloc _ _ _ (by omega)).trans hg.out), (by have := hgrow.size; simp at this; omega), (hbw.alloc hbw.size _).grown hgrow (by have := hbw.size; simp; omega) (fun k e => by have := (hown.lt k e).1; omega)⟩, by simp [Lib.intOf]⟩
    · go_wp2_with (first
        | (go_at_call 28; (with_reducible refine (h1 _).mono ?_); rintro e w2 ⟨rfl, hb⟩; replace hown := own_below hown hb; replace hbox := hbox.below hb; replace hbw := ups hbw hb hbw.size; replace hg := Lib.hid ((hb.block g (by omega)).trans hg.out); replace hsz := Nat.le_trans hsz hb.size; clear hb)
        | (at_builtin; refine wpList_append_own _ rfl _ _ 65 rfl w1.heap.size 22 i0 (.int .u64 0) 1 8 Tryd.underlying65 hi hz0 hz1 hz2 rfl (by decide) _ _ _ rfl (hown.alloc _) ⟨_, 0, none⟩ 1 1 [.int .u64 x1] rfl rfl (one_news _ _ _) (one_int _) (by unfold maxLen; omega) (by omega) (by simp; omega) ?_; intro v' w' hown' hgrow _))
      go_wp2
      rw [← ta1.out] at hown'
      exact ⟨⟨2, by omega, rfl, hown', (hbox.alloc _).grown hgrow (fun e => by have := (hown.lt _ e.symm).1; omega), (hgrow.block g (by simp; omega) (fun e => by have := (hown.lt _ e.symm).1; omega)).trans ((Below.heap_alloc _ _ _ (by omega)).trans hg.out), (by have := hgrow.size; simp at this; omega), (hbw.alloc hbw.size _).grown hgrow (by have := hbw.size; simp; omega) (fun k e => by have := (hown.lt k e).1; omega)⟩, by simp [Lib.intOf]⟩
    · go_wp2_with (first
        | (go_at_call 28; (with_reducible refine (h2 _).mono ?_); rintro e w2 ⟨rfl, hb⟩; replace hown := own_below hown hb; replace hbox := hbox.below hb; replace hbw := ups hbw hb hbw.size; replace hg := Lib.hid ((hb.block g (by omega)).trans hg.out); replace hsz := Nat.le_trans hsz hb.size; clear hb)
        | (at_builtin; refine wpList_append_own _ rfl _ _ 65 rfl w1.heap.size 22 i0 (.int .u64 0) 1 8 Tryd.underlying65 hi hz0 hz1 hz2 rfl (by decide) _ _ _ rfl (hown.alloc _) ⟨_, 0, none⟩ 1 1 [.int .u64 x2] rfl rfl (one_news _ _ _) (one_int _) (by unfold maxLen; omega) (by omega) (by simp; omega) ?_; intro v' w' hown' hgrow _))
      go_wp2
      rw [← ta2.out] at hown'
      exact ⟨⟨3, by omega, rfl, hown', (hbox.alloc _).grown hgrow (fun e => by have := (hown.lt _ e.symm).1; omega), (hgrow.block g (by simp; omega) (fun e => by have := (hown.lt _ e.symm).1; omega)).trans ((Below.heap_alloc _ _ _ (by omega)).trans hg.out), (by have := hgrow.size; simp at this; omega), (hbw.alloc hbw.size _).grown hgrow (by have := hbw.size; simp; omega) (fun k e => by have := (hown.lt k e).1; omega)⟩, by simp [Lib.intOf]⟩
    · go_wp2_with (first
        | (go_at_call 28; (with_reducible refine (h3 _).mono ?_); rintro e w2 ⟨rfl, hb⟩; replace hown := own_below hown hb; replace hbox := hbox.below hb; replace hbw := ups hbw hb hbw.size; replace hg := Lib.hid ((hb.block g (by omega)).trans hg.out); replace hsz := Nat.le_trans hsz hb.size; clear hb)
        | (at_builtin; refine wpList_append_own _ rfl _ _ 65 rfl w1.heap.size 22 i0 (.int .u64 0) 1 8 Tryd.underlying65 hi hz0 hz1 hz2 rfl (by decide) _ _ _ rfl (hown.alloc _) ⟨_, 0, none⟩ 1 1 [.int .u64 x3] rfl rfl (one_news _ _ _) (one_int _) (by unfold maxLen; omega) (by omega) (by simp; omega) ?_; intro v' w' hown' hgrow _))
      go_wp2
      rw [← ta3.out] at hown'
      exact ⟨⟨4, by omega, rfl, hown', (hbox.alloc _).grown hgrow (fun e => by have := (hown.lt _ e.symm).1; omega), (hgrow.block g (by simp; omega) (fun e => by have := (hown.lt _ e.symm).1; omega)).trans ((Below.heap_alloc _ _ _ (by omega)).trans hg.out), (by have := hgrow.size; simp at this; omega), (hbw.alloc hbw.size _).grown hgrow (by have := hbw.size; simp; omega) (fun k e => by have := (hown.lt k e).1; omega)⟩, by simp [Lib.intOf]⟩
    · rw [show L.take 4 = L by rw [hL.out]; rfl, hL.out] at hown
      obtain ⟨g2, cap2, rfl, hg2, hlt2, hcap2, _, hc2⟩ := own_some hown (by omega)
      have hgb : g2 ≠ w.heap.size := by omega
      have z0 : wr.cell? ⟨g2, 0, none⟩ = some (.int .u64 x0) := by have := hc2 0 (.int .u64 x0) rfl; rwa [Lib.add_plain] at this
      have z1 : wr.cell? ⟨g2, 1, none⟩ = some (.int .u64 x1) := by have := hc2 1 (.int .u64 x1) rfl; rwa [Lib.add_plain] at this
      have z2 : wr.cell? ⟨g2, 2, none⟩ = some (.int .u64 x2) := by have := hc2 2 (.int .u64 x2) rfl; rwa [Lib.add_plain] at this
      have z3 : wr.cell? ⟨g2, 3, none⟩ = some (.int .u64 x3) := by have := hc2 3 (.int .u64 x3) rfl; rwa [Lib.add_plain] at this
      obtain ⟨c0, c1, c2, c3, f0, f1, f2, f3⟩ := hbox.four
      clear p0 p1 p2 p3 hc2 hown
      go_upto_region 12 with (fail)
      go_region_held3 (fun w' => w'.cell? ⟨g2, 0, none⟩ = some (.int .u64 x0) ∧ w'.cell? ⟨g2, 1, none⟩ = some (.int .u64 x1) ∧ w'.cell? ⟨g2, 2, none⟩ = some (.int .u64 x2) ∧ w'.cell? ⟨g2, 3, none⟩ = some (.int .u64 x3))
        (first | exact ⟨z0, z1, z2, z3⟩ | exact ⟨off4 hgb z0, off4 hgb z1, off4 hgb z2, off4 hgb z3⟩)
        (fail)
      go_wp2
      exact bodyPost_ret (v := .tuple #[.agg #[.int .u64 x0, .int .i64 x1, .int .i64 x2, .int .u64 x3], .int .i64 0]) (by simp [results, Tryd.results11, go_sem, c0, c1, c2, c3]) rfl ⟨rfl, ((((hbw.setCell (Nat.le_refl _) _).setCell (Nat.le_refl _) _).setCell (Nat.le_refl _) _).setCell (Nat.le_refl _) _).drew⟩
theorem RParse_any (s : ByteArray) (hs : s.size ≤ 200) : ∃ (r : Pk) (x : Int), IsP s.data.toList r x ∧
    ∀ w, Calls Tryd.prog 11 #[.string s] w fun e w' => e = .returned (.tuple #[pkV r, .int .i64 x]) ∧ Below w.heap.size w w' := by
  by_cases h4 : (cut s.data.toList).length = 4
  · obtain ⟨l0, l1, l2, l3, hcut⟩ : ∃ l0 l1 l2 l3, cut s.data.toList = [l0, l1, l2, l3] := by
      match cut s.data.toList, h4 with
      | [a, b, c, d], _ => exact ⟨a, b, c, d, rfl⟩
    obtain ⟨k1, k2⟩ := IsP.of_words hcut (dg_is l0) (dg_is l1) (dg_is l2) (dg_is l3)
    have w1 := (dg_is l1).1
    have w2 := (dg_is l2).1
    have h0 := fun w => Digits_str l0 w
    have h1 := fun w => Digits_str l1 w
    have h2 := fun w => Digits_str l2 w
    have h3 := fun w => Digits_str l3 w
    by_cases i0 : dgB l0 = true
    · by_cases i1 : dgB l1 = true ∧ dgN l1 ≤ 9223372036854775807
      · by_cases i2 : dgB l2 = true ∧ dgN l2 ≤ 9223372036854775807
        · by_cases i3 : dgB l3 = true
          · exact ⟨⟨dgN l0, dgN l1, dgN l2, dgN l3⟩, 0, k1 i0 i1.1 i1.2 i2.1 i2.2 i3, fun w => RParse_at4 s l0 l1 l2 l3 _ _ _ _ _ _ _ _ w hs hcut w1.1 w2.1 h0 h1 h2 h3 i0 i1.1 i1.2 i2.1 i2.2 i3⟩
          · exact ⟨Pk.zero, 2, k2 (fun h => i3 h.2.2.2), fun w => RParse_at3 s l0 l1 l2 l3 _ _ _ _ _ _ _ _ w hs hcut w1.1 w2.1 h0 h1 h2 h3 i0 i1.1 i1.2 i2.1 i2.2 (Bool.eq_false_iff.2 i3)⟩
        · exact ⟨Pk.zero, 2, k2 (fun h => i2 h.2.2.1), fun w => RParse_at2 s l0 l1 l2 l3 _ _ _ _ _ _ _ _ w hs hcut w1.1 w2.1 h0 h1 h2 h3 i0 i1.1 i1.2 (bad_of i2)⟩
      · exact ⟨Pk.zero, 2, k2 (fun h => i1 h.2.1), fun w => RParse_at1 s l0 l1 l2 l3 _ _ _ _ _ _ _ _ w hs hcut w1.1 w2.1 h0 h1 h2 h3 i0 (bad_of i1)⟩
    · exact ⟨Pk.zero, 2, k2 (fun h => i0 h.1), fun w => RParse_at0 s l0 l1 l2 l3 _ _ _ _ _ _ _ _ w hs hcut w1.1 w2.1 h0 h1 h2 h3 (Bool.eq_false_iff.2 i0)⟩
  · exact ⟨Pk.zero, 2, IsP.of_few h4, fun w => RParse_few s w hs h4⟩
end Go.Proofs.YtdmgalcfgignpaaDoor
