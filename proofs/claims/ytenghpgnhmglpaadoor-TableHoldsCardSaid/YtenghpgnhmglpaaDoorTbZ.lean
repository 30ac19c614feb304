/- Copy of a table, as it is and as more tells each value. No condition but that it isn't long. -/
import Derived.Test.YtenghpgnhmglpaaDoorTbB
import Derived.Test.YtenghpgnhmglpaaDoorTbA
namespace Go.Proofs.YtenghpgnhmglpaaDoor
open Go.RowKit Go.Shelf
set_option linter.unusedVariables false
set_option linter.unusedSimpArgs false
attribute [local go_sem] Oper.semAt_some
section
variable {w w' : World} {χ χ' : Nat → Nat} {c d B Bm m : Nat} {N : List Int} {F : Int → Option Nat} {G : Int → Value} {vn : Value} {L : List Im}
theorem Tb.paint (h : Tb w χ c B L) (hp : ∀ k, k < w.heap.size → χ k = c → χ' k = d) (h0 : χ' 0 = 0) (hd : d ≠ 0) : Tb w χ' d B L := by
  obtain ⟨Bm, N, F, G, vn, h, hf⟩ := h
  refine ⟨Bm, N, F, G, vn, ?_, hf⟩
  exact { h with
    colB := hp _ h.box.lt h.colB
    colM := hp _ h.map.lt h.colM
    colN := fun g e => hp _ (h.nums.lt g e).2 (h.colN g e)
    page := fun p q e => by
      obtain ⟨x, r1, r2, r3, r4, r5⟩ := h.page p q e
      exact ⟨x, r1, r2, r3, hp _ r1.lt r4, fun g eg => hp _ (r3.lt g eg).2 (r5 g eg)⟩
    col0 := h0
    cne := hd }
theorem put_snoc {pre : List Im} {z : Im} (hg : Good (pre ++ [z])) : putI z.id z.v pre = pre ++ [z] := by
  have hr := hg.rise
  unfold Rise at hr
  rw [List.pairwise_append] at hr
  have hm := (hg.each z (by simp)).1
  have hh : hasI z.id pre = false := hasI_no.2 (fun a ha e => by have := hr.2.2 a ha z (by simp); omega)
  rw [putI_ok (putE_ok (mayI_iff.2 hm) hh)]
  have := ins_at (x := z) (A := pre) (C := []) (fun a ha => hr.2.2 a ha z (by simp)) (fun a ha => by cases ha)
  simpa using this
theorem Good.pre {pre : List Im} (hg : Good L) (h : pre <+: L) : Good pre := ⟨List.Pairwise.sublist h.sublist hg.rise, fun a ha => hg.each a (h.subset ha)⟩
/-- Between two rounds of a copy. -/
def CpI (w : World) (D bc b b3 Bc B : Nat) (ov : Value) (pre : List Im) (X : World) : Prop :=
  ∃ χ1, Fr w χ1 X ∧ Tb X χ1 1 Bc pre ∧ Bx X χ1 2 bc #[.pointer (some ⟨Bc, 0, none⟩)] 23 ∧ Bx X χ1 2 b #[.pointer (some ⟨B, 0, none⟩)] 23 ∧ Bx X χ1 2 b3 #[ov] 33 ∧ χ1 D = 2 ∧ χ1 (D + 1) = 2
theorem CpI.turn {D bc b b3 Bc : Nat} {ov : Value} {pre : List Im} {X Y : World} {row : Option Nat} (h : CpI w D bc b b3 Bc B ov pre X) (hg : X.grownBy Y row) (hr : ∀ r, row = some r → r = D ∨ r = D + 1) (hw : w.heap.size ≤ D) (h1 : bc < D) (h2 : b < D) (h3 : b3 < D) : CpI w D bc b b3 Bc B ov pre Y := by
  obtain ⟨χ1, k1, k2, k3, k4, k5, k6, k7⟩ := h
  have ho : Off (fun k => k = D ∨ k = D + 1) X Y := ⟨hg.os, hg.tape, hg.output, hg.size, fun k hk hn => hg.block k hk (fun e => hn (hr k e.symm))⟩
  have hc0 := k2.col0
  have hS : ∀ k, χ1 k = 1 → ¬ (k = D ∨ k = D + 1) := fun k hk e => by
    rcases e with rfl | rfl <;> omega
  refine ⟨χ1, ⟨k1.zero, ⟨ho.os.trans k1.world.os, ho.tape.trans k1.world.tape, ho.output.trans k1.world.output, Nat.le_trans k1.world.size ho.size, fun k hk => (ho.block k (Nat.lt_of_lt_of_le hk k1.world.size) (by omega)).trans (k1.world.block k hk)⟩⟩, k2.off ho hS ?_, ⟨ho.box k3.1 (by omega), k3.2⟩, ⟨ho.box k4.1 (by omega), k4.2⟩, ⟨ho.box k5.1 (by omega), k5.2⟩, k6, k7⟩
  rintro (e | e)
  · rw [← e] at k6; omega
  · rw [← e] at k7; omega
theorem cp_put {D bc b b3 Bc : Nat} {ov : Value} {pre : List Im} {X : World} {z : Im} (hg : Good L) (hp : pre ++ [z] <+: L) (h : CpI w D bc b b3 Bc B ov pre X) (hD : D + 2 ≤ X.heap.size) (hl : L.length ≤ 1000) :
    Calls Tryd.prog 16 #[.pointer (some ⟨Bc, 0, none⟩), eI z.id, eU z.v] X fun e w' => (∃ u, e = .returned (eI u)) ∧ CpI w D bc b b3 Bc B ov (pre ++ [z]) w' ∧ MidD w.heap.size D X w' := by
  obtain ⟨χ1, k1, k2, k3, k4, k5, k6, k7⟩ := h
  have hz := hg.each z (hp.subset (by simp))
  have hlen : pre.length ≤ 1000 := by have := hp.length_le; simp at this; omega
  refine (tb_put z.id z.v k2 hz.2 hlen).mono fun e w' ⟨h1, χ2, h2, h3⟩ => ⟨⟨_, h1⟩, ⟨χ2, k1.next h2 (by decide), ?_, k3.other h2 (by decide), k4.other h2 (by decide), k5.other h2 (by decide), (h2.col D (by omega)).trans k6, (h2.col (D + 1) (by omega)).trans k7⟩, ⟨⟨h2.os, h2.tape, h2.output, h2.size, fun k hk => h2.block k (Nat.lt_of_lt_of_le hk k1.world.size) (by rw [k1.zero k hk]; decide)⟩, h2.block D (by omega) (by omega), h2.block (D + 1) (by omega) (by omega)⟩⟩
  rw [put_snoc (hg.pre hp)] at h3
  exact h3
theorem copy1_any {bc b3 Bc : Nat} {W : World} {χ1 : Nat → Nat} (h : Tb W χ1 1 Bc L) (b1 : Box W bc #[.pointer (some ⟨Bc, 0, none⟩)] 23) (b2 : Box W b3 #[.func (.func 11) #[] #[]] 33) :
    Calls Tryd.prog 28 #[.pointer (some ⟨bc, 0, none⟩), .pointer (some ⟨b3, 0, none⟩)] W fun e w' => e = .returned (.tuple #[]) ∧ ∃ χ', Col χ1 χ' 1 W w' ∧ Tb w' χ' 1 Bc (oneMore L) := by
  have c1 := b1.cell 0
  have c2 := b2.cell 0
  have hB := become_any h
  go_enter Tryd.func28, Tryd.ntmps28
  go_wp2_with (go_at_call 29; (with_reducible refine hB.mono ?_); rintro e w2 ⟨rfl, hP⟩)
  refine ⟨rfl, .tuple #[], by simp [results, Tryd.results28, go_sem], rfl, hP⟩
set_option maxHeartbeats 4000000 in
theorem tb_copy (d : Nat) (h : Tb w χ c B L) (hl : L.length ≤ 1000) (hd : d ≠ 0) : Calls Tryd.prog 10 #[.pointer (some ⟨B, 0, none⟩), Value.nilFunc] w fun e w' => ∃ B', e = .returned (.pointer (some ⟨B', 0, none⟩)) ∧ Tb w' (recol χ w.heap.size d) d B' L ∧ Below w.heap.size w w' := by
  have hg := h.good
  have htab := h.tab
  have hcol := h.col0
  obtain ⟨Bm, N, F, G, vn, hx, hf⟩ := h
  have bo := Box.new w 33 #[Value.nilFunc]
  have T1 := up1 w (.cells #[Value.nilFunc] 33)
  have hz1 : (w.alloc (.cells #[Value.nilFunc] 33)).heap.size = w.heap.size + 1 := by simp
  have hM := made_yes (hx.below T1).box
  have hN := tb_new (w.alloc (.cells #[Value.nilFunc] 33)) (recol (fun _ => 0) w.heap.size 2) 1 (htab.below T1) (by rw [recol_lt htab.1]) (by decide)
  have hE := each_of hx hf
  have hmf : ∀ (fn : Fn) (first cap : Array Value) (w : World), (Instr.makeFunc fn first cap).run Tryd.prog w = .ok (.func fn first cap) w := fun _ _ _ _ => rfl
  refine (callsIn_wide (n := 14)).1 ?_
  refine callsIn_of_wp_marks Tryd.func10 rfl trivial ?_ rfl
  simp only [Tryd.ntmps10, List.size_toArray, List.length_cons, List.length_nil, Nat.reduceAdd, Nat.reduceSub, Array.replicate_succ, Array.replicate_zero, List.push_toArray, List.append_toArray, List.nil_append, List.cons_append]
  gi_upto_region 4 with (first
    | (refine ⟨trivial, ?_⟩; gi_at_call 26; (with_reducible refine (callsIn_wide.2 hM).mono ?_); rintro e w1 ⟨rfl, rfl⟩)
    | (refine ⟨trivial, ?_⟩; gi_at_call 9; (with_reducible refine (callsIn_wide.2 hN).mono ?_); rintro e w2 ⟨Bc, rfl, t2, T2⟩))
  have hz2 := T2.size
  rw [hz1] at hz2
  have bo2 := bo.below T2
  have T12 := ups T1 T2 T1.size
  have bc3 := Box.new w2 23 #[.pointer (some ⟨Bc, 0, none⟩)]
  have T3 := up1 w2 (.cells #[.pointer (some ⟨Bc, 0, none⟩)] 23)
  have hz3 : (w2.alloc (.cells #[.pointer (some ⟨Bc, 0, none⟩)] 23)).heap.size = w2.heap.size + 1 := by simp
  obtain ⟨w3, hw3⟩ : ∃ x, w2.alloc (.cells #[.pointer (some ⟨Bc, 0, none⟩)] 23) = x := ⟨_, rfl⟩
  rw [hw3] at bc3 T3 hz3 ⊢
  have T13 := ups T12 T3 T12.size
  have hE3 := hE w3 T13
  clear hw3 hM hN hE
  gi_wp2_with (refine ⟨trivial, ?_⟩; gi_at_call 14; (with_reducible refine (callsIn_wide.2 hE3).mono ?_); rintro e w6 ⟨b, rfl, hb6, hbb, hbx, hseq⟩)
  have hz6 := hb6.size
  have hbl := hbx.lt
  have T16 := ups T13 hb6 T13.size
  have hsq := hseq 13 w.heap.size (by omega) (Nat.le_refl _) (by omega)
  have hst : CpI w w6.heap.size w2.heap.size b w.heap.size Bc B (Value.nilFunc) [] w6 := by
    refine ⟨recol (recol (recol (fun _ => 0) w.heap.size 2) (w.alloc (.cells #[Value.nilFunc] 33)).heap.size 1) w2.heap.size 2, ⟨fun k hk => ?_, T16⟩, ?_, ⟨bc3.below hb6, recol_ge (Nat.le_refl _)⟩, ⟨hbx, recol_ge (by omega)⟩, ⟨(bo2.below T3).below hb6, ?_⟩, recol_ge (by omega), recol_ge (by omega)⟩
    · rw [recol_lt (by omega), recol_lt (by rw [hz1]; omega), recol_lt hk]
    · exact ((t2.repaint (fun k hk => recol_lt hk)).below T3).below hb6
    · rw [recol_lt (by omega), recol_lt (by rw [hz1]; omega), recol_ge (Nat.le_refl _)]
  clear hseq hE3 hx t2 bo bo2 bc3 hbx T2
  refine loopD (by omega) (gf := 32) (lb := #[.pointer (some ⟨b, 0, none⟩)]) rfl (enters_of Tryd.func32 (by kernel_rfl) rfl) (n₀ := w.heap.size) T16.size hsq (fun _ => rfl)
    (fun pre X => CpI w w6.heap.size w2.heap.size b w.heap.size Bc B (Value.nilFunc) pre X) (fun _ _ _ => False)
    (fun _ X Y row hI hg hr => hI.turn hg hr (by omega) (by omega) (by omega) (by omega)) (fun c _ _ _ _ h => h.elim)
    (fun pre X hI => by obtain ⟨χ1, k1, k2, k3, k4, _⟩ := hI; exact k4.1) hst
    (fun z a' X => a' = { tmps := #[.pointer (some ⟨B, 0, none⟩), Value.nilFunc, undef, .pointer (some ⟨w.heap.size, 0, none⟩), .pointer none, .pointer (some ⟨w2.heap.size, 0, none⟩), eI z.id, eU z.v, .pointer (some ⟨B, 0, none⟩), .bool true, .bool false, .pointer (some ⟨Bc, 0, none⟩), .pointer (some ⟨B, 0, none⟩), .func (.func 32) #[] #[.pointer (some ⟨b, 0, none⟩)], eI z.id, eU z.v, undef, undef, undef, undef, undef, undef, undef, undef, undef, undef, undef, undef], defers := [] })
    (fun x a' _ X Y row hs hg hr => hs)
    ?assign ?body ?done ?stop
  case assign =>
    rintro l0 pre z X K hzX hI hK
    simp only [imE]
    gi_wp2
    exact hK _ _ (MidD.refl _ _ X) hI rfl
  case stop =>
    rintro D c pre X hD _ h hK
    exact h.elim
  case body =>
    rintro l0 pre z a' X hzX hI rfl hpx
    have hPut := cp_put hg hpx hI (by omega) hl
    obtain ⟨χ1, k1, k2, k3, k4, k5, k6, k7⟩ := hI
    have c2 := k3.1.cell 0
    clear k1 k2 k3 k4 k5 k6 k7 hsq hst
    gi_wp2_with (refine ⟨trivial, ?_⟩; gi_at_call 16; (with_reducible refine (CallsIn.inRound l0 (callsIn_wide.2 hPut)).mono ?_); rintro e w8 ⟨⟨u8, rfl⟩, hI8, hM8⟩)
    exact ⟨hM8, hI8⟩
  case done =>
    rintro D0 ys X hD rfl hI hKd
    subst hD
    have hEq : ∀ w : World, (binOp BinOp.neq 33 .nilFunc .nilFunc).run Tryd.prog w = .ok (.bool false) w := fun _ => by kernel_rfl
    have hu := undef_ne
    have c2 : X.cell? ⟨w2.heap.size, 0, none⟩ = some (.pointer (some ⟨Bc, 0, none⟩)) := by obtain ⟨χ1, k1, k2, k3, _⟩ := hI; exact k3.1.cell 0
    have c3 : X.cell? ⟨w.heap.size, 0, none⟩ = some .nilFunc := by obtain ⟨χ1, k1, k2, k3, k4, k5, _⟩ := hI; exact k5.1.cell 0
    have hI2 := hI.turn (grownBy_putObj' X w6.heap.size (.deferred none)) (fun r e => by cases e; exact .inl rfl) (by omega) (by omega) (by omega) (by omega)
    obtain ⟨χ1, k1, k2, _⟩ := hI2
    have kw := Lib.hid k1.world
    have kt := Lib.hid (k2.paint (χ' := recol χ w.heap.size d) (d := d) (fun k hk hk1 => recol_ge (by
      rcases Nat.lt_or_ge k w.heap.size with g | g
      · rw [k1.zero k g] at hk1; cases hk1
      · exact g)) (by rw [recol_lt htab.1]; exact hcol.1) hd)
    clear k1 k2 hI hsq hst
    gi_wp2
    refine ⟨trivial, ?_⟩
    gi_wp2
    refine ⟨by simp, .inl ⟨_, _, rfl, run_takeDeferred hKd, ?_⟩⟩
    exact ⟨_, results_tmp rfl _ _ _, Bc, rfl, kt.out, kw.out⟩
set_option maxHeartbeats 4000000 in
theorem tb_own (d : Nat) (h : Tb w χ c B L) (hl : L.length ≤ 1000) (hd : d ≠ 0) : Calls Tryd.prog 10 #[.pointer (some ⟨B, 0, none⟩), Value.func (.func 11) #[] #[]] w fun e w' => ∃ B', e = .returned (.pointer (some ⟨B', 0, none⟩)) ∧ Tb w' (recol χ w.heap.size d) d B' (oneMore L) ∧ Below w.heap.size w w' := by
  have hg := h.good
  have htab := h.tab
  have hcol := h.col0
  obtain ⟨Bm, N, F, G, vn, hx, hf⟩ := h
  have bo := Box.new w 33 #[Value.func (.func 11) #[] #[]]
  have T1 := up1 w (.cells #[Value.func (.func 11) #[] #[]] 33)
  have hz1 : (w.alloc (.cells #[Value.func (.func 11) #[] #[]] 33)).heap.size = w.heap.size + 1 := by simp
  have hM := made_yes (hx.below T1).box
  have hN := tb_new (w.alloc (.cells #[Value.func (.func 11) #[] #[]] 33)) (recol (fun _ => 0) w.heap.size 2) 1 (htab.below T1) (by rw [recol_lt htab.1]) (by decide)
  have hE := each_of hx hf
  have hmf : ∀ (fn : Fn) (first cap : Array Value) (w : World), (Instr.makeFunc fn first cap).run Tryd.prog w = .ok (.func fn first cap) w := fun _ _ _ _ => rfl
  refine (callsIn_wide (n := 14)).1 ?_
  refine callsIn_of_wp_marks Tryd.func10 rfl trivial ?_ rfl
  simp only [Tryd.ntmps10, List.size_toArray, List.length_cons, List.length_nil, Nat.reduceAdd, Nat.reduceSub, Array.replicate_succ, Array.replicate_zero, List.push_toArray, List.append_toArray, List.nil_append, List.cons_append]
  gi_upto_region 4 with (first
    | (refine ⟨trivial, ?_⟩; gi_at_call 26; (with_reducible refine (callsIn_wide.2 hM).mono ?_); rintro e w1 ⟨rfl, rfl⟩)
    | (refine ⟨trivial, ?_⟩; gi_at_call 9; (with_reducible refine (callsIn_wide.2 hN).mono ?_); rintro e w2 ⟨Bc, rfl, t2, T2⟩))
  have hz2 := T2.size
  rw [hz1] at hz2
  have bo2 := bo.below T2
  have T12 := ups T1 T2 T1.size
  have bc3 := Box.new w2 23 #[.pointer (some ⟨Bc, 0, none⟩)]
  have T3 := up1 w2 (.cells #[.pointer (some ⟨Bc, 0, none⟩)] 23)
  have hz3 : (w2.alloc (.cells #[.pointer (some ⟨Bc, 0, none⟩)] 23)).heap.size = w2.heap.size + 1 := by simp
  obtain ⟨w3, hw3⟩ : ∃ x, w2.alloc (.cells #[.pointer (some ⟨Bc, 0, none⟩)] 23) = x := ⟨_, rfl⟩
  rw [hw3] at bc3 T3 hz3 ⊢
  have T13 := ups T12 T3 T12.size
  have hE3 := hE w3 T13
  clear hw3 hM hN hE
  gi_wp2_with (refine ⟨trivial, ?_⟩; gi_at_call 14; (with_reducible refine (callsIn_wide.2 hE3).mono ?_); rintro e w6 ⟨b, rfl, hb6, hbb, hbx, hseq⟩)
  have hz6 := hb6.size
  have hbl := hbx.lt
  have T16 := ups T13 hb6 T13.size
  have hsq := hseq 13 w.heap.size (by omega) (Nat.le_refl _) (by omega)
  have hst : CpI w w6.heap.size w2.heap.size b w.heap.size Bc B (Value.func (.func 11) #[] #[]) [] w6 := by
    refine ⟨recol (recol (recol (fun _ => 0) w.heap.size 2) (w.alloc (.cells #[Value.func (.func 11) #[] #[]] 33)).heap.size 1) w2.heap.size 2, ⟨fun k hk => ?_, T16⟩, ?_, ⟨bc3.below hb6, recol_ge (Nat.le_refl _)⟩, ⟨hbx, recol_ge (by omega)⟩, ⟨(bo2.below T3).below hb6, ?_⟩, recol_ge (by omega), recol_ge (by omega)⟩
    · rw [recol_lt (by omega), recol_lt (by rw [hz1]; omega), recol_lt hk]
    · exact ((t2.repaint (fun k hk => recol_lt hk)).below T3).below hb6
    · rw [recol_lt (by omega), recol_lt (by rw [hz1]; omega), recol_ge (Nat.le_refl _)]
  clear hseq hE3 hx t2 bo bo2 bc3 hbx T2
  refine loopD (by omega) (gf := 32) (lb := #[.pointer (some ⟨b, 0, none⟩)]) rfl (enters_of Tryd.func32 (by kernel_rfl) rfl) (n₀ := w.heap.size) T16.size hsq (fun _ => rfl)
    (fun pre X => CpI w w6.heap.size w2.heap.size b w.heap.size Bc B (Value.func (.func 11) #[] #[]) pre X) (fun _ _ _ => False)
    (fun _ X Y row hI hg hr => hI.turn hg hr (by omega) (by omega) (by omega) (by omega)) (fun c _ _ _ _ h => h.elim)
    (fun pre X hI => by obtain ⟨χ1, k1, k2, k3, k4, _⟩ := hI; exact k4.1) hst
    (fun z a' X => a' = { tmps := #[.pointer (some ⟨B, 0, none⟩), Value.func (.func 11) #[] #[], undef, .pointer (some ⟨w.heap.size, 0, none⟩), .pointer none, .pointer (some ⟨w2.heap.size, 0, none⟩), eI z.id, eU z.v, .pointer (some ⟨B, 0, none⟩), .bool true, .bool false, .pointer (some ⟨Bc, 0, none⟩), .pointer (some ⟨B, 0, none⟩), .func (.func 32) #[] #[.pointer (some ⟨b, 0, none⟩)], eI z.id, eU z.v, undef, undef, undef, undef, undef, undef, undef, undef, undef, undef, undef, undef], defers := [] })
    (fun x a' _ X Y row hs hg hr => hs)
    ?assign ?body ?done ?stop
  case assign =>
    rintro l0 pre z X K hzX hI hK
    simp only [imE]
    gi_wp2
    exact hK _ _ (MidD.refl _ _ X) hI rfl
  case stop =>
    rintro D c pre X hD _ h hK
    exact h.elim
  case body =>
    rintro l0 pre z a' X hzX hI rfl hpx
    have hPut := cp_put hg hpx hI (by omega) hl
    obtain ⟨χ1, k1, k2, k3, k4, k5, k6, k7⟩ := hI
    have c2 := k3.1.cell 0
    clear k1 k2 k3 k4 k5 k6 k7 hsq hst
    gi_wp2_with (refine ⟨trivial, ?_⟩; gi_at_call 16; (with_reducible refine (CallsIn.inRound l0 (callsIn_wide.2 hPut)).mono ?_); rintro e w8 ⟨⟨u8, rfl⟩, hI8, hM8⟩)
    exact ⟨hM8, hI8⟩
  case done =>
    rintro D0 ys X hD rfl hI hKd
    subst hD
    have hEq : ∀ w : World, (binOp BinOp.neq 33 (.func (.func 11) #[] #[]) .nilFunc).run Tryd.prog w = .ok (.bool true) w := fun _ => by kernel_rfl
    obtain ⟨χ1, k1, k2, k3, k4, k5, k6, k7⟩ := hI
    have hDl := (Array.getElem?_eq_some_iff.1 hKd).1
    have TA := up1 X (.cells #[.bool false] 4)
    have k2p := (k2.repaint (χ' := recol χ1 X.heap.size 2) (fun k hk => recol_lt hk)).below TA
    have hcalm := calm_ok #[.pointer (some ⟨w2.heap.size, 0, none⟩), .pointer (some ⟨w.heap.size, 0, none⟩)] X (fun w9 => ∃ χ', Col (recol χ1 X.heap.size 2) χ' 1 (X.alloc (.cells #[.bool false] 4)) w9 ∧ Tb w9 χ' 1 Bc (oneMore ys))
      ((copy1_any k2p (k3.1.below TA) (k5.1.below TA)).mono fun e w9 ⟨y1, χ2, y2, y3⟩ => ⟨y1, (y2.block X.heap.size (by simp) (by rw [recol_ge (Nat.le_refl _)]; decide)).trans (Box.new X 4 #[.bool false]), χ2, y2, y3⟩)
    -- behind it
    have hfin : ∀ w9, (∃ χ', Col (recol χ1 X.heap.size 2) χ' 1 (X.alloc (.cells #[.bool false] 4)) w9 ∧ Tb w9 χ' 1 Bc (oneMore ys)) → ∃ wz, (w9.setCell ⟨X.heap.size, 0, none⟩ (.bool true)).setCell ⟨X.heap.size, 0, none⟩ (.bool true) = wz ∧ wz.cell? ⟨w2.heap.size, 0, none⟩ = some (.pointer (some ⟨Bc, 0, none⟩)) ∧ wz.heap[w6.heap.size]? = some (.deferred (some [])) ∧
        Tb (wz.putObj w6.heap.size (.deferred none)) (recol χ w.heap.size d) d Bc (oneMore ys) ∧ Below w.heap.size w (wz.putObj w6.heap.size (.deferred none)) := fun w9 ⟨χ2, y2, y3⟩ => by
      have hX9 := y2.size
      have hsA : (X.alloc (.cells #[.bool false] 4)).heap.size = X.heap.size + 1 := by simp
      rw [hsA] at hX9
      have hcb : ∀ k, k < X.heap.size → χ1 k = 2 → w9.heap[k]? = X.heap[k]? := fun k hk e => (y2.block k (by omega) (by rw [recol_lt hk, e]; decide)).trans (TA.block k hk)
      have o1 : Off (fun k => k = X.heap.size) w9 ((w9.setCell ⟨X.heap.size, 0, none⟩ (.bool true)).setCell ⟨X.heap.size, 0, none⟩ (.bool true)) := Off.set (S := fun k => k = X.heap.size) (Off.set (S := fun k => k = X.heap.size) (Off.of (Below.refl _ w9)) (B := X.heap.size) rfl 0 _) (B := X.heap.size) rfl 0 _
      have hcX : χ2 X.heap.size = 2 := by rw [y2.col _ (by omega), recol_ge (Nat.le_refl _)]
      have hcD : χ2 w6.heap.size = 2 := by rw [y2.col _ (by omega), recol_lt hDl]; exact k6
      obtain ⟨wz, hwz⟩ : ∃ wz, (w9.setCell ⟨X.heap.size, 0, none⟩ (.bool true)).setCell ⟨X.heap.size, 0, none⟩ (.bool true) = wz := ⟨_, rfl⟩
      rw [hwz] at o1
      have hzz := o1.size
      have hbc := k3.1.lt
      have gD := grownBy_putObj' wz w6.heap.size (.deferred none)
      have o2 : Off (fun k => k = w6.heap.size) wz (wz.putObj w6.heap.size (.deferred none)) := ⟨gD.os, gD.tape, gD.output, gD.size, fun k hk hn => gD.block k hk (fun e => hn (by cases e; rfl))⟩
      have hy0 := y3.col0
      have t9 := (y3.off o1 (fun k hk e => by rw [e, hcX] at hk; cases hk) (fun e => by have := hX9; omega)).off o2 (fun k hk e => by rw [e, hcD] at hk; cases hk) (fun e => by rw [← e] at hcD; rw [hy0.1] at hcD; cases hcD)
      refine ⟨wz, hwz, ?_, ?_, t9.paint (fun k hk hk1 => recol_ge ?_) (by rw [recol_lt htab.1]; exact hcol.1) hd, ?_⟩
      · exact (World.cell?_of_block ((o1.block w2.heap.size (by omega) (by omega)).trans (hcb w2.heap.size hbc k3.2))).trans (k3.1.cell 0)
      · exact (o1.block w6.heap.size (by omega) (by omega)).trans ((hcb w6.heap.size hDl k6).trans hKd)
      · rcases Nat.lt_or_ge k w.heap.size with g | g
        · rw [y2.col k (by have := k1.world.size; omega), recol_lt (by have := k1.world.size; omega), k1.zero k g] at hk1; cases hk1
        · exact g
      · have hw0 := k1.world.size
        refine ⟨o2.os.trans (o1.os.trans (y2.os.trans (TA.os.trans k1.world.os))), o2.tape.trans (o1.tape.trans (y2.tape.trans (TA.tape.trans k1.world.tape))), o2.output.trans (o1.output.trans (y2.output.trans (TA.output.trans k1.world.output))), by have := o2.size; omega, fun k hk => ?_⟩
        rw [o2.block k (by omega) (by omega), o1.block k (by omega) (by omega), y2.block k (by omega) (by rw [recol_lt (by omega), k1.zero k hk]; decide), TA.block k (by omega), k1.world.block k hk]
    have hfh := Lib.hid hfin
    have c3 : X.cell? ⟨w.heap.size, 0, none⟩ = some (.func (.func 11) #[] #[]) := k5.1.cell 0
    clear k1 k2 k3 k4 k5 k6 k7 hsq hst k2p hfin TA
    gi_wp2_with (refine ⟨trivial, ?_⟩; gi_at_call 27; (with_reducible refine (callsIn_wide.2 hcalm).mono ?_); rintro e wc ⟨rfl, w9, hR, _, hwc⟩; obtain ⟨wz, y1, y2, y3, y4, y5⟩ := hfh.out w9 hR; rw [y1] at hwc; subst hwc; clear y1)
    refine ⟨by simp, .inl ⟨_, _, rfl, run_takeDeferred y3, ?_⟩⟩
    exact ⟨_, results_tmp rfl _ _ _, Bc, rfl, y4, y5⟩
end
end Go.Proofs.YtenghpgnhmglpaaDoor
