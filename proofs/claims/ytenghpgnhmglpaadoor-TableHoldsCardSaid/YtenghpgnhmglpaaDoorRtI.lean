/- TableIds' walk: Next goes through just the ids that are there, Each and Ids through the same. No condition but words, and what a table must keep. -/
import Derived.Test.YtenghpgnhmglpaaDoorRtW
namespace Go.Proofs.YtenghpgnhmglpaaDoor
open Go.RowKit Go.Shelf
set_option linter.unusedVariables false
set_option linter.unusedSimpArgs false
attribute [local go_sem] Oper.semAt_some
/-- What Next tells is above what was asked, and there. -/
theorem nextV_is {k : Int} {L : List Im} (hg : Good L) : ∃ (x : Int) (b : Bool), nextV (nextI k L) = .tuple #[eI x, .bool b] ∧ (b = true → k < x ∧ hasI x L = true) ∧ Inte x := by
  cases h : nextI k L with
  | none => exact ⟨0, false, rfl, (fun e => by cases e), by decide, by decide⟩
  | some x =>
    unfold nextI at h
    cases hf : L.find? (fun a => decide (k < a.id)) with
    | none => simp [hf] at h
    | some a =>
      simp [hf] at h
      have h1 := List.find?_some hf
      have h2 := List.mem_of_find?_eq_some hf
      subst h
      have h3 := (hg.each a h2).1
      refine ⟨a.id, true, rfl, fun _ => ⟨by simpa using h1, hasI_iff.2 ⟨a, h2, rfl⟩⟩, ?_⟩
      show _ ≤ _ ∧ _ < _
      omega
theorem nextI_above {k x : Int} {L : List Im} (hg : Good L) (h : nextI k L = some x) : k < x := by
  obtain ⟨y, b, h1, h2, _⟩ := @nextV_is k L hg
  rw [h] at h1
  have h3 : Value.tuple #[eI x, .bool true] = .tuple #[eI y, .bool b] := h1
  simp [eI] at h3
  obtain ⟨rfl, rfl⟩ := h3
  exact (h2 rfl).1
/-- The loop's count, and the cell of Each. -/
def MbI (W : World) (mb b B p : Nat) (X : World) : Prop :=
  Box X mb #[eI (p : Int)] 3 ∧ Box X b #[.pointer (some ⟨B, 0, none⟩)] 23 ∧ Below W.heap.size W X
theorem MbI.turn {W X Y : World} {mb b B p C : Nat} {row : Option Nat} (hI : MbI W mb b B p X) (hg : X.grownBy Y row) (hr : ∀ r, row = some r → C ≤ r) (hW : W.heap.size ≤ C) (hm : mb < C) (hb : b < C) : MbI W mb b B p Y := by
  obtain ⟨h1, h2, h3⟩ := hI
  exact ⟨h1.turn hg hr hm, h2.turn hg hr hb, below_turn h3 hg hr hW⟩
def CntI (most : Int) (p : Nat) : Prop := p = 0 ∨ (p : Int) ≤ most
section
variable {Tb : World → (Nat → Nat) → Nat → Nat → List Im → Prop} (hT : TbLaws Tb)
include hT
set_option maxRecDepth 100000 in
set_option maxHeartbeats 12000000 in
theorem ids_ok (a : Option Addr) (n c : Nat) (xs : Nat → Ac) (some ask : Int) (w : World) (ht : Tab w) (hn : n ≤ 200) (hI : IsRow acC 4 w a n c xs) (hw : ∀ i, (xs i).ok) (hso : Inte some) (ha : Inte ask) :
    Calls Tryd.prog 5 #[.slice a n c, eI some, eI ask] w fun e w' => e = .returned (.bool true) ∧ Below w.heap.size w w' := by
  have bs := Box.new w 3 #[eI some]
  have T1 := up1 w (.cells #[eI some] 3)
  have hz1 : (w.alloc (.cells #[eI some] 3)).heap.size = w.heap.size + 1 := by simp
  obtain ⟨w1, hw1⟩ : ∃ x, w.alloc (.cells #[eI some] 3) = x := ⟨_, rfl⟩
  rw [hw1] at bs T1 hz1
  have hAw := awake_any hT w1 (ht.below T1)
  refine (callsIn_wide (n := 14)).1 ?_
  refine callsIn_of_wp_marks Tryd.func5 rfl trivial ?_ rfl
  simp only [Tryd.ntmps5, List.size_toArray, List.length_cons, List.length_nil, Nat.reduceAdd, Nat.reduceSub, Array.replicate_succ, Array.replicate_zero, List.push_toArray, List.append_toArray, List.nil_append, List.cons_append]
  gi_wp2_with (first
    | (refine ⟨trivial, ?_⟩; gi_at_call 22; (with_reducible refine (callsIn_wide.2 hAw).mono ?_); rintro e w2 ⟨rfl, hb2⟩)
    | (refine ⟨trivial, ?_⟩; gi_at_call 23; (with_reducible refine (callsIn_wide.2 (acted_ok hT a n c xs w2 ((ht.below T1).below hb2) hn (hI.below (ups T1 hb2 T1.size)) hw)).mono ?_); rintro e w3 ⟨B, rfl, H⟩))
  have hLn := rowA_len xs n
  have hg := rowA_good hw n
  generalize rowA xs n = L at *
  have hl : L.length ≤ 200 := by omega
  have Ts := H.tells hT (by omega)
  have T3 := ups (ups T1 hb2 T1.size) H.world (by have := T1.size; have := hb2.size; omega)
  have bs3 := (bs.below hb2).below H.world
  clear hI hw ht hn hLn hAw H hT
  gi_wp2_with (refine ⟨trivial, ?_⟩; gi_at_call 24; (with_reducible refine (callsIn_wide.2 (Ts.ids w3 (Below.refl _ _))).mono ?_); rintro e w4 ⟨v, rfl, hIds, hb4⟩)
  obtain ⟨ai, ci, rfl, hci, hcm⟩ := own_len hIds
  have Th := Lib.hid Ts
  have hgh := Lib.hid hg
  have hIh := Lib.hid hIds
  clear Ts hg hIds
  gi_loopw [9, 10] (fun s9 s10 wr => ∃ k : Nat, s9 = eI (lastI (L.take k)) ∧ s10 = .int .i64 k ∧ k ≤ L.length ∧ Below w4.heap.size w4 wr) (fun s9 s10 _ => L.length - (intOf s10).toNat)
  case atStart => exact ⟨0, rfl, rfl, by omega, Below.refl _ _⟩
  case round =>
    obtain ⟨k, rfl, rfl, hk, hW⟩ := hrel
    by_cases hlt : k < L.length
    · have i1 : (k : Int) < (L.length : Int) := by omega
      have i2 : (0 : Int) ≤ (k : Int) := by omega
      have i3 : (L.length : Int) ≤ (ci : Int) := by omega
      obtain ⟨h, cap2, cur2, e, _⟩ := own_some hIh.out (by omega)
      cases e
      have hY : ∀ X, Below w4.heap.size w4 X → X.cell? ⟨h, k, none⟩ = Option.some (eI L[k].id) := fun X hX => by
        obtain ⟨h2, cap2, cur2, e, _, _, _, _, _, hc2⟩ := own_some (own_below hIh.out hX) (by omega)
        cases e
        have y2 := hc2 k (eI L[k].id) (by simp [List.getElem?_map, List.getElem?_eq_getElem hlt])
        rwa [add_plain, Nat.zero_add] at y2
      have hp := List.take_prefix k L
      have hnx := next_pre hgh.out hp
      rw [List.length_take_of_le hk, List.getElem?_eq_getElem hlt] at hnx
      have hab := nextI_above hgh.out hnx
      have c1 := Th.out.next (lastI (L.take k)) wr (lastI_word hgh.out hp) (upp hb4 hW)
      rw [hnx] at c1
      have hat := getI_at hgh.out (List.getElem?_eq_getElem hlt)
      have c2 := fun X (hX : Below w3.heap.size w3 X) => Th.out.get L[k].id X (by have := (hgh.out.each _ (List.getElem_mem hlt)).1; show _ ≤ _ ∧ _ < _; omega) hX
      rw [hat.1, hat.2] at c2
      have htk : L[k].id = lastI (L.take (k + 1)) := by rw [List.take_add_one, List.getElem?_eq_getElem hlt]; exact (lastI_snoc _ _).symm
      have hw1 : IntKind.i64.wrap ((k : Int) + 1) = (k : Int) + 1 := i64_id (by omega)
      have hab2 : ¬ L[k].id ≤ lastI (L.take k) := Int.not_le.2 hab
      clear hnx hat hp hab
      have hth := Lib.hid htk
      clear htk
      generalize lastI (L.take k) = la at *
      generalize L[k] = z at *
      have e1 : (z.id != z.id) = false := by simp
      have c1' : Calls Tryd.prog 25 #[.pointer (Option.some ⟨B, 0, none⟩), eI la] wr fun e w' => e = .returned (.tuple #[eI z.id, .bool true]) ∧ Below wr.heap.size wr w' := c1
      clear c1
      gi_upto_region 14 with (first
        | (refine ⟨trivial, ?_⟩; gi_at_call 25; (with_reducible refine (callsIn_wide.2 c1').mono ?_); rintro e w5 ⟨rfl, hb5⟩; have y5 := hY w5 (upp hW hb5))
        | (refine ⟨trivial, ?_⟩; gi_at_call 15; (with_reducible refine (callsIn_wide.2 (c2 _ (upp (upp hb4 hW) hb5))).mono ?_); rintro e w6 ⟨rfl, hb6⟩; clear y5; have y6 := hY w6 (upp (upp hW hb5) hb6)))
      exact ⟨⟨k + 1, by rw [hth.out], rfl, by omega, upp (upp hW hb5) hb6⟩, by simp [intOf]; omega⟩
    · obtain rfl : k = L.length := by omega
      have i1 : ¬ (L.length : Int) < (L.length : Int) := by omega
      have hnx := next_pre hgh.out (List.prefix_refl L)
      rw [List.getElem?_eq_none (Nat.le_refl _)] at hnx
      have c1 := Th.out.next (lastI L) wr (lastI_word hgh.out (List.prefix_refl L)) (upp hb4 hW)
      rw [hnx] at c1
      have c1' : Calls Tryd.prog 25 #[.pointer (Option.some ⟨B, 0, none⟩), eI (lastI L)] wr fun e w' => e = .returned (.tuple #[eI 0, .bool false]) ∧ Below wr.heap.size wr w' := c1
      clear c1 hnx
      rw [List.take_length] at *
      generalize lastI L = la at *
      obtain ⟨nx, nm, hnv, hnm, hni⟩ := @nextV_is ask L hgh.out
      have cN : ∀ X, Below w3.heap.size w3 X → Calls Tryd.prog 25 #[.pointer (Option.some ⟨B, 0, none⟩), eI ask] X fun e w' => e = .returned (.tuple #[eI nx, .bool nm]) ∧ Below X.heap.size X w' := fun X hX => by rw [← hnv]; exact Th.out.next ask X ha hX
      have cG : ∀ X, Below w3.heap.size w3 X → Calls Tryd.prog 15 #[.pointer (Option.some ⟨B, 0, none⟩), eI nx] X fun e w' => e = .returned (.tuple #[eU ((getI nx L).getD 0), .bool (hasI nx L)]) ∧ Below X.heap.size X w' := fun X hX => Th.out.get nx X hni hX
      have cL : ∀ X, Below w3.heap.size w3 X → Calls Tryd.prog 13 #[.pointer (Option.some ⟨B, 0, none⟩)] X fun e w' => e = .returned (eI (L.length : Int)) ∧ X = w' := fun X hX => Th.out.len X hX
      clear hnv
      generalize (getI nx L).getD 0 = gv at *
      generalize hasI nx L = hb at *
      have hz4 := hb4.size
      gi_wp2_with (first
        | (refine ⟨trivial, ?_⟩; gi_at_call 25; (with_reducible refine (callsIn_wide.2 c1').mono ?_); rintro e w5 ⟨rfl, hb5⟩; have hzm : (w5.alloc (.cells #[eI 0] 3)).heap.size = w5.heap.size + 1 := (by simp); have T5 := upp (upp hb4 hW) hb5; have TV := ups T5 (up1 w5 (.cells #[eI 0] 3)) T5.size; have bm := Box.new w5 3 #[eI 0])
        | (refine ⟨trivial, ?_⟩; gi_at_call 14; (with_reducible refine (callsIn_wide.2 (Th.out.each _ TV)).mono ?_); rintro e w7 ⟨b, rfl, hb7, hbb, hbx, hseq⟩))
      have hz5 := T5.size
      have hz7 := hb7.size
      rw [hzm] at hz7 hbb
      have hbl := hbx.lt
      have hsq := (hseq 13 w3.heap.size (by omega) (Nat.le_refl _) (by omega)).toC
      clear hseq c1'
      refine loopC (by omega) (gf := 32) (lb := #[.pointer (Option.some ⟨b, 0, none⟩)]) rfl (enters_of Tryd.func32 (by kernel_rfl) rfl) (n₀ := w3.heap.size) (by omega) hsq (fun _ => rfl)
        (fun pre X => CntI some pre.length ∧ MbI w3 w5.heap.size b B pre.length X) (fun c pre X => c = Code.exit 2 ∧ ∃ p : Nat, p ≤ L.length ∧ CntI some p ∧ some ≤ p ∧ MbI w3 w5.heap.size b B p X)
        (fun _ X Y row hI hg hr => ⟨hI.1, hI.2.turn hg hr (by omega) (by omega) (by omega)⟩) (fun c pre X Y row hI hg hr => by obtain ⟨h1, p, h2, h3, h4, h5⟩ := hI; exact ⟨h1, p, h2, h3, h4, h5.turn hg hr (by omega) (by omega) (by omega)⟩) (fun _ _ h => h.2.2.1) ⟨.inl rfl, bm.below hb7, hbx, upp TV hb7⟩
        (fun z a' X => a' = { tmps := #[Value.slice a n c, eI some, eI ask, undef, Value.pointer (Option.some { block := w.heap.size, off := 0 }), undef, u6, Value.pointer (Option.some { block := B, off := 0 }), Value.slice ai L.length ci, eI la, Value.int IntKind.i64 ↑L.length, u11, u12, u13, u14, eI 0, Value.bool false, Value.pointer (Option.some { block := w5.heap.size, off := 0 }), undef, undef, undef, undef, Value.bool true, Value.bool false, Value.slice a n c, Value.pointer (Option.some { block := B, off := 0 }), Value.pointer (Option.some { block := B, off := 0 }), Value.bool false, Value.pointer (Option.some { block := B, off := 0 }), Value.slice ai L.length ci, Value.int IntKind.i64 ↑L.length, Value.slice ai L.length ci, Value.int IntKind.i64 ↑L.length, Value.bool false, u34, u35, u36, u37, u38, u39, u40, u41, u42, u43, u44, u45, u46, u47, u48, u49, u50, u51, u52, u53, u54, u55, u56, u57, u58, u59, u60, u61, u62, u63, u64, u65, u66, u67, u68, u69, u70, Value.tuple #[eI 0, Value.bool false], Value.pointer (Option.some { block := B, off := 0 }), eI la, Value.tuple #[eI 0, Value.bool false], eI 0, Value.bool false, Value.pointer (Option.some { block := B, off := 0 }), Value.func (Fn.func 32) #[] #[Value.pointer (Option.some { block := b, off := 0 })], eI z.id, eU z.v, undef, undef, undef, undef, undef, undef, undef, undef, undef, undef, undef, undef, undef, undef, undef, undef, undef, undef, undef, undef, undef, undef, undef, undef, undef, undef, undef, undef, undef, undef, undef, undef, undef, undef, undef, undef, undef, undef, undef, undef, undef, undef, undef, undef, undef, undef, undef], defers := [] })
        (fun x a' _ X Y row hs hg hr => hs)
        ?assign ?body ?done ?stop
      case assign =>
        rintro l0 pre z X K hzX hI hK
        simp only [imE]
        gi_wp2
        exact hK _ _ (Mid.refl _ _ X) hI rfl
      case body =>
        rintro l0 pre z a' X hzX ⟨hcnt, h1, h2, h3⟩ rfl hpx
        have c1 := h1.cell 0
        have c2 := (bs3.below h3).cell 0
        have hpl : (pre ++ [z]).length = pre.length + 1 := by simp
        have f1 := h1.thaw 0
        have hlt1 := h1.lt
        have hpk := (pre_at hpx).1
        have hw1 : IntKind.i64.wrap ((pre.length : Int) + 1) = (pre.length : Int) + 1 := i64_id (by omega)
        have hii : (((pre ++ [z]).length : Nat) : Int) = (pre.length : Int) + 1 := by rw [hpl]; omega
        by_cases hbr : some ≤ pre.length
        · gi_wp2
          exact ⟨Mid.refl _ _ X, rfl, pre.length, by omega, hcnt, hbr, h1, h2, h3⟩
        · have hcn : CntI some (pre ++ [z]).length := .inr (by rw [hpl]; omega)
          clear hpl
          gi_wp2
          refine ⟨Mid.put X (b := w5.heap.size) (by omega) (by omega) 0 _, hcn, ?_, h2.setNe (by show b ≠ w5.heap.size; omega) _, h3.setCell (p := ⟨w5.heap.size, 0, none⟩) (by simp; omega) _⟩
          rw [hii]
          exact h1.set 0 _
      case done =>
        rintro D0 ys X hD rfl ⟨hcnt, h1, h2, h3⟩ hKd
        have c1 := h1.cell 0
        have nD : w5.heap.size ≠ D0 := by omega
        have E := h3
        have c2 := (bs3.below E).cell 0
        obtain ⟨q, hq1, hq2⟩ : ∃ q : Int, min some (ys.length : Int) = q ∧ max 0 q = (ys.length : Int) := ⟨_, rfl, by rcases hcnt with h | h <;> omega⟩
        have e1 : ((ys.length : Int) == (ys.length : Int)) = true := by simp
        clear hcnt i1 hbx bm
        cases nm with
        | false =>
          clear hnm
          gi_wp2_with (first
            | (refine ⟨trivial, ?_⟩; gi_at_call 25; (with_reducible refine (callsIn_wide.2 (cN _ E)).mono ?_); rintro e wa ⟨rfl, hba⟩; replace E := upp E hba; clear c2; have c2 := (bs3.below E).cell 0; replace h1 := h1.below hba; have c1 := h1.cell 0; replace hKd := (hba.block D0 (Array.getElem?_eq_some_iff.1 hKd).1).trans hKd)
            | (refine ⟨trivial, ?_⟩; gi_at_call 15; (with_reducible refine (callsIn_wide.2 (cG _ E)).mono ?_); rintro e wb ⟨rfl, hbb⟩; replace E := upp E hbb; clear c2; have c2 := (bs3.below E).cell 0; replace h1 := h1.below hbb; have c1 := h1.cell 0; replace hKd := (hbb.block D0 (Array.getElem?_eq_some_iff.1 hKd).1).trans hKd)
            | (refine ⟨trivial, ?_⟩; gi_at_call 13; (with_reducible refine (callsIn_wide.2 (cL _ E)).mono ?_); rintro e wc ⟨rfl, rfl⟩))
          have hfin := (upp T3 E).trans (belowK_b (w := w) (Nat.le_refl _) _ D0 _ (.deferred none) (by have := T3.size; omega) hKd rfl rfl)
          refine ⟨by simp, .inl ⟨_, _, rfl, run_takeDeferred hKd, ?_⟩⟩
          exact ⟨_, results_tmp rfl _ _ _, rfl, hfin⟩
        | true =>
          obtain ⟨x1, x2⟩ := hnm rfl
          subst x2
          clear hnm
          gi_wp2_with (first
            | (refine ⟨trivial, ?_⟩; gi_at_call 25; (with_reducible refine (callsIn_wide.2 (cN _ E)).mono ?_); rintro e wa ⟨rfl, hba⟩; replace E := upp E hba; clear c2; have c2 := (bs3.below E).cell 0; replace h1 := h1.below hba; have c1 := h1.cell 0; replace hKd := (hba.block D0 (Array.getElem?_eq_some_iff.1 hKd).1).trans hKd)
            | (refine ⟨trivial, ?_⟩; gi_at_call 15; (with_reducible refine (callsIn_wide.2 (cG _ E)).mono ?_); rintro e wb ⟨rfl, hbb⟩; replace E := upp E hbb; clear c2; have c2 := (bs3.below E).cell 0; replace h1 := h1.below hbb; have c1 := h1.cell 0; replace hKd := (hbb.block D0 (Array.getElem?_eq_some_iff.1 hKd).1).trans hKd)
            | (refine ⟨trivial, ?_⟩; gi_at_call 13; (with_reducible refine (callsIn_wide.2 (cL _ E)).mono ?_); rintro e wc ⟨rfl, rfl⟩))
          have hfin := (upp T3 E).trans (belowK_b (w := w) (Nat.le_refl _) _ D0 _ (.deferred none) (by have := T3.size; omega) hKd rfl rfl)
          refine ⟨by simp, .inl ⟨_, _, rfl, run_takeDeferred hKd, ?_⟩⟩
          exact ⟨_, results_tmp rfl _ _ _, rfl, hfin⟩
      case stop =>
        rintro D0 c pre X hD _ ⟨rfl, p, hp, hcnt, hsp, h1, h2, h3⟩ hKd
        have c1 := h1.cell 0
        have nD : w5.heap.size ≠ D0 := by omega
        have E := h3
        have c2 := (bs3.below E).cell 0
        obtain ⟨q, hq1, hq2⟩ : ∃ q : Int, min some (L.length : Int) = q ∧ max 0 q = (p : Int) := ⟨_, rfl, by rcases hcnt with h | h <;> omega⟩
        have e2 : ((p : Int) == (p : Int)) = true := by simp
        clear hp hsp
        have e1 : ((L.length : Int) == (L.length : Int)) = true := by simp
        clear hcnt i1 hbx bm
        cases nm with
        | false =>
          clear hnm
          gi_wp2_with (first
            | (refine ⟨trivial, ?_⟩; gi_at_call 25; (with_reducible refine (callsIn_wide.2 (cN _ E)).mono ?_); rintro e wa ⟨rfl, hba⟩; replace E := upp E hba; clear c2; have c2 := (bs3.below E).cell 0; replace h1 := h1.below hba; have c1 := h1.cell 0; replace hKd := (hba.block D0 (Array.getElem?_eq_some_iff.1 hKd).1).trans hKd)
            | (refine ⟨trivial, ?_⟩; gi_at_call 15; (with_reducible refine (callsIn_wide.2 (cG _ E)).mono ?_); rintro e wb ⟨rfl, hbb⟩; replace E := upp E hbb; clear c2; have c2 := (bs3.below E).cell 0; replace h1 := h1.below hbb; have c1 := h1.cell 0; replace hKd := (hbb.block D0 (Array.getElem?_eq_some_iff.1 hKd).1).trans hKd)
            | (refine ⟨trivial, ?_⟩; gi_at_call 13; (with_reducible refine (callsIn_wide.2 (cL _ E)).mono ?_); rintro e wc ⟨rfl, rfl⟩))
          have hfin := (upp T3 E).trans (belowK_b (w := w) (Nat.le_refl _) _ D0 _ (.deferred none) (by have := T3.size; omega) hKd rfl rfl)
          refine ⟨by simp, .inl ⟨_, _, rfl, run_takeDeferred hKd, ?_⟩⟩
          exact ⟨_, results_tmp rfl _ _ _, rfl, hfin⟩
        | true =>
          obtain ⟨x1, x2⟩ := hnm rfl
          subst x2
          clear hnm
          gi_wp2_with (first
            | (refine ⟨trivial, ?_⟩; gi_at_call 25; (with_reducible refine (callsIn_wide.2 (cN _ E)).mono ?_); rintro e wa ⟨rfl, hba⟩; replace E := upp E hba; clear c2; have c2 := (bs3.below E).cell 0; replace h1 := h1.below hba; have c1 := h1.cell 0; replace hKd := (hba.block D0 (Array.getElem?_eq_some_iff.1 hKd).1).trans hKd)
            | (refine ⟨trivial, ?_⟩; gi_at_call 15; (with_reducible refine (callsIn_wide.2 (cG _ E)).mono ?_); rintro e wb ⟨rfl, hbb⟩; replace E := upp E hbb; clear c2; have c2 := (bs3.below E).cell 0; replace h1 := h1.below hbb; have c1 := h1.cell 0; replace hKd := (hbb.block D0 (Array.getElem?_eq_some_iff.1 hKd).1).trans hKd)
            | (refine ⟨trivial, ?_⟩; gi_at_call 13; (with_reducible refine (callsIn_wide.2 (cL _ E)).mono ?_); rintro e wc ⟨rfl, rfl⟩))
          have hfin := (upp T3 E).trans (belowK_b (w := w) (Nat.le_refl _) _ D0 _ (.deferred none) (by have := T3.size; omega) hKd rfl rfl)
          refine ⟨by simp, .inl ⟨_, _, rfl, run_takeDeferred hKd, ?_⟩⟩
          exact ⟨_, results_tmp rfl _ _ _, rfl, hfin⟩
end
end Go.Proofs.YtenghpgnhmglpaaDoor
