/- The chapter's example; a tree behind acts. Condition: numbers are what the fields can hold. -/
import Derived.Test.YtpopcnebndgblaaGreatHmD
namespace Go.Proofs.YtpopcnebndgblaaGreat.H
open Go.ChangeShapes Go.WideShapes Go.Deep Go.RowKit
set_option linter.unusedVariables false
set_option linter.unusedSimpArgs false
def inn (i p : Int) : Sp := ⟨i, p, false, Cw.zero, ⟨0, 0, 100⟩, Cw.zero, 0, 0⟩
def lf (i p : Int) : Sp := ⟨i, p, true, Cw.zero, ⟨0, 0, 100⟩, Cw.zero, 4, 4000⟩
theorem bInn (i p : Int) : Tryz.prog.built 34 [(0, eI i), (1, eI p), (4, .agg #[.int .u64 0, .int .u64 0, .int .u64 100])] = some (sV (inn i p)) := by kernel_rfl
theorem bLf (i p : Int) : Tryz.prog.built 34 [(0, eI i), (1, eI p), (2, .bool true), (4, .agg #[.int .u64 0, .int .u64 0, .int .u64 100]), (6, eI 4), (7, eI 4000)] = some (sV (lf i p)) := by kernel_rfl
set_option maxHeartbeats 4000000 in
set_option maxRecDepth 100000 in
theorem inn_any (i p : Int) (w : World) : Calls Tryz.prog 47 #[eI i, eI p] w fun e w' => e = .returned (.agg (sV (inn i p))) ∧ Below w.heap.size w w' := by
  go_enter Tryz.func47, Tryz.ntmps47
  go_wp2_with (first
    | (refine wl_alloc 34 rfl rfl zero34 ?_; intro w1 X1 T1)
    | (refine wl_store (vs := sV (inn i p)) 34 X1 rfl rfl rfl rfl size34 rfl (by omega : 0 + 14 ≤ 14) (sV_one _) (spl_ss _ _) ?_; intro w2 X2 K2))
  refine bodyPost_ret (v := .agg (sV (inn i p))) ?_ rfl ⟨rfl, K2.up T1 (Nat.le_refl _)⟩
  exact results_cell_row rfl _ _ _ _ _ _ _ rfl X2 Tryz.underlying34 rfl size34
set_option maxHeartbeats 4000000 in
set_option maxRecDepth 100000 in
theorem lf_any (i p : Int) (w : World) : Calls Tryz.prog 48 #[eI i, eI p] w fun e w' => e = .returned (.agg (sV (lf i p))) ∧ Below w.heap.size w w' := by
  go_enter Tryz.func48, Tryz.ntmps48
  go_wp2_with (first
    | (refine wl_alloc 34 rfl rfl zero34 ?_; intro w1 X1 T1)
    | (refine wl_store (vs := sV (lf i p)) 34 X1 rfl rfl rfl rfl size34 rfl (by omega : 0 + 14 ≤ 14) (sV_one _) (spl_ss _ _) ?_; intro w2 X2 K2))
  refine bodyPost_ret (v := .agg (sV (lf i p))) ?_ rfl ⟨rfl, K2.up T1 (Nat.le_refl _)⟩
  exact results_cell_row rfl _ _ _ _ _ _ _ rfl X2 Tryz.underlying34 rfl size34
theorem inn_may : mayN (inn 1 0) = 0 := by simp [mayN, inn, idB, wi, curB, mayC, mayB, furB, hasC, lasB, bouB, Cw.zero]
theorem lf_may21 : mayN (lf 2 1) = 0 := by simp [mayN, lf, idB, wi, curB, mayC, mayB, furB, hasC, lasB, bouB, Cw.zero]
theorem lf_may31 : mayN (lf 3 1) = 0 := by simp [mayN, lf, idB, wi, curB, mayC, mayB, furB, hasC, lasB, bouB, Cw.zero]
theorem lf_may20 : mayN (lf 2 0) = 0 := by simp [mayN, lf, idB, wi, curB, mayC, mayB, furB, hasC, lasB, bouB, Cw.zero]
theorem lf_may42 : mayN (lf 4 2) = 0 := by simp [mayN, lf, idB, wi, curB, mayC, mayB, furB, hasC, lasB, bouB, Cw.zero]
theorem w100 : (⟨0, 0, 100⟩ : Cw).ok := ⟨word_zero, word_zero, ⟨by decide, by decide⟩⟩
theorem i4 : I64 4 := ⟨by decide, by decide⟩
theorem i4000 : I64 4000 := ⟨by decide, by decide⟩
theorem inn_ok : (inn 1 0).ok := ⟨⟨by decide, by decide⟩, ⟨by decide, by decide⟩, Cw.zero_ok, w100, Cw.zero_ok, i64_zero, i64_zero⟩
theorem lf_ok {i p : Int} (hi : I64 i) (hp : I64 p) : (lf i p).ok := ⟨hi, hp, Cw.zero_ok, w100, Cw.zero_ok, i4, i4000⟩
def a1 : List Sp := [inn 1 0]
def a2 : List Sp := [inn 1 0, lf 2 1]
def a3 : List Sp := [inn 1 0, lf 2 1, lf 3 1]
theorem adE {L : List Sp} {s : Sp} {x : Int} (h : mayN s = 0) (e : (if 64 ≤ L.length then 4 else if hasS L s.id then 80 else if bearsL L s.par then 0 else 160 : Int) = x) : addE L s = x := by
  unfold addE
  rw [if_neg (fun q => q h)]; exact e
theorem adL {L M : List Sp} {s : Sp} (h : addE L s = 0) (e : insL s L = M) : addL L s = M := (if_pos h).trans e
theorem adN {L : List Sp} {s : Sp} {x : Int} (h : addE L s = x) (hx : x ≠ 0) : addL L s = L := if_neg (by rw [h]; exact hx)
theorem e1 : addE [] (inn 1 0) = 0 := adE inn_may rfl
theorem l1 : addL [] (inn 1 0) = a1 := adL e1 rfl
theorem e2 : addE a1 (lf 2 1) = 0 := adE lf_may21 rfl
theorem l2 : addL a1 (lf 2 1) = a2 := adL e2 rfl
theorem e3 : addE a2 (lf 3 1) = 0 := adE lf_may31 rfl
theorem l3 : addL a2 (lf 3 1) = a3 := adL e3 rfl
theorem e4 : addE a3 (lf 2 0) = 80 := adE lf_may20 rfl
theorem l4 : addL a3 (lf 2 0) = a3 := adN e4 (by decide)
theorem e5 : addE a3 (lf 4 2) = 160 := adE lf_may42 rfl
theorem l5 : addL a3 (lf 4 2) = a3 := adN e5 (by decide)
theorem e6 : drpE a3 1 = 161 := rfl
theorem l6 : drpL a3 1 = a3 := rfl
theorem e7 : drpE a3 3 = 0 := rfl
theorem l7 : drpL a3 3 = a2 := rfl
theorem e8 : drpE a2 3 = 81 := rfl
theorem l8 : drpL a2 3 = a2 := rfl
theorem p9 : pathL a3 3 = [3, 1] := rfl
theorem u9 : underL a3 1 = [2, 3] := rfl
section
variable {w0 w w' : World} {t : Nat} {L : List Sp}
/-- One tree, made behind w0. -/
def Tn (w0 w : World) (t : Nat) (L : List Sp) : Prop := ∃ χ, Fr w0 χ w ∧ Tre w χ 1 t L
theorem Tn.world (h : Tn w0 w t L) : Below w0.heap.size w0 w := by obtain ⟨χ, hf, _⟩ := h; exact hf.world
theorem Tn.fit (h : Tn w0 w t L) : Fit L := by obtain ⟨χ, _, h1⟩ := h; exact h1.2
theorem Tn.below (h : Tn w0 w t L) (hb : Below w.heap.size w w') : Tn w0 w' t L := by
  obtain ⟨χ, hf, h1⟩ := h
  exact ⟨χ, hf.below hb, h1.below hb⟩
theorem Tn.drew (h : Tn w0 w t L) : Tn w0 w.drew t L := h.below ((Below.refl _ w).trans ⟨rfl, rfl, rfl, Nat.le_refl _, fun _ _ => rfl⟩)
theorem tn_new (hb : Below w0.heap.size w0 w) : Calls Tryz.prog 10 #[] w fun e w' => ∃ C, e = .returned (ptr C) ∧ Tn w0 w' C [] := by
  refine (tnew_all w 1).mono ?_
  rintro e w' ⟨C, hC, rfl, hT, T⟩
  exact ⟨C, rfl, _, ((Fr.start w0).below hb).next (Col.new (c := 1) T 1) (by decide), hT _⟩
theorem tn_add (h : Tn w0 w t L) {p : Sp} (hp : p.ok) : Calls Tryz.prog 11 #[ptr t, .agg (sV p)] w fun e w' => e = .returned (eI (addE L p)) ∧ Tn w0 w' t (addL L p) := by
  obtain ⟨χ, hf, h1⟩ := h
  refine (add_any h1 hp).mono ?_
  rintro e w' ⟨e1, χ', hT, hC⟩
  exact ⟨e1, χ', hf.next hC (by decide), hT⟩
theorem tn_chg (h : Tn w0 w t L) {p : Sp} (hp : p.ok) : Calls Tryz.prog 13 #[ptr t, .agg (sV p)] w fun e w' => e = .returned (eI (chgE L p)) ∧ Tn w0 w' t (chL L p) := by
  obtain ⟨χ, hf, h1⟩ := h
  refine (chg_any h1 hp).mono ?_
  rintro e w' ⟨e1, χ', hT, hC⟩
  exact ⟨e1, χ', hf.next hC (by decide), hT⟩
theorem tn_drop (h : Tn w0 w t L) {k : Int} (hk : I64 k) : Calls Tryz.prog 15 #[ptr t, eI k] w fun e w' => e = .returned (eI (drpE L k)) ∧ Tn w0 w' t (drpL L k) := by
  obtain ⟨χ, hf, h1⟩ := h
  refine (drop_any h1 hk).mono ?_
  rintro e w' ⟨e1, χ', hT, hC⟩
  exact ⟨e1, χ', hf.next hC (by decide), hT⟩
theorem tn_get (h : Tn w0 w t L) {k : Int} (hk : I64 k) : Calls Tryz.prog 20 #[ptr t, eI k] w fun e w' => e = .returned (.tuple #[.agg (sV (getS L k)), .bool (hasS L k)]) ∧ Below w.heap.size w w' := by
  obtain ⟨χ, hf, h1⟩ := h
  exact tget_any h1 hk
theorem tn_under (h : Tn w0 w t L) {k : Int} (hk : I64 k) : Calls Tryz.prog 23 #[ptr t, eI k] w fun e w' => ∃ v, e = .returned v ∧ w'.ownsRow w.heap.size 3 1 v (underL L k).length ((underL L k).map eI) ∧ Below w.heap.size w w' := by
  obtain ⟨χ, hf, h1⟩ := h
  exact tunder_any h1 hk
theorem tn_path (h : Tn w0 w t L) {k : Int} (hk : I64 k) : Calls Tryz.prog 24 #[ptr t, eI k] w fun e w' => ∃ v, e = .returned v ∧ w'.ownsRow w.heap.size 3 1 v (pathL L k).length ((pathL L k).map eI) ∧ Below w.heap.size w w' := by
  obtain ⟨χ, hf, h1⟩ := h
  exact tpath_any h1 hk
theorem tn_leaves (h : Tn w0 w t L) {k : Int} (hk : I64 k) : Calls Tryz.prog 25 #[ptr t, eI k] w fun e w' => ∃ v, e = .returned v ∧ w'.ownsRow w.heap.size 3 1 v (leavesL L k).length ((leavesL L k).map eI) ∧ Below w.heap.size w w' := by
  obtain ⟨χ, hf, h1⟩ := h
  exact leaves_any h1 hk
theorem tn_ids (h : Tn w0 w t L) : Calls Tryz.prog 22 #[ptr t] w fun e w' => ∃ v, e = .returned v ∧ w'.ownsRow w.heap.size 3 1 v (idsL L).length ((idsL L).map eI) ∧ Below w.heap.size w w' := by
  obtain ⟨χ, hf, h1⟩ := h
  exact ids_any h1
theorem tn_len (h : Tn w0 w t L) : Calls Tryz.prog 21 #[ptr t] w fun e w' => e = .returned (eI (L.length : Int)) ∧ w = w' := by
  obtain ⟨χ, hf, h1⟩ := h
  exact tlen_any h1
end
section
variable {P : Program} {ops : Array Oper} {rest : List Oper} {o : Oper} {a : Act} {w : World} {Q : Exit → Act → World → Prop} {K : Act → World → Prop} {E : Prop}
/-- A slice of two values, made now, where it is wanted. -/
theorem wl_slw (t e : TypeId) {x y : Operand} {u v : Value} {cells : Array Value} (hw : Region.wanted o (yielded ops a.tmps) = true) (ho : o.op = .buildSlice t 2 #[(0, x), (1, y)]) (hx : a.eval x = u) (hy : a.eval y = v) (hu : P.underlying t = some (.slice e)) (hf : P.builtSlice e 2 [(0, u), (1, v)] = some cells)
    (h : ∀ w', Box w' w.heap.size cells e → Below w.heap.size w w' → wpList P ops Q rest (a.put o.dst (.slice (some ⟨w.heap.size, 0, none⟩) 2 2)) w') : wpList P ops Q (o :: rest) a w := by
  refine wpList_step fun K hK => ?_
  rw [if_pos hw]
  have hr : (Instr.buildSlice t 2 #[(0, u), (1, v)]).run P w = .ok (.slice (some ⟨w.heap.size, 0, none⟩) 2 2) (w.alloc (.cells cells e)) := by
    unfold Program.builtSlice at hf
    cases hie : P.info? e with
    | none => simp [hie] at hf
    | some ie =>
      simp only [hie] at hf
      cases hz : ie.zero with
      | none => simp [hz] at hf
      | some z =>
        simp only [hz] at hf
        by_cases hc : 2 * ie.size > 2 ^ 24 ∨ 2 * ie.size = 0
        · rw [if_pos hc] at hf; cases hf
        · rw [if_neg hc] at hf
          exact run_buildSlice w t e 2 _ cells ie z hu hie hz (fun h' => hc (Or.inl h')) (fun h' => hc (Or.inr h')) hf
  unfold Oper.wp execOp
  simp only [ho, List.map_toArray, List.map_cons, List.map_nil, hx, hy, Sem.run_bind, hr, Result.andThen_ok]
  exact hK _ _ (h _ (Box.new w e cells) (up1 w _))
end
set_option maxHeartbeats 4000000 in
set_option maxRecDepth 100000 in
theorem awake_any (w : World) : Calls Tryz.prog 26 #[] w fun e w' => e = .returned (.bool true) ∧ Below w.heap.size w w' := by
  have j1 : I64 1 := ⟨by decide, by decide⟩
  have j2 : I64 2 := ⟨by decide, by decide⟩
  have j3 : I64 3 := ⟨by decide, by decide⟩
  have j4 : I64 4 := ⟨by decide, by decide⟩
  have hN := tn_new (Below.refl w.heap.size w)
  have g1 := fun W => inn_any 1 0 W
  have g2 := fun W => lf_any 2 1 W
  have g3 := fun W => lf_any 3 1 W
  have g4 := fun W => lf_any 2 0 W
  have g5 := fun W => lf_any 4 2 W
  go_enter Tryz.func26, Tryz.ntmps26
  go_upto_region 6 with (first
    | (go_at_call 10; (with_reducible refine hN.mono ?_); rintro e w1 ⟨C, rfl, H1⟩; have hp := ptr_eq C)
    | (go_at_call 47; (with_reducible refine (g1 _).mono ?_); rintro e w2 ⟨rfl, T2⟩; have H2 := H1.below T2)
    | (go_at_call 11; (with_reducible refine (tn_add H2 inn_ok).mono ?_); rintro e w3 ⟨rfl, H3⟩; rw [e1]; rw [l1] at H3)
    | (go_at_call 48; (with_reducible refine (g2 _).mono ?_); rintro e w4 ⟨rfl, T4⟩; have H4 := H3.below T4)
    | (go_at_call 11; (with_reducible refine (tn_add H4 (lf_ok j2 j1)).mono ?_); rintro e w5 ⟨rfl, H5⟩; rw [e2]; rw [l2] at H5)
    | (go_at_call 48; (with_reducible refine (g3 _).mono ?_); rintro e w6 ⟨rfl, T6⟩; have H6 := H5.below T6)
    | (go_at_call 11; (with_reducible refine (tn_add H6 (lf_ok j3 j1)).mono ?_); rintro e w7 ⟨rfl, H7⟩; rw [e3]; rw [l3] at H7)
    | (go_at_call 48; (with_reducible refine (g4 _).mono ?_); rintro e w8 ⟨rfl, T8⟩; have H8 := H7.below T8)
    | (go_at_call 11; (with_reducible refine (tn_add H8 (lf_ok j2 i64_zero)).mono ?_); rintro e w9 ⟨rfl, H9⟩; rw [e4]; rw [l4] at H9)
    | (go_at_call 48; (with_reducible refine (g5 _).mono ?_); rintro e wa ⟨rfl, Ta⟩; have Ha := H9.below Ta)
    | (go_at_call 11; (with_reducible refine (tn_add Ha (lf_ok j4 j2)).mono ?_); rintro e wb ⟨rfl, Hb⟩; rw [e5]; rw [l5] at Hb)
    | (go_at_call 15; (with_reducible refine (tn_drop Hb j1).mono ?_); rintro e wc ⟨rfl, Hc⟩; rw [e6]; rw [l6] at Hc))
  have hPa := tn_path Hc j3
  rw [p9] at hPa
  go_wp2_with (first
    | (go_at_call 24; (with_reducible refine hPa.mono ?_); rintro e wd ⟨v1, rfl, O1, Td⟩; have Hd := Hc.below Td)
    | (refine wl_slw (u := eI 3) (v := eI 1) 53 3 rfl rfl rfl rfl Tryz.underlying53 (bsl3_2 3 1) ?_; intro we Xe Te; have He := Hd.below Te; have N2 := own_two Xe (Nat.le_refl _); rw [rowI_map] at N2; have O2 := own_below O1 Te; have hS1 := same_true O2 N2 (by decide))
    | (go_at_call 28; (with_reducible refine hS1.mono ?_); rintro e wf ⟨rfl, Tf⟩; have Hf := He.below Tf; have hUn := tn_under Hf j1; rw [u9] at hUn)
    | (go_at_call 23; (with_reducible refine hUn.mono ?_); rintro e wg ⟨v3, rfl, O3, Tg⟩; have Hg := Hf.below Tg)
    | (refine wl_slw (u := eI 2) (v := eI 3) 53 3 rfl rfl rfl rfl Tryz.underlying53 (bsl3_2 2 3) ?_; intro wh Xh Th; have Hh := Hg.below Th; have N4 := own_two Xh (Nat.le_refl _); rw [rowI_map] at N4; have O4 := own_below O3 Th; have hS2 := same_true O4 N4 (by decide))
    | (go_at_call 28; (with_reducible refine hS2.mono ?_); rintro e wi ⟨rfl, Ti⟩; have Hi := Hh.below Ti)
    | (go_at_call 15; (with_reducible refine (tn_drop Hi j3).mono ?_); rintro e wj ⟨rfl, Hj⟩; rw [e7]; rw [l7] at Hj)
    | (go_at_call 15; (with_reducible refine (tn_drop Hj j3).mono ?_); rintro e wk ⟨rfl, Hk⟩; rw [e8]; rw [l8] at Hk; have hLn := tn_len Hk)
    | (go_at_call 21; (with_reducible refine hLn.mono ?_); rintro e wl ⟨rfl, rfl⟩))
  go_ret
  exact ⟨by simp [a2], Hk.world⟩
set_option maxHeartbeats 4000000 in
set_option maxRecDepth 100000 in
theorem played_any (a : Option Addr) (n c : Nat) (xs : Nat → Ac) (V0 w : World) (hT0 : Below V0.heap.size V0 w) (hI : IsRow aV 15 V0 a n c xs) (hok : ∀ i, (xs i).ok) (hcm : c ≤ maxLen) :
    Calls Tryz.prog 27 #[.slice a n c] w fun e w' => ∃ C L, e = .returned (ptr C) ∧ Tn V0 w' C L := by
  have hN := tn_new hT0
  have j1 : (n : Int) ≤ (c : Int) := by have := hI.1; omega
  have hIh := Lib.hid hI
  have hoh := Lib.hid hok
  clear hI hok
  have hu := undef_ne
  have hcl : c ≤ 9223372036854775807 := Nat.le_trans hcm (by decide)
  go_enter Tryz.func27, Tryz.ntmps27
  go_wp2_with (first
    | (go_at_call 10; (with_reducible refine hN.mono ?_); rintro e w1 ⟨C, rfl, H1⟩; have hp := ptr_ne C))
  go_loopw [4] (fun s4 wr => ∃ i : Nat, s4 = .int .i64 i ∧ i ≤ n ∧ ∃ L, Tn V0 wr C L) (fun s4 _ => n - (intOf s4).toNat)
  case atStart => exact ⟨0, rfl, by omega, _, H1⟩
  case round =>
    clear H1
    obtain ⟨i, rfl, hi, L, hP⟩ := hrel
    by_cases hlt : i < n
    · have i1 : (i : Int) < (n : Int) := by omega
      have i2 : (0 : Int) ≤ (i : Int) := by omega
      have hw1 : IntKind.i64.wrap ((i : Int) + 1) = (i : Int) + 1 := i64_id (by omega)
      obtain ⟨b, q, rfl, hb, hcell⟩ := act_at hIh.out i hlt
      obtain ⟨hk0, hs⟩ := hoh.out i
      generalize xs i = y at *
      obtain ⟨x0, x1, x2⟩ := hcell wr hP.world
      have hm4 : y.k % 4 = 0 ∨ y.k % 4 = 1 ∨ y.k % 4 = 2 ∨ y.k % 4 = 3 := by omega
      rcases hm4 with hm | hm | hm | hm
      · have hr : y.k.tmod 4 = 0 := by rw [Int.tmod_eq_emod_of_nonneg hk0.1]; exact hm
        go_wp2_with (first
          | (refine wl_run (xl_loadr x2 rfl rfl) rfl ?_)
          | (go_at_call 11; (with_reducible refine (tn_add hP hs).mono ?_); rintro e wc ⟨rfl, Qc⟩))
        exact ⟨⟨i + 1, rfl, by omega, _, Qc⟩, by simp [intOf]; omega⟩
      · have hr : y.k.tmod 4 = 1 := by rw [Int.tmod_eq_emod_of_nonneg hk0.1]; exact hm
        go_wp2_with (first
          | (refine wl_run (xl_loadr x2 rfl rfl) rfl ?_)
          | (go_at_call 13; (with_reducible refine (tn_chg hP hs).mono ?_); rintro e wc ⟨rfl, Qc⟩))
        exact ⟨⟨i + 1, rfl, by omega, _, Qc⟩, by simp [intOf]; omega⟩
      · have hr : y.k.tmod 4 = 2 := by rw [Int.tmod_eq_emod_of_nonneg hk0.1]; exact hm
        have hQ1 := tn_drop hP hs.1
        go_wp2_with (first
          | (go_at_call 15; (with_reducible refine hQ1.mono ?_); rintro e wc ⟨rfl, Qc⟩))
        exact ⟨⟨i + 1, rfl, by omega, _, Qc⟩, by simp [intOf]; omega⟩
      · have hr : y.k.tmod 4 = 3 := by rw [Int.tmod_eq_emod_of_nonneg hk0.1]; exact hm
        go_wp2_with fail
        exact ⟨⟨i + 1, rfl, by omega, _, hP⟩, by simp [intOf]; omega⟩
    · have i1 : ¬ (i : Int) < (n : Int) := by omega
      go_wp2_with fail
      go_ret
      first | exact ⟨_, _, rfl, hP⟩ | exact ⟨_, rfl, _, hP⟩
end Go.Proofs.YtpopcnebndgblaaGreat.H
