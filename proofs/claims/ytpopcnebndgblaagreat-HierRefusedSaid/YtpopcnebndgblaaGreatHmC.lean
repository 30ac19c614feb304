/- The document's tree as an object in memory, with all it can be asked for. Condition: numbers are what the fields can hold. -/
import Derived.Test.YtpopcnebndgblaaGreatHmB
namespace Go.Proofs.YtpopcnebndgblaaGreat.H
open Go.ChangeShapes Go.WideShapes Go.Deep Go.RowKit
set_option linter.unusedVariables false
set_option linter.unusedSimpArgs false
def fS (p : Sp) : List Value := (sV p).toList
theorem cellsS : Cells fS 14 := ⟨fun _ => rfl, fun x u hu => by
  have h := Array.all_eq_true'.1 (sV_one x) u (by simpa [fS] using hu)
  exact h⟩
theorem rowS : RowTy Tryz.prog 27 34 14 := ⟨Tryz.underlying27, by decide, by
  obtain ⟨i, h1, h2, h3, h4⟩ := info_parts (show (Tryz.prog.info? 34).map (fun i => (i.zero, i.size, i.bytes)) = some (some (.agg (sV Sp.zero)), 14, 112) by kernel_rfl)
  exact ⟨i, _, 112, h1, h2, h3, h4, rfl, by decide⟩⟩
theorem fS_0 (p : Sp) : (fS p)[0]? = some (.int .i64 p.id) := rfl
theorem fS_1 (p : Sp) : (fS p)[1]? = some (.int .i64 p.par) := rfl
theorem fS_2 (p : Sp) : (fS p)[2]? = some (.bool p.leaf) := rfl
/-- Block B is the document's tree of the classes L, in the colour c. -/
def Rt (w : World) (χ : Nat → Nat) (c B : Nat) (L : List Sp) : Prop :=
  ∃ v, Box w B #[v] 29 ∧ χ B = c ∧ w.ownsRow 0 34 14 v L.length (rowC fS L) ∧ ∀ g, v.ownBlock = some g → χ g = c
section
variable {w w' : World} {χ χ' : Nat → Nat} {c d B : Nat} {L : List Sp}
theorem Rt.off {Z : Nat → Prop} (h : Rt w χ c B L) (ho : Off Z w w') (hn : ∀ k, χ k = c → ¬ Z k) (hc : ∀ k, k < w.heap.size → χ' k = χ k) : Rt w' χ' c B L := by
  obtain ⟨v, h1, h2, h3, h4⟩ := h
  exact ⟨v, ho.box h1 (hn B h2), (hc B h1.lt).trans h2, ho.owns h3 (fun g e => hn g (h4 g e)), fun g e => (hc g (h3.lt g e).2).trans (h4 g e)⟩
theorem Rt.below (h : Rt w χ c B L) (hb : Below w.heap.size w w') : Rt w' χ c B L := h.off (Z := fun _ => False) (Off.of hb) (fun _ _ h => h) (fun _ _ => rfl)
theorem Rt.other (h : Rt w χ c B L) (k : Col χ χ' d w w') (hd : c ≠ d) : Rt w' χ' c B L :=
  h.off (Z := fun b => χ b = d) ⟨k.os, k.tape, k.output, k.size, fun i hi hn => k.block i hi hn⟩ (fun b e g => hd (e.symm.trans g)) k.col
theorem Rt.new (h : Rt w χ c B L) (hb : Below w.heap.size w w') (d : Nat) : Rt w' (recol χ w.heap.size d) c B L := h.off (Z := fun _ => False) (Off.of hb) (fun _ _ h => h) (fun _ hk => recol_lt hk)
/-- The cells of a class that is there. -/
theorem row_cells {v : Value} {n : Nat} (h : w.ownsRow 0 34 14 v n (rowC fS L)) (hn : L.length = n) : ∃ a cap, v = .slice a n cap ∧ n ≤ cap ∧ cap ≤ maxLen ∧ ∀ i p, L[i]? = some p → ∃ g, a = some ⟨g, 0, none⟩ ∧ g < w.heap.size ∧
    ∀ w', Below w.heap.size w w' → w'.cell? ⟨g, i * 14, none⟩ = some (.int .i64 p.id) ∧ w'.cell? ⟨g, i * 14 + 1, none⟩ = some (.int .i64 p.par) ∧ w'.cell? ⟨g, i * 14 + 2, none⟩ = some (.bool p.leaf) ∧ w'.rangeAt g (i * 14) (sV p).toList := by
  rcases own_form h with ⟨rfl, rfl⟩ | ⟨g, cap, rfl, hc, _, hlt⟩
  · exact ⟨none, 0, rfl, Nat.le_refl _, by decide, fun i p hp => by
      obtain rfl : L = [] := List.eq_nil_of_length_eq_zero hn
      simp at hp⟩
  · have hm : cap ≤ maxLen := by
      rcases h.2 with ⟨e, _⟩ | ⟨g', cap', cur, e, _, _, _, hm, _⟩
      · cases e
      · cases e; exact hm
    refine ⟨_, cap, rfl, hc, hm, fun i p hp => ⟨g, rfl, hlt, fun w' hb => ?_⟩⟩
    have e := fun j hj u hu => (hb.cell (p := ⟨g, i * 14 + j, none⟩) hlt).trans (own_elem cellsS h i p hp j hj u hu)
    refine ⟨e 0 (by omega) _ (fS_0 p), e 1 (by omega) _ (fS_1 p), e 2 (by omega) _ (fS_2 p), fun j u hu => ?_⟩
    have hj : j < 14 := by
      rcases Nat.lt_or_ge j 14 with h | h
      · exact h
      · rw [List.getElem?_eq_none (by rw [Array.length_toList, sV_size]; exact h)] at hu; cases hu
    exact e j hj u hu
set_option maxHeartbeats 4000000 in
set_option maxRecDepth 100000 in
theorem rat_any (h : Rt w χ c B L) (hl : L.length ≤ 64) (k : Int) :
    Calls Tryz.prog 34 #[ptr B, eI k] w fun e w' => ((∃ (i : Nat) (p : Sp), e = .returned (eI (i : Int)) ∧ L[i]? = some p ∧ p.id = k) ∨ (e = .returned (eI (-1)) ∧ ∀ p ∈ L, p.id ≠ k)) ∧ w = w' := by
  obtain ⟨v, h1, h2, h3, h4⟩ := h
  obtain ⟨a, cap, rfl, hc, hm, hx⟩ := row_cells h3 rfl
  have c0 := h1.cell 0
  replace hx := Lib.hid hx
  obtain ⟨n, hn⟩ : ∃ n, L.length = n := ⟨_, rfl⟩
  have hn' := Lib.hid hn
  rw [hn] at hl hc h1 c0 h3
  clear h1 h2 h3 h4
  have j1 : (n : Int) ≤ (cap : Int) := by omega
  go_enter Tryz.func34, Tryz.ntmps34
  go_wp2
  go_loopw [5] (fun s5 wr => ∃ i : Nat, s5 = .int .i64 i ∧ i ≤ n ∧ (∀ j p, j < i → L[j]? = some p → p.id ≠ k) ∧ w = wr) (fun s5 _ => n - (intOf s5).toNat)
  case atStart => exact ⟨0, rfl, by omega, fun j p hj => by omega, rfl⟩
  case round =>
    obtain ⟨i, rfl, hi, hno, rfl⟩ := hrel
    by_cases hlt : i < n
    · have i1 : (i : Int) < (n : Int) := by omega
      have i2 : (0 : Int) ≤ (i : Int) := by omega
      have hw1 : IntKind.i64.wrap ((i : Int) + 1) = (i : Int) + 1 := i64_id (by omega)
      obtain ⟨p, hp⟩ : ∃ p, L[i]? = some p := ⟨_, List.getElem?_eq_getElem (by rw [hn'.out]; exact hlt)⟩
      obtain ⟨g, rfl, _, hcell⟩ := hx.out i p hp
      obtain ⟨d0, d1, d2, _⟩ := hcell _ (Below.refl _ _)
      by_cases hk : p.id = k
      · have hkb : (p.id == k) = true := by simpa using hk
        replace hk := Lib.hid hk
        replace hp := Lib.hid hp
        clear hcell hno
        go_wp2
        go_ret
        exact ⟨.inl ⟨i, p, rfl, hp.out, hk.out⟩, rfl⟩
      · have hkb : (p.id == k) = false := by simpa using hk
        replace hk := Lib.hid hk
        have hnx : ∀ j q, j < i + 1 → L[j]? = some q → q.id ≠ k := fun j q hj hq => by
          rcases Nat.lt_or_ge j i with h | h
          · exact hno j q h hq
          · obtain rfl : j = i := by omega
            rw [hp] at hq; cases hq; exact hk.out
        have hnx' := Lib.hid hnx
        clear hcell hno hp hnx
        go_wp2
        exact ⟨⟨i + 1, (by simp), (by omega), hnx'.out, trivial⟩, by simp [intOf]; omega⟩
    · obtain rfl : i = n := by omega
      have i1 : ¬ (i : Int) < (i : Int) := by omega
      have hall := Lib.hid hno
      clear hno
      go_wp2
      go_ret
      refine ⟨.inr ⟨rfl, fun p hp e => ?_⟩, rfl⟩
      obtain ⟨j, hj, e2⟩ := List.getElem_of_mem hp
      exact hall.out j p (by rw [← hn'.out]; exact hj) (by rw [List.getElem?_eq_getElem hj, e2]) e
end
end Go.Proofs.YtpopcnebndgblaaGreat.H

namespace Go.Proofs.YtpopcnebndgblaaGreat.H
open Go.ChangeShapes Go.WideShapes Go.Deep Go.RowKit
set_option linter.unusedVariables false
set_option linter.unusedSimpArgs false
section
variable {P : Program} {ops : Array Oper} {rest : List Oper} {o : Oper} {a : Act} {w : World} {Q : Exit → Act → World → Prop}
theorem xl_loadr {x : Operand} {B k : Nat} {p : Sp} (hr : w.rangeAt B k (sV p).toList) (ho : o.op = .load 34 x) (hx : a.eval x = .pointer (some ⟨B, k, none⟩)) : (execOp a.eval o).run Tryz.prog w = .ok (.value (.agg (sV p))) w := by
  unfold execOp
  have h := run_loadVar_mid (P := Tryz.prog) w B k 34 (sV p).toList _ hr Tryz.underlying34 rfl (by rw [size34]; rfl)
  simp only [ho, hx, Instr.loadAt, Instr.sureAddr, Sem.run_bind, Sem.run_pure, Result.andThen_ok, h, Array.toArray_toList]
end
section
variable {w w' : World} {χ χ' : Nat → Nat} {c d B : Nat} {L : List Sp}
set_option maxHeartbeats 4000000 in
set_option maxRecDepth 100000 in
theorem rget_any (h : Rt w χ c B L) (hF : Fit L) (k : Int) :
    Calls Tryz.prog 35 #[ptr B, eI k] w fun e w' => e = .returned (.tuple #[.agg (sV (getS L k)), .bool (hasS L k)]) ∧ Below w.heap.size w w' := by
  have hA := fun W (hW : Below w.heap.size w W) => rat_any (h.below hW) hF.few k
  have h' := h
  obtain ⟨v, h1, h2, h3, h4⟩ := h'
  obtain ⟨a, cap, rfl, hc, hm, hx⟩ := row_cells h3 rfl
  have hlen := hF.few
  have hb := h1
  clear h h1 h2 h3 h4
  go_enter Tryz.func35, Tryz.ntmps35
  go_upto_region 2 with (first
    | (refine wl_alloc 34 rfl rfl zero34 ?_; intro w1 X1 T1; have hA1 := hA w1 T1; have c1 := (hb.below T1).cell 0)
    | (go_at_call 34; (with_reducible refine hA1.mono ?_); rintro e w2 ⟨(⟨i, p, rfl, hp, hpk⟩ | ⟨rfl, hno⟩), rfl⟩))
  · have hi : i < L.length := by
      rcases Nat.lt_or_ge i L.length with h | h
      · exact h
      · rw [List.getElem?_eq_none h] at hp; cases hp
    have hpm : p ∈ L := List.mem_of_getElem? hp
    obtain ⟨g, rfl, _, hcell⟩ := hx i p hp
    obtain ⟨d0, d1, d2, d3⟩ := hcell w1 T1
    have e1 : getS L k = p := by rw [← hpk]; exact getS_mem hF.tree hpm
    have e2 : hasS L k = true := by rw [← hpk]; exact hasS_mem hF.tree hpm
    have E1 := Lib.hid e1
    have E2 := Lib.hid e2
    have i1 : (i : Int) < (L.length : Int) := by omega
    have i2 : (0 : Int) ≤ (i : Int) := by omega
    have i3 : ¬ (i : Int) < 0 := by omega
    clear hx hcell hA hA1 hp hpm hpk e1 e2 hF d0 d1 d2
    go_wp2_with (first
      | (refine wl_run (xl_loadr d3 rfl rfl) rfl ?_)
      | (refine wl_store 34 X1 rfl rfl rfl rfl size34 rfl (by omega : 0 + 14 ≤ 14) (sV_one _) (spl_ss _ _) ?_; intro w3 X3 K3))
    refine bodyPost_ret (v := .tuple #[.agg (sV p), .bool true]) ?_ rfl ⟨by rw [E1.out, E2.out], K3.up T1 (Nat.le_refl _)⟩
    exact results_cell_two rfl _ _ _ _ _ _ _ rfl rfl X3 Tryz.underlying34 rfl size34
  · have E1 := Lib.hid (getS_none hno)
    have E2 := Lib.hid (hasS_none hno)
    clear hx hA hA1 hno hF
    go_wp2_with (first
      | (refine wl_build 34 (parts := []) rfl rfl built34 ?_)
      | (refine wl_store 34 X1 rfl rfl rfl rfl size34 rfl (by omega : 0 + 14 ≤ 14) (sV_one _) (spl_ss _ _) ?_; intro w3 X3 K3))
    refine bodyPost_ret (v := .tuple #[.agg (sV Sp.zero), .bool false]) ?_ rfl ⟨by rw [E1.out, E2.out], K3.up T1 (Nat.le_refl _)⟩
    exact results_cell_two rfl _ _ _ _ _ _ _ rfl rfl X3 Tryz.underlying34 rfl size34
theorem path_short (hF : Fit L) (k : Int) : (pathL L k).length ≤ L.length := by
  rcases has_or L k with ⟨p, hp, rfl⟩ | hn
  · obtain ⟨l, hl, _⟩ := hF.tree.way p hp
    rw [pathL_of hF.tree hl]
    have := nodup_le (m := idsL L) (hl.nodup hF.tree.ord hF.tree.pos) (fun j hj => by obtain ⟨c, hc, e⟩ := hl.mem j hj; exact mem_ids.2 ⟨c, hc, e⟩)
    unfold idsL at this
    simpa using this
  · rw [hF.tree.none hn]; simp
set_option maxHeartbeats 4000000 in
set_option maxRecDepth 100000 in
theorem rpath_any (h : Rt w χ c B L) (hF : Fit L) {k : Int} (hk : I64 k) :
    Calls Tryz.prog 36 #[ptr B, eI k] w fun e w' => ∃ v, e = .returned v ∧ w'.ownsRow w.heap.size 3 1 v (pathL L k).length ((pathL L k).map eI) ∧ Below w.heap.size w w' := by
  have hb := h
  obtain ⟨vv, hb1, _, h3, _⟩ := hb
  obtain ⟨aa, cap, rfl, _⟩ := row_cells h3 rfl
  have hll := hF.few
  have hN : ∀ W : World, W.ownsRow w.heap.size 3 1 (.slice none 0 0) 0 (rowC fI ([] : List Int)) := fun W => World.ownsRow_nil _ _ _ _
  obtain ⟨hP, h8⟩ := pw_any hF.tree k
  have hsh := path_short hF k
  generalize pathL L k = full at *
  clear h3
  go_enter Tryz.func36, Tryz.ntmps36
  go_wp2
  go_loopw [1, 5, 6] (fun s1 s5 s6 wr => ∃ (j : Int) (pre l : List Int), s1 = eI j ∧ pre ++ l = full ∧ Pw (getS L) j l ∧ I64 j ∧ s6 = .int .i64 (pre.length : Int) ∧ wr.ownsRow w.heap.size 3 1 s5 pre.length (rowC fI pre) ∧ Below w.heap.size w wr) (fun _ _ s6 _ => 100 - (intOf s6).toNat)
  case atStart => exact ⟨k, [], full, rfl, rfl, hP, hk, rfl, hN _, Below.refl _ _⟩
  case round =>
    obtain ⟨j, pre, l, rfl, hf, hp, hj, rfl, hO, hT⟩ := hrel
    have hpl : pre.length ≤ 8 := by rw [← hf] at h8; simp at h8; omega
    have hpl2 : pre.length ≤ L.length := by rw [← hf] at hsh; simp at hsh; omega
    have i1 : (pre.length : Int) ≤ (L.length : Int) := by omega
    have hw1 : IntKind.i64.wrap ((pre.length : Int) + 1) = (pre.length : Int) + 1 := i64_id (by omega)
    have c0 := (hb1.below hT).cell 0
    have hG := rget_any (h.below hT) hF j
    cases hp with
    | stop hs =>
      rw [hs, ← getS_has hF.tree, hs, decide_eq_true rfl] at hG
      have hfl : pre = full := by simpa using hf
      replace hfl := Lib.hid hfl
      replace hs := Lib.hid hs
      clear hf hP
      go_wp2_with (first
        | (go_at_call 35; (with_reducible refine hG.mono ?_); rintro e w2 ⟨rfl, T2⟩; have O2 := own_below hO T2; have S2 := ups hT T2 hT.size)
        | (refine wl_alloc 34 rfl rfl zero34 ?_; intro w3 X3 T3; have O3 := own_below O2 T3; have S3 := ups S2 T3 S2.size)
        | (refine wl_store 34 X3 rfl rfl rfl rfl size34 rfl (by omega : 0 + 14 ≤ 14) (sV_one _) (spl_ss _ _) ?_; intro w4 X4 K4; have O4 := own_but O3 K4 (own_lt_ne O2 (Nat.le_refl _)); have S4 := K4.up S3 S2.size; have c1 := (X4.cell 1).trans (sV_1 _)))
      go_ret
      rw [← hfl.out, ← rowI_map]
      exact ⟨_, rfl, O4, S4⟩
    | @up _ l hs hp =>
      rw [← getS_has hF.tree, decide_eq_false hs] at hG
      have hok := (hF.ok j).2.1
      have hf' := Lib.hid hf
      replace hs := Lib.hid hs
      clear hf hP
      go_wp2_with (first
        | (go_at_call 35; (with_reducible refine hG.mono ?_); rintro e w2 ⟨rfl, T2⟩; have O2 := own_below hO T2; have S2 := ups hT T2 hT.size)
        | (refine wl_alloc 34 rfl rfl zero34 ?_; intro w3 X3 T3; have O3 := own_below O2 T3; have S3 := ups S2 T3 S2.size)
        | (refine wl_store 34 X3 rfl rfl rfl rfl size34 rfl (by omega : 0 + 14 ≤ 14) (sV_one _) (spl_ss _ _) ?_; intro w4 X4 K4; have O4 := own_but O3 K4 (own_lt_ne O2 (Nat.le_refl _)); have S4 := K4.up S3 S2.size; have c1 := (X4.cell 1).trans (sV_1 _))
        | (refine wl_sl 53 3 rfl rfl rfl Tryz.underlying53 (bsl3 _) ?_; intro w5 X5 T5; have O5 := own_below O4 T5; have Y5 := X4.below T5; have S5 := ups S4 T5 S4.size; have F5 := flat_new (f := fI) (x := j) X5 rfl; have hr5 : some w2.heap.size ≠ u5.ownBlock := fun e => own_lt_ne O2 (Nat.le_refl _) e.symm)
        | (refine wpList_more rowI cellsI rfl _ _ rfl w.heap.size u5 pre [j] pre.length 1 rfl rfl rfl O5 _ 1 rfl F5 (by omega) S5.size ?_; intro v6 w6 O6 G6 N6 _; have d1 := ((Y5.grown G6 hr5).cell 1).trans (sV_1 _); have S6 := S5.grown G6 S5.size (fun g e => (O5.lt g e).1)))
      refine ⟨⟨(getS L j).par, pre ++ [j], l, rfl, ?_, hp, hok, by simp, ?_, S6⟩, by simp [intOf]; omega⟩
      · rw [← hf'.out]; simp
      · rw [List.length_append]; exact O6
end
end Go.Proofs.YtpopcnebndgblaaGreat.H

namespace Go.Proofs.YtpopcnebndgblaaGreat.H
open Go.ChangeShapes Go.WideShapes Go.Deep Go.RowKit
set_option linter.unusedVariables false
set_option linter.unusedSimpArgs false
section
variable {w w' : World} {χ χ' : Nat → Nat} {c d B base n : Nat} {L : List Sp} {zs : List Int}
theorem rowI_cells {v : Value} (h : w.ownsRow base 3 1 v n (zs.map eI)) : ∃ a cap, v = .slice a n cap ∧ n ≤ cap ∧ cap ≤ maxLen ∧ ∀ i x, zs[i]? = some x → ∃ g, a = some ⟨g, 0, none⟩ ∧ g < w.heap.size ∧ ∀ w', Below w.heap.size w w' → w'.cell? ⟨g, i, none⟩ = some (.int .i64 x) := by
  have hl := own_lenI h
  rcases own_form h with ⟨rfl, rfl⟩ | ⟨g, cap, rfl, hc, _, hlt⟩
  · exact ⟨none, 0, rfl, Nat.le_refl _, by decide, fun i p hp => by
      obtain rfl : zs = [] := List.eq_nil_of_length_eq_zero hl
      simp at hp⟩
  · have hm : cap ≤ maxLen := by
      rcases h.2 with ⟨e, _⟩ | ⟨g', cap', cur, e, _, _, _, hm, _⟩
      · cases e
      · cases e; exact hm
    refine ⟨_, cap, rfl, hc, hm, fun i x hx => ⟨g, rfl, hlt, fun w' hb => ?_⟩⟩
    have e := h.cells (g := g) rfl i (eI x) (by rw [List.getElem?_map, hx]; rfl)
    rw [add_plain, Nat.zero_add] at e
    exact (hb.cell (p := ⟨g, i, none⟩) hlt).trans e
set_option maxHeartbeats 4000000 in
set_option maxRecDepth 100000 in
theorem rhas_any {v : Value} (h : w.ownsRow base 3 1 v n (zs.map eI)) (hl : n ≤ 100000) (k : Int) :
    Calls Tryz.prog 57 #[v, eI k] w fun e w' => e = .returned (.bool (zs.contains k)) ∧ w = w' := by
  obtain ⟨a, cap, rfl, hc, hm, hx⟩ := rowI_cells h
  have hz := own_lenI h
  replace hx := Lib.hid hx
  obtain ⟨bz, hbz⟩ : ∃ b, zs.contains k = b := ⟨_, rfl⟩
  rw [hbz]
  have hbz' := Lib.hid hbz
  clear h hbz
  have j1 : (n : Int) ≤ (cap : Int) := by omega
  go_enter Tryz.func57, Tryz.ntmps57
  go_wp2
  go_loopw [5] (fun s5 wr => ∃ i : Nat, s5 = .int .i64 i ∧ i ≤ n ∧ (∀ j x, j < i → zs[j]? = some x → x ≠ k) ∧ w = wr) (fun s5 _ => n - (intOf s5).toNat)
  case atStart => exact ⟨0, rfl, by omega, fun j p hj => by omega, rfl⟩
  case round =>
    obtain ⟨i, rfl, hi, hno, rfl⟩ := hrel
    by_cases hlt : i < n
    · have i1 : (i : Int) < (n : Int) := by omega
      have i2 : (0 : Int) ≤ (i : Int) := by omega
      have hw1 : IntKind.i64.wrap ((i : Int) + 1) = (i : Int) + 1 := i64_id (by omega)
      obtain ⟨x, hp⟩ : ∃ x, zs[i]? = some x := ⟨_, List.getElem?_eq_getElem (by rw [hz]; exact hlt)⟩
      obtain ⟨g, rfl, _, hcell⟩ := hx.out i x hp
      have d0 := hcell _ (Below.refl _ _)
      by_cases hk : x = k
      · have hkb : (x == k) = true := by simpa using hk
        have hcon : zs.contains k = true := by rw [← hk]; exact List.contains_iff_mem.2 (List.mem_of_getElem? hp)
        replace hk := Lib.hid hk
        obtain rfl : bz = true := by rw [← hbz'.out, hcon]
        clear hcell hno hp hcon
        go_wp2
        go_ret
        exact ⟨rfl, rfl⟩
      · have hkb : (x == k) = false := by simpa using hk
        replace hk := Lib.hid hk
        have hnx : ∀ j y, j < i + 1 → zs[j]? = some y → y ≠ k := fun j q hj hq => by
          rcases Nat.lt_or_ge j i with h | h
          · exact hno j q h hq
          · obtain rfl : j = i := by omega
            rw [hp] at hq; cases hq; exact hk.out
        have hnx' := Lib.hid hnx
        clear hcell hno hp hnx
        go_wp2
        exact ⟨⟨i + 1, (by simp), (by omega), hnx'.out, trivial⟩, by simp [intOf]; omega⟩
    · obtain rfl : i = n := by omega
      have i1 : ¬ (i : Int) < (i : Int) := by omega
      have hcon : zs.contains k = false := by
        cases hh : zs.contains k with
        | false => rfl
        | true =>
          obtain ⟨j, hj, e2⟩ := List.getElem_of_mem (List.contains_iff_mem.1 hh)
          exact absurd rfl (hno j k (by omega) (by rw [List.getElem?_eq_getElem hj, e2]))
      obtain rfl : bz = false := by rw [← hbz'.out, hcon]
      clear hno hcon
      go_wp2
      go_ret
      exact ⟨rfl, rfl⟩
set_option maxHeartbeats 4000000 in
set_option maxRecDepth 100000 in
theorem same_true {b2 : Nat} {u v : Value} (hu : w.ownsRow base 3 1 u n (zs.map eI)) (hv : w.ownsRow b2 3 1 v n (zs.map eI)) (hl : n ≤ 100000) :
    Calls Tryz.prog 28 #[u, v] w fun e w' => e = .returned (.bool true) ∧ Below w.heap.size w w' := by
  obtain ⟨a, cap, rfl, hc, hm, hx⟩ := rowI_cells hu
  obtain ⟨b, cap2, rfl, hc2, hm2, hy⟩ := rowI_cells hv
  have hz := own_lenI hu
  replace hx := Lib.hid hx
  replace hy := Lib.hid hy
  clear hu hv
  have j1 : (n : Int) ≤ (cap : Int) := by omega
  have j2 : (n : Int) ≤ (cap2 : Int) := by omega
  go_enter Tryz.func28, Tryz.ntmps28
  go_wp2
  go_loopw [5] (fun s5 wr => ∃ i : Nat, s5 = .int .i64 i ∧ i ≤ n ∧ Below w.heap.size w wr) (fun s5 _ => n - (intOf s5).toNat)
  case atStart => exact ⟨0, rfl, by omega, Below.refl _ _⟩
  case round =>
    obtain ⟨i, rfl, hi, T⟩ := hrel
    by_cases hlt : i < n
    · have i1 : (i : Int) < (n : Int) := by omega
      have i2 : (0 : Int) ≤ (i : Int) := by omega
      have hw1 : IntKind.i64.wrap ((i : Int) + 1) = (i : Int) + 1 := i64_id (by omega)
      obtain ⟨x, hp⟩ : ∃ x, zs[i]? = some x := ⟨_, List.getElem?_eq_getElem (by rw [hz]; exact hlt)⟩
      obtain ⟨g, rfl, _, hcell⟩ := hx.out i x hp
      obtain ⟨g', rfl, _, hcell'⟩ := hy.out i x hp
      have d0 := hcell wr T
      have d1 := hcell' wr T
      clear hcell hcell' hp
      go_upto_region 6 with fail
      go_region
      all_goals go_wp2
      all_goals exact ⟨⟨i + 1, rfl, by omega, T.drew⟩, by simp [intOf]; omega⟩
    · obtain rfl : i = n := by omega
      have i1 : ¬ (i : Int) < (i : Int) := by omega
      go_wp2
      go_ret
      exact ⟨rfl, T⟩
set_option maxHeartbeats 4000000 in
set_option maxRecDepth 100000 in
theorem rids_any (h : Rt w χ c B L) (hF : Fit L) :
    Calls Tryz.prog 42 #[ptr B] w fun e w' => ∃ v, e = .returned v ∧ w'.ownsRow w.heap.size 3 1 v (idsL L).length ((idsL L).map eI) ∧ Below w.heap.size w w' := by
  obtain ⟨v, h1, h2, h3, h4⟩ := h
  obtain ⟨a, cap, rfl, hc, hm, hx⟩ := row_cells h3 rfl
  have hl := hF.few
  replace hx := Lib.hid hx
  have hb := h1
  clear h1 h2 h3 h4
  have hN : ∀ W : World, W.ownsRow w.heap.size 3 1 (.slice none 0 0) 0 (rowC fI ([] : List Int)) := fun W => World.ownsRow_nil _ _ _ _
  have j1 : (L.length : Int) ≤ (cap : Int) := by omega
  go_enter Tryz.func42, Tryz.ntmps42
  go_wp2
  go_loopw [3, 4] (fun s3 s4 wr => ∃ i : Nat, s4 = .int .i64 i ∧ i ≤ L.length ∧ wr.ownsRow w.heap.size 3 1 s3 (idsL (L.take i)).length (rowC fI (idsL (L.take i))) ∧ Below w.heap.size w wr) (fun _ s4 _ => L.length - (intOf s4).toNat)
  case atStart => exact ⟨0, rfl, by omega, by simpa [idsL, rowC] using hN w, Below.refl _ _⟩
  case round =>
    obtain ⟨i, rfl, hi, hO, hT⟩ := hrel
    have hln : (idsL (L.take i)).length ≤ 64 := by unfold idsL; rw [List.length_map, List.length_take]; omega
    by_cases hlt : i < L.length
    · have i1 : (i : Int) < (L.length : Int) := by omega
      have i2 : (0 : Int) ≤ (i : Int) := by omega
      have hw1 : IntKind.i64.wrap ((i : Int) + 1) = (i : Int) + 1 := i64_id (by omega)
      obtain ⟨p, hp⟩ : ∃ p, L[i]? = some p := ⟨_, List.getElem?_eq_getElem hlt⟩
      obtain ⟨g, rfl, _, hcell⟩ := hx.out i p hp
      obtain ⟨d0, d1, d2, _⟩ := hcell wr hT
      have c0 := (hb.below hT).cell 0
      have htk : L.take (i + 1) = L.take i ++ [p] := by rw [List.take_add_one, hp]; rfl
      have htk' := Lib.hid htk
      have e1 : idsL (L.take (i + 1)) = idsL (L.take i) ++ [p.id] := by rw [htk]; simp [idsL]
      have E1 := Lib.hid e1
      clear hcell hp htk e1
      go_wp2_with (first
        | (refine wl_sl 53 3 rfl rfl rfl Tryz.underlying53 (bsl3 _) ?_; intro w8 X8 T8; have O8 := own_below hO T8; have S8 := ups hT T8 hT.size; have F8 := flat_new (f := fI) (x := p.id) X8 rfl)
        | (refine wpList_more rowI cellsI rfl _ _ rfl w.heap.size u3 (idsL (L.take i)) [p.id] (idsL (L.take i)).length 1 rfl rfl rfl O8 _ 1 rfl F8 (by omega) S8.size ?_; intro v9 w9 O9 G9 N9 _; have S9 := S8.grown G9 S8.size (fun g e => (O8.lt g e).1)))
      exact ⟨⟨i + 1, (by simp), (by omega), by rw [E1.out, List.length_append]; exact O9, S9⟩, by simp [intOf]; omega⟩
    · obtain rfl : i = L.length := by omega
      have i1 : ¬ (L.length : Int) < (L.length : Int) := by omega
      rw [List.take_length, rowI_map] at hO
      have c0 := (hb.below hT).cell 0
      go_wp2
      go_ret
      exact ⟨_, rfl, hO, hT⟩
theorem under_snoc (M : List Sp) (p : Sp) (k : Int) : underL (M ++ [p]) k = underL M k ++ (if p.par = k then [p.id] else []) := by
  unfold underL
  rw [List.filter_append, List.map_append]
  congr 1
  by_cases h : p.par = k
  · rw [if_pos h, List.filter_cons_of_pos (by simpa using h)]; rfl
  · rw [if_neg h, List.filter_cons_of_neg (by simpa using h)]; rfl
set_option maxHeartbeats 4000000 in
set_option maxRecDepth 100000 in
theorem runder_any (h : Rt w χ c B L) (hF : Fit L) (k : Int) :
    Calls Tryz.prog 40 #[ptr B, eI k] w fun e w' => ∃ v, e = .returned v ∧ w'.ownsRow w.heap.size 3 1 v (underL L k).length ((underL L k).map eI) ∧ Below w.heap.size w w' := by
  obtain ⟨v, h1, h2, h3, h4⟩ := h
  obtain ⟨a, cap, rfl, hc, hm, hx⟩ := row_cells h3 rfl
  have hl := hF.few
  replace hx := Lib.hid hx
  have hb := h1
  clear h1 h2 h3 h4
  have hN : ∀ W : World, W.ownsRow w.heap.size 3 1 (.slice none 0 0) 0 (rowC fI ([] : List Int)) := fun W => World.ownsRow_nil _ _ _ _
  have j1 : (L.length : Int) ≤ (cap : Int) := by omega
  go_enter Tryz.func40, Tryz.ntmps40
  go_wp2
  go_loopw [5, 6] (fun s5 s6 wr => ∃ i : Nat, s6 = .int .i64 i ∧ i ≤ L.length ∧ wr.ownsRow w.heap.size 3 1 s5 (underL (L.take i) k).length (rowC fI (underL (L.take i) k)) ∧ Below w.heap.size w wr) (fun _ s6 _ => L.length - (intOf s6).toNat)
  case atStart => exact ⟨0, rfl, by omega, by simpa [underL, rowC] using hN w, Below.refl _ _⟩
  case round =>
    obtain ⟨i, rfl, hi, hO, hT⟩ := hrel
    have hln : (underL (L.take i) k).length ≤ 64 := by have := underL_len (L.take i) k; rw [List.length_take] at this; omega
    by_cases hlt : i < L.length
    · have i1 : (i : Int) < (L.length : Int) := by omega
      have i2 : (0 : Int) ≤ (i : Int) := by omega
      have hw1 : IntKind.i64.wrap ((i : Int) + 1) = (i : Int) + 1 := i64_id (by omega)
      obtain ⟨p, hp⟩ : ∃ p, L[i]? = some p := ⟨_, List.getElem?_eq_getElem hlt⟩
      obtain ⟨g, rfl, _, hcell⟩ := hx.out i p hp
      obtain ⟨d0, d1, d2, _⟩ := hcell wr hT
      have c0 := (hb.below hT).cell 0
      have htk : L.take (i + 1) = L.take i ++ [p] := by rw [List.take_add_one, hp]; rfl
      have htk' := Lib.hid htk
      have hs := under_snoc (L.take i) p k
      rw [← htk] at hs
      by_cases hk : p.par = k
      · have hkb : (p.par == k) = true := by simpa using hk
        rw [if_pos hk] at hs
        have E1 := Lib.hid hs
        replace hk := Lib.hid hk
        clear hcell hp htk hs
        go_wp2_with (first
        | (refine wl_sl 53 3 rfl rfl rfl Tryz.underlying53 (bsl3 _) ?_; intro w8 X8 T8; have O8 := own_below hO T8; have S8 := ups hT T8 hT.size; have F8 := flat_new (f := fI) (x := p.id) X8 rfl)
        | (refine wpList_more rowI cellsI rfl _ _ rfl w.heap.size u5 (underL (L.take i) k) [p.id] (underL (L.take i) k).length 1 rfl rfl rfl O8 _ 1 rfl F8 (by omega) S8.size ?_; intro v9 w9 O9 G9 N9 _; have S9 := S8.grown G9 S8.size (fun g e => (O8.lt g e).1)))
        exact ⟨⟨i + 1, (by simp), (by omega), by rw [E1.out, List.length_append]; exact O9, S9⟩, by simp [intOf]; omega⟩
      · have hkb : (p.par == k) = false := by simpa using hk
        rw [if_neg hk, List.append_nil] at hs
        have E1 := Lib.hid hs
        replace hk := Lib.hid hk
        clear hcell hp htk hs
        go_wp2
        exact ⟨⟨i + 1, (by simp), (by omega), by rw [E1.out]; exact hO, hT⟩, by simp [intOf]; omega⟩
    · obtain rfl : i = L.length := by omega
      have i1 : ¬ (L.length : Int) < (L.length : Int) := by omega
      rw [List.take_length, rowI_map] at hO
      have c0 := (hb.below hT).cell 0
      go_wp2
      go_ret
      exact ⟨_, rfl, hO, hT⟩
/-- The leaves among the first ones of a row. -/
def leafM (L M : List Sp) (k : Int) : List Int := (M.filter (fun c => c.leaf && (k == 0 || (pathL L c.id).contains k))).map (·.id)
theorem leaf_snoc (L M : List Sp) (p : Sp) (k : Int) : leafM L (M ++ [p]) k = leafM L M k ++ (if (p.leaf && (k == 0 || (pathL L p.id).contains k)) = true then [p.id] else []) := by
  unfold leafM
  rw [List.filter_append, List.map_append]
  congr 1
  cases h : (p.leaf && (k == 0 || (pathL L p.id).contains k)) with
  | true => rw [List.filter_cons_of_pos (by simpa using h)]; rfl
  | false => rw [List.filter_cons_of_neg (by simpa using h)]; rfl
set_option maxHeartbeats 4000000 in
set_option maxRecDepth 100000 in
theorem rleaves_any (h : Rt w χ c B L) (hF : Fit L) (k : Int) :
    Calls Tryz.prog 43 #[ptr B, eI k] w fun e w' => ∃ v, e = .returned v ∧ w'.ownsRow w.heap.size 3 1 v (leavesL L k).length ((leavesL L k).map eI) ∧ Below w.heap.size w w' := by
  have hR := h
  obtain ⟨v, h1, h2, h3, h4⟩ := h
  obtain ⟨a, cap, rfl, hc, hm, hx⟩ := row_cells h3 rfl
  have hl := hF.few
  replace hx := Lib.hid hx
  have hb := h1
  clear h1 h2 h3 h4
  have hN : ∀ W : World, W.ownsRow w.heap.size 3 1 (.slice none 0 0) 0 (rowC fI ([] : List Int)) := fun W => World.ownsRow_nil _ _ _ _
  have j1 : (L.length : Int) ≤ (cap : Int) := by omega
  go_enter Tryz.func43, Tryz.ntmps43
  go_wp2
  go_loopw [5, 6] (fun s5 s6 wr => ∃ i : Nat, s6 = .int .i64 i ∧ i ≤ L.length ∧ wr.ownsRow w.heap.size 3 1 s5 (leafM L (L.take i) k).length (rowC fI (leafM L (L.take i) k)) ∧ Below w.heap.size w wr) (fun _ s6 _ => L.length - (intOf s6).toNat)
  case atStart => exact ⟨0, rfl, by omega, by simpa [leafM, rowC] using hN w, Below.refl _ _⟩
  case round =>
    obtain ⟨i, rfl, hi, hO, hT⟩ := hrel
    have hln : (leafM L (L.take i) k).length ≤ 64 := by
      have h1 : (leafM L (L.take i) k).length ≤ (L.take i).length := by unfold leafM; rw [List.length_map]; exact List.length_filter_le _ _
      rw [List.length_take] at h1; omega
    by_cases hlt : i < L.length
    · have i1 : (i : Int) < (L.length : Int) := by omega
      have i2 : (0 : Int) ≤ (i : Int) := by omega
      have hw1 : IntKind.i64.wrap ((i : Int) + 1) = (i : Int) + 1 := i64_id (by omega)
      obtain ⟨p, hp⟩ : ∃ p, L[i]? = some p := ⟨_, List.getElem?_eq_getElem hlt⟩
      obtain ⟨g, rfl, _, hcell⟩ := hx.out i p hp
      obtain ⟨d0, d1, d2, _⟩ := hcell wr hT
      have c0 := (hb.below hT).cell 0
      have htk : L.take (i + 1) = L.take i ++ [p] := by rw [List.take_add_one, hp]; rfl
      have htk' := Lib.hid htk
      have hs := leaf_snoc L (L.take i) p k
      rw [← htk] at hs
      have hpid : I64 p.id := (hF.each p (List.mem_of_getElem? hp)).1.1
      have hPp := rpath_any (hR.below hT) hF hpid
      cases hlf : p.leaf with
      | false =>
        rw [hlf] at hs d2
        rw [Bool.false_and, if_neg (by decide), List.append_nil] at hs
        have E1 := Lib.hid hs
        clear hcell hp htk hs hPp
        go_wp2
        exact ⟨⟨i + 1, (by simp), (by omega), by rw [E1.out]; exact hO, hT⟩, by simp [intOf]; omega⟩
      | true =>
        rw [hlf] at hs d2
        rw [Bool.true_and] at hs
        by_cases h0 : k = 0
        · subst h0
          rw [show ((0 : Int) == 0) = true from rfl, Bool.true_or, if_pos rfl] at hs
          have E1 := Lib.hid hs
          clear hcell hp htk hs hPp
          go_wp2_with (first
        | (refine wl_sl 53 3 rfl rfl rfl Tryz.underlying53 (bsl3 _) ?_; intro w8 X8 T8; have O8 := own_below hO T8; have S8 := ups hT T8 hT.size; have F8 := flat_new (f := fI) (x := p.id) X8 rfl)
        | (refine wpList_more rowI cellsI rfl _ _ rfl w.heap.size u5 (leafM L (L.take i) 0) [p.id] (leafM L (L.take i) 0).length 1 rfl rfl rfl O8 _ 1 rfl F8 (by omega) S8.size ?_; intro v9 w9 O9 G9 N9 _; have S9 := S8.grown G9 S8.size (fun g e => (O8.lt g e).1)))
          exact ⟨⟨i + 1, (by simp), (by omega), by rw [E1.out, List.length_append]; exact O9, S9⟩, by simp [intOf]; omega⟩
        · have hk0 : (k == 0) = false := by simpa using h0
          rw [hk0, Bool.false_or] at hs
          cases hcon : (pathL L p.id).contains k with
          | false =>
            rw [hcon, if_neg (by decide), List.append_nil] at hs
            have E1 := Lib.hid hs
            clear hcell hp htk hs
            go_wp2_with (first
        | (go_at_call 36; (with_reducible refine hPp.mono ?_); rintro e w4 ⟨v4, rfl, Op, T4⟩; have hO4 := own_below hO T4; have S4 := ups hT T4 hT.size; have hH := rhas_any Op (by have := path_short hF p.id; omega) k; rw [hcon] at hH)
        | (go_at_call 57; (with_reducible refine hH.mono ?_); rintro e w5 ⟨rfl, rfl⟩))
            exact ⟨⟨i + 1, (by simp), (by omega), by rw [E1.out]; exact hO4, S4⟩, by simp [intOf]; omega⟩
          | true =>
            rw [hcon, if_pos rfl] at hs
            have E1 := Lib.hid hs
            have hcl := Lib.hid hcell
            clear hcell hp htk hs
            go_wp2_with (first
        | (go_at_call 36; (with_reducible refine hPp.mono ?_); rintro e w4 ⟨v4, rfl, Op, T4⟩; have hO4 := own_below hO T4; have S4 := ups hT T4 hT.size; have c04 := (hb.below S4).cell 0; obtain ⟨d04, _, _, _⟩ := hcl.out w4 S4; have hH := rhas_any Op (by have := path_short hF p.id; omega) k; rw [hcon] at hH)
        | (go_at_call 57; (with_reducible refine hH.mono ?_); rintro e w5 ⟨rfl, rfl⟩)
        | (refine wl_sl 53 3 rfl rfl rfl Tryz.underlying53 (bsl3 _) ?_; intro w8 X8 T8; have O8 := own_below hO4 T8; have S8 := ups S4 T8 S4.size; have F8 := flat_new (f := fI) (x := p.id) X8 rfl)
        | (refine wpList_more rowI cellsI rfl _ _ rfl w.heap.size u5 (leafM L (L.take i) k) [p.id] (leafM L (L.take i) k).length 1 rfl rfl rfl O8 _ 1 rfl F8 (by omega) S8.size ?_; intro v9 w9 O9 G9 N9 _; have S9 := S8.grown G9 S8.size (fun g e => (O8.lt g e).1)))
            exact ⟨⟨i + 1, (by simp), (by omega), by rw [E1.out, List.length_append]; exact O9, S9⟩, by simp [intOf]; omega⟩
    · obtain rfl : i = L.length := by omega
      have i1 : ¬ (L.length : Int) < (L.length : Int) := by omega
      rw [List.take_length, rowI_map] at hO
      have c0 := (hb.below hT).cell 0
      go_wp2
      go_ret
      exact ⟨_, rfl, hO, hT⟩
end
end Go.Proofs.YtpopcnebndgblaaGreat.H

namespace Go.Proofs.YtpopcnebndgblaaGreat.H
open Go.ChangeShapes Go.WideShapes Go.Deep Go.RowKit
set_option linter.unusedVariables false
set_option linter.unusedSimpArgs false
section
variable {w w' : World} {χ χ' : Nat → Nat} {c d B base n : Nat} {L : List Sp} {zs : List Int}
/-- The row of a tree: nil, or a block. -/
theorem row_src {v : Value} (h : w.ownsRow base 34 14 v L.length (rowC fS L)) : (v = .slice none 0 0 ∧ L = []) ∨ ∃ g cap, v = .slice (some ⟨g, 0, none⟩) L.length cap ∧ L.length ≤ cap ∧ cap ≤ maxLen ∧ w.ownsRow base 34 14 (.slice (some ⟨g, 0, none⟩) L.length cap) L.length (rowC fS L) := by
  rcases own_form h with ⟨e, e0⟩ | ⟨g, cap, e, hc, _⟩
  · exact .inl ⟨e, List.eq_nil_of_length_eq_zero e0⟩
  · rw [e] at h
    obtain ⟨_, cap', e2, _, hm⟩ := own_len h
    cases e2
    exact .inr ⟨g, cap, e, hc, hm, h⟩
theorem at_index (hT : Hrc L) {i j : Nat} {p q : Sp} (hi : L[i]? = some p) (hj : L[j]? = some q) (e : p.id = q.id) : i = j := by
  obtain ⟨hi1, hi2⟩ := List.getElem?_eq_some_iff.1 hi
  obtain ⟨hj1, hj2⟩ := List.getElem?_eq_some_iff.1 hj
  have hp := List.pairwise_iff_getElem.1 hT.ord
  rcases Nat.lt_trichotomy i j with h | h | h
  · have := hp i j hi1 hj1 h; rw [hi2, hj2] at this; omega
  · exact h
  · have := hp j i hj1 hi1 h; rw [hi2, hj2] at this; omega
theorem rat_yes (h : Rt w χ c B L) (hF : Fit L) {i : Nat} {p : Sp} (hi : L[i]? = some p) {k : Int} (hk : p.id = k) : Calls Tryz.prog 34 #[ptr B, eI k] w fun e w' => e = .returned (eI (i : Int)) ∧ w = w' :=
  (rat_any h hF.few k).mono fun e w' ⟨x, y⟩ => by
    rcases x with ⟨j, q, x1, x2, x3⟩ | ⟨_, x2⟩
    · rw [at_index hF.tree hi x2 (by rw [hk, x3])]; exact ⟨x1, y⟩
    · exact absurd hk (x2 p (List.mem_of_getElem? hi))
theorem rat_no (h : Rt w χ c B L) (hF : Fit L) {k : Int} (hk : ∀ p ∈ L, p.id ≠ k) : Calls Tryz.prog 34 #[ptr B, eI k] w fun e w' => e = .returned (eI (-1)) ∧ w = w' :=
  (rat_any h hF.few k).mono fun e w' ⟨x, y⟩ => by
    rcases x with ⟨j, q, x1, x2, x3⟩ | ⟨x1, _⟩
    · exact absurd x3 (hk q (List.mem_of_getElem? x2))
    · exact ⟨x1, y⟩
theorem own_lenS {w : World} {base n : Nat} {v : Value} {L : List Sp} (h : w.ownsRow base 34 14 v n (rowC fS L)) : L.length = n := by
  have := h.1
  rw [rowC_len cellsS] at this
  omega
set_option maxHeartbeats 4000000 in
set_option maxRecDepth 100000 in
theorem rcopy_any (h : Rt w χ c B L) (hF : Fit L) (d : Nat) :
    Calls Tryz.prog 19 #[ptr B] w fun e w' => ∃ C, e = .returned (ptr C) ∧ Rt w' (recol χ w.heap.size d) d C L ∧ Below w.heap.size w w' := by
  obtain ⟨v, h1, h2, h3, h4⟩ := h
  have hl := hF.few
  rcases row_src h3 with ⟨rfl, rfl⟩ | ⟨g, cap, rfl, hc, hm, hO⟩
  · go_enter Tryz.func19, Tryz.ntmps19
    go_wp2_with (first
      | (refine wl_sl0 27 34 rfl rfl Tryz.underlying27 size34 ?_; intro w1 X1 T1; have c0 := (h1.below T1).cell 0; have O1 := own_empty (α := Sp) (s := 14) (f := fS) X1 (Nat.le_refl w.heap.size))
      | (refine wpList_nomore rowS rfl _ _ rfl w.heap.size 0 _ _ rfl O1 rfl ?_)
      | (refine wl_box 29 rfl rfl rfl ?_; intro w5 X5 T5))
    go_ret
    exact ⟨_, rfl, ⟨_, X5, recol_ge T1.size, own_mono (own_below O1 T5) (Nat.zero_le _), fun g e => recol_ge ((O1.lt g e).1)⟩, ups T1 T5 T1.size⟩
  · generalize L.length = n at *
    clear h2 h4 h3
    have hl2 : 0 + n ≤ 1000000 := by omega
    have hLn : L.length = n := own_lenS hO
    go_enter Tryz.func19, Tryz.ntmps19
    go_wp2_with (first
      | (refine wl_sl0 27 34 rfl rfl Tryz.underlying27 size34 ?_; intro w1 X1 T1; have c0 := (h1.below T1).cell 0; have O1 := own_empty (α := Sp) (s := 14) (f := fS) X1 (Nat.le_refl w.heap.size); have F1 := flat_part (k := 0) (ad := ⟨g, 0, none⟩) cellsS hO T1 (fun _ => by simp))
      | (refine wpList_more rowS cellsS rfl _ _ rfl w.heap.size (.slice (some ⟨w.heap.size, 0, none⟩) 0 0) [] L 0 n rfl hLn rfl O1 ⟨g, 0, none⟩ cap rfl F1 hl2 T1.size ?_; intro v4 w4 O4 G4 N4 _; obtain ⟨a4, c4, rfl⟩ := own_adr O4; have S4 := T1.grown G4 T1.size (fun g e => (O1.lt g e).1))
      | (refine wl_box 29 rfl rfl rfl ?_; intro w5 X5 T5))
    go_ret
    rw [Nat.zero_add, List.nil_append] at O4
    refine ⟨_, rfl, ⟨_, X5, recol_ge S4.size, ?_, fun g e => recol_ge (O4.lt g e).1⟩, ups S4 T5 S4.size⟩
    rw [hLn]
    exact own_mono (own_below O4 T5) (Nat.zero_le _)
theorem ins_at {s : Sp} : ∀ {L : List Sp} {i : Nat}, i ≤ L.length → (∀ j p, j < i → L[j]? = some p → p.id < s.id) → (∀ p, L[i]? = some p → ¬ p.id < s.id) → insL s L = L.take i ++ s :: L.drop i
  | [], i, hi, _, _ => by simp [insL]
  | c :: L, 0, _, _, h2 => by
    unfold insL
    rw [if_neg (h2 c rfl)]
    rfl
  | c :: L, i + 1, hi, h1, h2 => by
    unfold insL
    rw [if_pos (h1 0 c (by omega) rfl), List.take_succ_cons, List.drop_succ_cons, List.cons_append, ins_at (by simpa using hi) (fun j p hj hp => h1 (j + 1) p (by omega) (by simpa using hp)) (fun p hp => h2 p (by simpa using hp))]
set_option maxHeartbeats 4000000 in
set_option maxRecDepth 100000 in
theorem radd_shape (h : Rt w χ c B L) {s : Sp} (hs : s.ok) (hm : mayN s = 30 ∨ mayN s = 130) :
    Calls Tryz.prog 12 #[ptr B, .agg (sV s)] w fun e w' => e = .returned (eI (130)) ∧ Below w.heap.size w w' := by
  rcases hm with hm | hm
  all_goals
    go_enter Tryz.func12, Tryz.ntmps12
    go_wp2_with (first
      | (refine wl_box 34 rfl rfl rfl ?_; intro w1 X1 T1; have hY := may33 s hs w1; have d0 := (X1.cell 0).trans (sV_0 _); have d1 := (X1.cell 1).trans (sV_1 _))
      | (refine wl_load 34 X1 rfl rfl rfl Tryz.underlying34 rfl size34 (by omega : 0 + 14 ≤ 14) (sV_all _) ?_)
      | (go_at_call 33; (with_reducible refine hY.mono ?_); rintro e w2 ⟨rfl, T2⟩; rw [hm]; have S2 := ups T1 T2 T1.size))
    go_ret
    exact ⟨by simp, S2⟩
set_option maxHeartbeats 4000000 in
set_option maxRecDepth 100000 in
theorem radd_full (h : Rt w χ c B L) (hF : Fit L) {s : Sp} (hs : s.ok) (hm : mayN s = 0) (hl : 64 ≤ L.length) :
    Calls Tryz.prog 12 #[ptr B, .agg (sV s)] w fun e w' => e = .returned (eI (4)) ∧ Below w.heap.size w w' := by
  have hb := h
  obtain ⟨v, hb1, _, hb3, _⟩ := hb
  obtain ⟨a, cap, rfl, hc, hmx, _⟩ := row_cells hb3 rfl
  have hli : (64 : Int) ≤ (L.length : Int) := by omega
  go_enter Tryz.func12, Tryz.ntmps12
  go_wp2_with (first
    | (refine wl_box 34 rfl rfl rfl ?_; intro w1 X1 T1; have h1 := h.below T1; have c1 := (hb1.below T1).cell 0; have hY := may33 s hs w1; have d0 := (X1.cell 0).trans (sV_0 _); have d1 := (X1.cell 1).trans (sV_1 _))
    | (refine wl_load 34 X1 rfl rfl rfl Tryz.underlying34 rfl size34 (by omega : 0 + 14 ≤ 14) (sV_all _) ?_)
    | (go_at_call 33; (with_reducible refine hY.mono ?_); rintro e w2 ⟨rfl, T2⟩; rw [hm]; have X2 := X1.below T2; have S2 := ups T1 T2 T1.size; have c2 := (hb1.below S2).cell 0; have e0 := (X2.cell 0).trans (sV_0 _); have e1 := (X2.cell 1).trans (sV_1 _); have hG := rget_any (h.below S2) hF s.par))
  go_ret
  exact ⟨by simp, S2⟩
set_option maxHeartbeats 4000000 in
set_option maxRecDepth 100000 in
theorem radd_twice (h : Rt w χ c B L) (hF : Fit L) {s : Sp} (hs : s.ok) (hm : mayN s = 0) (hl : L.length < 64) {i : Nat} {p : Sp} (hi : L[i]? = some p) (hk : p.id = s.id) :
    Calls Tryz.prog 12 #[ptr B, .agg (sV s)] w fun e w' => e = .returned (eI (80)) ∧ Below w.heap.size w w' := by
  have hb := h
  obtain ⟨v, hb1, _, hb3, _⟩ := hb
  obtain ⟨a, cap, rfl, hc, hmx, _⟩ := row_cells hb3 rfl
  have hli : ¬ (64 : Int) ≤ (L.length : Int) := by omega
  have i0 : (0 : Int) ≤ (i : Int) := by omega
  replace hi := Lib.hid hi
  replace hk := Lib.hid hk
  go_enter Tryz.func12, Tryz.ntmps12
  go_wp2_with (first
    | (refine wl_box 34 rfl rfl rfl ?_; intro w1 X1 T1; have h1 := h.below T1; have c1 := (hb1.below T1).cell 0; have hY := may33 s hs w1; have d0 := (X1.cell 0).trans (sV_0 _); have d1 := (X1.cell 1).trans (sV_1 _))
    | (refine wl_load 34 X1 rfl rfl rfl Tryz.underlying34 rfl size34 (by omega : 0 + 14 ≤ 14) (sV_all _) ?_)
    | (go_at_call 33; (with_reducible refine hY.mono ?_); rintro e w2 ⟨rfl, T2⟩; rw [hm]; have X2 := X1.below T2; have S2 := ups T1 T2 T1.size; have c2 := (hb1.below S2).cell 0; have e0 := (X2.cell 0).trans (sV_0 _); have e1 := (X2.cell 1).trans (sV_1 _); have hA := rat_yes (h.below S2) hF hi.out hk.out; have hG := rget_any (h.below S2) hF s.par)
    | (go_at_call 34; (with_reducible refine hA.mono ?_); rintro e w3 ⟨rfl, rfl⟩))
  go_ret
  exact ⟨by simp, S2⟩
set_option maxHeartbeats 4000000 in
set_option maxRecDepth 100000 in
theorem radd_p1 (h : Rt w χ c B L) (hF : Fit L) {s : Sp} (hs : s.ok) (hm : mayN s = 0) (hl : L.length < 64) (hno : ∀ p ∈ L, p.id ≠ s.id) (h0 : s.par ≠ 0) (hh : hasS L s.par = false) :
    Calls Tryz.prog 12 #[ptr B, .agg (sV s)] w fun e w' => e = .returned (eI (160)) ∧ Below w.heap.size w w' := by
  have hb := h
  obtain ⟨v, hb1, _, hb3, _⟩ := hb
  obtain ⟨a, cap, rfl, hc, hmx, _⟩ := row_cells hb3 rfl
  have hli : ¬ (64 : Int) ≤ (L.length : Int) := by omega
  have hN := Lib.hid hno
  clear hno
  have hu := undef_ne
  go_enter Tryz.func12, Tryz.ntmps12
  go_wp2_with (first
    | (refine wl_box 34 rfl rfl rfl ?_; intro w1 X1 T1; have h1 := h.below T1; have c1 := (hb1.below T1).cell 0; have hY := may33 s hs w1; have d0 := (X1.cell 0).trans (sV_0 _); have d1 := (X1.cell 1).trans (sV_1 _))
    | (refine wl_load 34 X1 rfl rfl rfl Tryz.underlying34 rfl size34 (by omega : 0 + 14 ≤ 14) (sV_all _) ?_)
    | (go_at_call 33; (with_reducible refine hY.mono ?_); rintro e w2 ⟨rfl, T2⟩; rw [hm]; have X2 := X1.below T2; have S2 := ups T1 T2 T1.size; have c2 := (hb1.below S2).cell 0; have e0 := (X2.cell 0).trans (sV_0 _); have e1 := (X2.cell 1).trans (sV_1 _); have hA := rat_no (h.below S2) hF hN.out; have hG := rget_any (h.below S2) hF s.par)
    | (go_at_call 34; (with_reducible refine hA.mono ?_); rintro e w3 ⟨rfl, rfl⟩)
    | (go_at_call 35; (with_reducible refine hG.mono ?_); rintro e w4 ⟨rfl, T4⟩; rw [hh]; have X4 := X2.below T4; have S4 := ups S2 T4 S2.size)
    | (refine wl_alloc 34 rfl rfl zero34 ?_; intro w5 X5 T5; have Y5 := X4.below T5; have S5 := ups S4 T5 S4.size)
    | (refine wl_store 34 X5 rfl rfl rfl rfl size34 rfl (by omega : 0 + 14 ≤ 14) (sV_one _) (spl_ss _ _) ?_; intro w6 X6 K6; have S6 := K6.up S5 S4.size; have Y6 := K6.box Y5 (Nat.ne_of_lt X4.lt); have f2 := (X6.cell 2).trans (sV_2 _); have f1 := (Y6.cell 1).trans (sV_1 _); have hPp := rpath_any (h.below S6) hF hs.2.1))
  go_ret
  exact ⟨by simp, S6⟩
set_option maxHeartbeats 4000000 in
set_option maxRecDepth 100000 in
theorem radd_p2 (h : Rt w χ c B L) (hF : Fit L) {s : Sp} (hs : s.ok) (hm : mayN s = 0) (hl : L.length < 64) (hno : ∀ p ∈ L, p.id ≠ s.id) (h0 : s.par ≠ 0) (hh : hasS L s.par = true) (hlf : (getS L s.par).leaf = true) :
    Calls Tryz.prog 12 #[ptr B, .agg (sV s)] w fun e w' => e = .returned (eI (160)) ∧ Below w.heap.size w w' := by
  have hb := h
  obtain ⟨v, hb1, _, hb3, _⟩ := hb
  obtain ⟨a, cap, rfl, hc, hmx, _⟩ := row_cells hb3 rfl
  have hli : ¬ (64 : Int) ≤ (L.length : Int) := by omega
  have hN := Lib.hid hno
  clear hno
  have hu := undef_ne
  go_enter Tryz.func12, Tryz.ntmps12
  go_wp2_with (first
    | (refine wl_box 34 rfl rfl rfl ?_; intro w1 X1 T1; have h1 := h.below T1; have c1 := (hb1.below T1).cell 0; have hY := may33 s hs w1; have d0 := (X1.cell 0).trans (sV_0 _); have d1 := (X1.cell 1).trans (sV_1 _))
    | (refine wl_load 34 X1 rfl rfl rfl Tryz.underlying34 rfl size34 (by omega : 0 + 14 ≤ 14) (sV_all _) ?_)
    | (go_at_call 33; (with_reducible refine hY.mono ?_); rintro e w2 ⟨rfl, T2⟩; rw [hm]; have X2 := X1.below T2; have S2 := ups T1 T2 T1.size; have c2 := (hb1.below S2).cell 0; have e0 := (X2.cell 0).trans (sV_0 _); have e1 := (X2.cell 1).trans (sV_1 _); have hA := rat_no (h.below S2) hF hN.out; have hG := rget_any (h.below S2) hF s.par)
    | (go_at_call 34; (with_reducible refine hA.mono ?_); rintro e w3 ⟨rfl, rfl⟩)
    | (go_at_call 35; (with_reducible refine hG.mono ?_); rintro e w4 ⟨rfl, T4⟩; rw [hh]; have X4 := X2.below T4; have S4 := ups S2 T4 S2.size)
    | (refine wl_alloc 34 rfl rfl zero34 ?_; intro w5 X5 T5; have Y5 := X4.below T5; have S5 := ups S4 T5 S4.size)
    | (refine wl_store 34 X5 rfl rfl rfl rfl size34 rfl (by omega : 0 + 14 ≤ 14) (sV_one _) (spl_ss _ _) ?_; intro w6 X6 K6; have S6 := K6.up S5 S4.size; have Y6 := K6.box Y5 (Nat.ne_of_lt X4.lt); have f2 := (X6.cell 2).trans (sV_2 _); rw [hlf] at f2; have f1 := (Y6.cell 1).trans (sV_1 _); have hPp := rpath_any (h.below S6) hF hs.2.1))
  go_ret
  exact ⟨by simp, S6⟩
set_option maxHeartbeats 4000000 in
set_option maxRecDepth 100000 in
theorem radd_p3 (h : Rt w χ c B L) (hF : Fit L) {s : Sp} (hs : s.ok) (hm : mayN s = 0) (hl : L.length < 64) (hno : ∀ p ∈ L, p.id ≠ s.id) (h0 : s.par ≠ 0) (hh : hasS L s.par = true) (hlf : (getS L s.par).leaf = false) (hd : 8 ≤ (pathL L s.par).length) :
    Calls Tryz.prog 12 #[ptr B, .agg (sV s)] w fun e w' => e = .returned (eI (160)) ∧ Below w.heap.size w w' := by
  have hb := h
  obtain ⟨v, hb1, _, hb3, _⟩ := hb
  obtain ⟨a, cap, rfl, hc, hmx, _⟩ := row_cells hb3 rfl
  have hli : ¬ (64 : Int) ≤ (L.length : Int) := by omega
  have hN := Lib.hid hno
  clear hno
  have hu := undef_ne
  have hdi : (8 : Int) ≤ ((pathL L s.par).length : Int) := by omega
  go_enter Tryz.func12, Tryz.ntmps12
  go_wp2_with (first
    | (refine wl_box 34 rfl rfl rfl ?_; intro w1 X1 T1; have h1 := h.below T1; have c1 := (hb1.below T1).cell 0; have hY := may33 s hs w1; have d0 := (X1.cell 0).trans (sV_0 _); have d1 := (X1.cell 1).trans (sV_1 _))
    | (refine wl_load 34 X1 rfl rfl rfl Tryz.underlying34 rfl size34 (by omega : 0 + 14 ≤ 14) (sV_all _) ?_)
    | (go_at_call 33; (with_reducible refine hY.mono ?_); rintro e w2 ⟨rfl, T2⟩; rw [hm]; have X2 := X1.below T2; have S2 := ups T1 T2 T1.size; have c2 := (hb1.below S2).cell 0; have e0 := (X2.cell 0).trans (sV_0 _); have e1 := (X2.cell 1).trans (sV_1 _); have hA := rat_no (h.below S2) hF hN.out; have hG := rget_any (h.below S2) hF s.par)
    | (go_at_call 34; (with_reducible refine hA.mono ?_); rintro e w3 ⟨rfl, rfl⟩)
    | (go_at_call 35; (with_reducible refine hG.mono ?_); rintro e w4 ⟨rfl, T4⟩; rw [hh]; have X4 := X2.below T4; have S4 := ups S2 T4 S2.size)
    | (refine wl_alloc 34 rfl rfl zero34 ?_; intro w5 X5 T5; have Y5 := X4.below T5; have S5 := ups S4 T5 S4.size)
    | (refine wl_store 34 X5 rfl rfl rfl rfl size34 rfl (by omega : 0 + 14 ≤ 14) (sV_one _) (spl_ss _ _) ?_; intro w6 X6 K6; have S6 := K6.up S5 S4.size; have Y6 := K6.box Y5 (Nat.ne_of_lt X4.lt); have f2 := (X6.cell 2).trans (sV_2 _); rw [hlf] at f2; have f1 := (Y6.cell 1).trans (sV_1 _); have hPp := rpath_any (h.below S6) hF hs.2.1)
    | (go_at_call 36; (with_reducible refine hPp.mono ?_); rintro e w7 ⟨v7, rfl, O7, T7⟩; obtain ⟨a7, cap7, rfl, _⟩ := own_len O7; have S7 := ups S6 T7 S6.size; have X7 := Y6.below T7))
  go_ret
  exact ⟨by simp, S7⟩
end
end Go.Proofs.YtpopcnebndgblaaGreat.H

namespace Go.Proofs.YtpopcnebndgblaaGreat.H
open Go.ChangeShapes Go.WideShapes Go.Deep Go.RowKit
set_option linter.unusedVariables false
set_option linter.unusedSimpArgs false
section
variable {w w' : World} {χ χ' : Nat → Nat} {c d B base n : Nat} {L : List Sp} {zs : List Int}
/-- What a store of a new row into the tree leaves. -/
theorem rt_end {L' : List Sp} {a : Option Addr} {m cap : Nat} {b0 : Nat} {v : Value} (hB : Box w' B #[v] 29) (hb : Below w.heap.size w w') (hbox : Box w B #[.slice a m cap] 29) (hc : χ B = c) {v9 : Value} (hO : w'.ownsRow b0 34 14 v9 L'.length (rowC fS L')) (h0 : w.heap.size ≤ b0) {w9 : World} (hB9 : Box w9 B #[v9] 29) (hk : But B w' w9) :
    ∃ χ', Rt w9 χ' c B L' ∧ Col χ χ' c w w9 := by
  have hne : v9.ownBlock ≠ some B := fun e => by
    have := (hO.lt B e).1; have := hbox.lt; omega
  refine ⟨recol χ w.heap.size c, ⟨v9, hB9, (recol_lt hbox.lt).trans hc, own_mono (own_but hO hk hne) (Nat.zero_le _), fun g e => recol_ge (by have := (hO.lt g e).1; omega)⟩, ?_⟩
  exact ⟨hk.os.trans hb.os, hk.tape.trans hb.tape, hk.output.trans hb.output, Nat.le_trans hb.size hk.size, fun k hk2 => recol_lt hk2, fun k hk2 hn => (hk.block k (Nat.lt_of_lt_of_le hk2 hb.size) (fun e => hn (by rw [e]; exact hc))).trans (hb.block k hk2)⟩
set_option maxHeartbeats 4000000 in
set_option maxRecDepth 100000 in
theorem radd_ok0 (h : Rt w χ c B L) (hF : Fit L) {s : Sp} (hs : s.ok) (hm : mayN s = 0) (hl : L.length < 64) (hno : ∀ p ∈ L, p.id ≠ s.id) {g cap : Nat} (hb1 : Box w B #[.slice (some ⟨g, 0, none⟩) L.length cap] 29) (hb2 : χ B = c) (hb3 : w.ownsRow 0 34 14 (.slice (some ⟨g, 0, none⟩) L.length cap) L.length (rowC fS L)) (hc : L.length ≤ cap) (hmx : cap ≤ maxLen) (h0 : s.par = 0) :
    Calls Tryz.prog 12 #[ptr B, .agg (sV s)] w fun e w' => e = .returned (eI 0) ∧ ∃ χ', Rt w' χ' c B (insL s L) ∧ Col χ χ' c w w' := by
  have hli : ¬ (64 : Int) ≤ (L.length : Int) := by omega
  have hN := Lib.hid hno
  have hx : ∀ (i : Nat) (p : Sp), L[i]? = some p → ∀ w', Below w.heap.size w w' → w'.cell? ⟨g, i * 14, none⟩ = some (.int .i64 p.id) ∧ w'.rangeAt g (i * 14) (sV p).toList := fun i p hp w' hw => by
    obtain ⟨a, cap', e, _, _, hx⟩ := row_cells hb3 rfl
    cases e
    obtain ⟨g', e, _, hx⟩ := hx i p hp
    cases e
    obtain ⟨x0, _, _, x3⟩ := hx w' hw
    exact ⟨x0, x3⟩
  have hxx := Lib.hid hx
  clear hno hx
  go_enter Tryz.func12, Tryz.ntmps12
  go_upto_region 13 with (first
    | (refine wl_box 34 rfl rfl rfl ?_; intro w1 X1 T1; have h1 := h.below T1; have c1 := (hb1.below T1).cell 0; have hY := may33 s hs w1; have d0 := (X1.cell 0).trans (sV_0 _); have d1 := (X1.cell 1).trans (sV_1 _))
    | (refine wl_load 34 X1 rfl rfl rfl Tryz.underlying34 rfl size34 (by omega : 0 + 14 ≤ 14) (sV_all _) ?_)
    | (go_at_call 33; (with_reducible refine hY.mono ?_); rintro e w2 ⟨rfl, T2⟩; rw [hm]; have X2 := X1.below T2; have S2 := ups T1 T2 T1.size; have c2 := (hb1.below S2).cell 0; have e0 := (X2.cell 0).trans (sV_0 _); have e1 := (X2.cell 1).trans (sV_1 _); have hA := rat_no (h.below S2) hF hN.out; have hG := rget_any (h.below S2) hF s.par)
    | (go_at_call 34; (with_reducible refine hA.mono ?_); rintro e w3 ⟨rfl, rfl⟩))
  have hNL : ∀ W : World, W.ownsRow w1.heap.size 34 14 (.slice none 0 0) 0 (rowC fS ([] : List Sp)) := fun W => World.ownsRow_nil _ _ _ _
  have lt1 : w.heap.size < w1.heap.size := X1.lt
  have j1 : (L.length : Int) ≤ (cap : Int) := by omega
  have hsz1 : w1.heap.size ≤ w2.heap.size := by have := T2.size; omega
  clear hA hG hY h1 c1 d0 d1 c2 e0 e1 T2 X1
  go_loopw [7, 8] (fun s7 s8 wr => ∃ i : Nat, s8 = .int .i64 i ∧ i ≤ L.length ∧ (∀ j p, j < i → L[j]? = some p → p.id < s.id) ∧ wr.ownsRow w1.heap.size 34 14 s7 i (rowC fS (L.take i)) ∧ Box wr w.heap.size (sV s) 34 ∧ Below w.heap.size w wr ∧ w1.heap.size ≤ wr.heap.size) (fun _ s8 _ => L.length - (intOf s8).toNat)
  case atStart => exact ⟨0, rfl, by omega, fun j p hj => (by omega), hNL _, X2, S2, hsz1⟩
  case round =>
    obtain ⟨i, rfl, hi, hlo, hO, hX, hT, hsz⟩ := hrel
    have c0 := (hb1.below hT).cell 0
    have e0 := (hX.cell 0).trans (sV_0 _)
    have hlo' := Lib.hid hlo
    have htl : (L.take i).length = i := by rw [List.length_take]; omega
    have htl2 : (L.take i ++ [s]).length = i + 1 := by rw [List.length_append, htl]; rfl
    have hdl : (L.drop i).length = L.length - i := List.length_drop
    obtain ⟨a7, c7, rfl, hc7, _⟩ := own_len hO
    obtain ⟨ad, had, hadf⟩ : ∃ x : Addr, (if cap = i then (some (⟨g, 0, none⟩ : Addr)) else some ⟨g, i * 14, none⟩) = some x ∧ (L.drop i ≠ [] → x = ⟨g, i * 14, none⟩) := by
      by_cases h1 : cap = i
      · exact ⟨_, if_pos h1, fun hd => absurd (List.drop_eq_nil_of_le (by omega)) hd⟩
      · exact ⟨_, if_neg h1, fun _ => rfl⟩
    clear hlo
    have i2 : (0 : Int) ≤ (i : Int) := by omega
    have i3 : (i : Int) ≤ (L.length : Int) := by omega
    by_cases hlt : i < L.length
    · have i1 : (i : Int) < (L.length : Int) := by omega
      have hw1 : IntKind.i64.wrap ((i : Int) + 1) = (i : Int) + 1 := i64_id (by omega)
      obtain ⟨p, hp⟩ : ∃ p, L[i]? = some p := ⟨_, List.getElem?_eq_getElem hlt⟩
      obtain ⟨d0, _⟩ := hxx.out i p hp wr hT
      by_cases hps : p.id < s.id
      · go_upto_region 13 with fail
        go_quiet (fail)
        have hTq := ups hT (drewN_below wr nq) hT.size
        have hOq := own_below hO (drewN_below wr nq)
        have hXq := hX.below (drewN_below wr nq)
        have hszq : w1.heap.size ≤ (wr.drewN nq).heap.size := hsz
        have c0q := (hb1.below hTq).cell 0
        obtain ⟨_, d3q⟩ := hxx.out i p hp _ hTq
        have htk : L.take (i + 1) = L.take i ++ [p] := by rw [List.take_add_one, hp]; rfl
        have htk' := Lib.hid htk
        have hlo2 : ∀ j q, j < i + 1 → L[j]? = some q → q.id < s.id := fun j q hj hq => by
          rcases Nat.lt_or_ge j i with h | h
          · exact hlo'.out j q h hq
          · obtain rfl : j = i := by omega
            rw [hp] at hq; cases hq; exact hps
        have hlo3 := Lib.hid hlo2
        generalize wr.drewN nq = wq at *
        clear hlo2 htk hp had hadf hdl htl2 c0 d0 e0 hO hX hT hsz
        go_wp2_with (first
          | (refine wl_run (xl_loadr d3q rfl rfl) rfl ?_)
          | (refine wl_sl 27 34 rfl rfl rfl Tryz.underlying27 (bsl34 _) ?_; intro wb Xb Tb; have Ob := own_below hOq Tb; have Sb := ups hTq Tb hTq.size; have Zb := hXq.below Tb; have Fb := flat_new (f := fS) (x := p) Xb rfl; have hszb : w1.heap.size ≤ wb.heap.size := Nat.le_trans hszq Tb.size)
          | (refine wpList_more rowS cellsS rfl _ _ rfl w1.heap.size (.slice a7 i c7) (L.take i) [p] i 1 htl rfl rfl Ob _ 1 rfl Fb (by omega) hszb ?_; intro vc wc Oc Gc Nc _; have Sc := Sb.grown Gc Sb.size (fun q e => by have := (Ob.lt q e).1; omega); have hszc : w1.heap.size ≤ wc.heap.size := Nat.le_trans hszb Gc.size; have Zc := Zb.grown Gc (fun e => by have := (Ob.lt _ e.symm).1; omega)))
        exact ⟨⟨i + 1, (by simp), (by omega), hlo3.out, by rw [htk'.out]; exact Oc, Zc, Sc, hszc⟩, by simp [intOf]; omega⟩
      · have hst : ∀ q, L[i]? = some q → ¬ q.id < s.id := fun q hq => by rw [hp] at hq; cases hq; exact hps
        have hstop := Lib.hid hst
        obtain rfl : ad = ⟨g, i * 14, none⟩ := hadf (fun e => by have := hdl; rw [e] at this; simp at this; omega)
        clear had
        go_upto_region 13 with fail
        go_quiet (fail)
        have hTq := ups hT (drewN_below wr nq) hT.size
        have hOq := own_below hO (drewN_below wr nq)
        have hXq := hX.below (drewN_below wr nq)
        have hszq : w1.heap.size ≤ (wr.drewN nq).heap.size := hsz
        have c0q := (hb1.below hTq).cell 0
        generalize wr.drewN nq = wq at *
        clear hst hp c0 d0 e0 hO hX hT hsz
        go_upto_region 17 with (fail)
        go_wp2_with (first
          | (refine wl_load 34 hXq rfl rfl rfl Tryz.underlying34 rfl size34 (by omega : 0 + 14 ≤ 14) (sV_all _) ?_)
          | (refine wl_sl 27 34 rfl rfl rfl Tryz.underlying27 (bsl34 _) ?_; intro wb Xb Tb; have Ob := own_below hOq Tb; have Sb := ups hTq Tb hTq.size; have Fb := flat_new (f := fS) (x := s) Xb rfl; have hszb : w1.heap.size ≤ wb.heap.size := Nat.le_trans hszq Tb.size)
          | (refine wpList_more rowS cellsS rfl _ _ rfl w1.heap.size (.slice a7 i c7) (L.take i) [s] i 1 htl rfl rfl Ob _ 1 rfl Fb (by omega) hszb ?_; intro vc wc Oc Gc Nc _; have Sc := Sb.grown Gc Sb.size (fun q e => by have := (Ob.lt q e).1; omega); have Fc := flat_part cellsS hb3 Sc i (ad := ⟨g, i * 14, none⟩) (fun _ => rfl); have hszc : w1.heap.size ≤ wc.heap.size := Nat.le_trans hszb Gc.size)
          | (refine wpList_more rowS cellsS rfl _ _ rfl w1.heap.size vc (L.take i ++ [s]) (L.drop i) (i + 1) (L.length - i) htl2 hdl rfl Oc ⟨g, i * 14, none⟩ (cap - i) rfl Fc (by omega) hszc ?_; intro vd wd Od Gd Nd _; obtain ⟨ad4, cd4, rfl⟩ := own_adr Od; have Sd := Sc.grown Gd Sc.size (fun q e => by have := (Oc.lt q e).1; omega); have Bd := hb1.below Sd)
          | (refine wl_put 27 (v := .slice (adr ad4) (i + 1 + (L.length - i)) cd4) Bd rfl rfl rfl rfl rfl rfl size27 (by simp) rfl ?_; intro we Xe Ke))
        go_ret
        have hins : insL s L = (L.take i ++ [s]) ++ L.drop i := by rw [ins_at hi hlo'.out (fun q hq => by have := hstop.out q hq; omega)]; simp
        have hlen2 : (insL s L).length = i + 1 + (L.length - i) := by rw [ins_len]; omega
        rw [← hins] at Od
        rw [← hlen2] at Od Xe
        exact ⟨rfl, rt_end Bd Sd hb1 hb2 Od (Nat.le_of_lt lt1) Xe Ke⟩
    · have i1 : ¬ (i : Int) < (L.length : Int) := by omega
      have hst : ∀ q, L[i]? = some q → ¬ q.id < s.id := fun q hq => by rw [List.getElem?_eq_none (by omega)] at hq; cases hq
      have hstop := Lib.hid hst
      go_upto_region 13 with fail
      go_quiet (fail)
      have hTq := ups hT (drewN_below wr nq) hT.size
      have hOq := own_below hO (drewN_below wr nq)
      have hXq := hX.below (drewN_below wr nq)
      have hszq : w1.heap.size ≤ (wr.drewN nq).heap.size := hsz
      have c0q := (hb1.below hTq).cell 0
      generalize wr.drewN nq = wq at *
      clear hst c0 e0 hO hX hT hsz
      go_upto_region 17 with (fail)
      go_wp2_with (first
        | (refine wl_load 34 hXq rfl rfl rfl Tryz.underlying34 rfl size34 (by omega : 0 + 14 ≤ 14) (sV_all _) ?_)
        | (refine wl_sl 27 34 rfl rfl rfl Tryz.underlying27 (bsl34 _) ?_; intro wb Xb Tb; have Ob := own_below hOq Tb; have Sb := ups hTq Tb hTq.size; have Fb := flat_new (f := fS) (x := s) Xb rfl; have hszb : w1.heap.size ≤ wb.heap.size := Nat.le_trans hszq Tb.size)
        | (refine wpList_more rowS cellsS rfl _ _ rfl w1.heap.size (.slice a7 i c7) (L.take i) [s] i 1 htl rfl rfl Ob _ 1 rfl Fb (by omega) hszb ?_; intro vc wc Oc Gc Nc _; have Sc := Sb.grown Gc Sb.size (fun q e => by have := (Ob.lt q e).1; omega); have Fc := flat_part cellsS hb3 Sc i (ad := ad) hadf; have hszc : w1.heap.size ≤ wc.heap.size := Nat.le_trans hszb Gc.size)
        | (refine wpList_more rowS cellsS rfl _ _ rfl w1.heap.size vc (L.take i ++ [s]) (L.drop i) (i + 1) (L.length - i) htl2 hdl rfl Oc ad (cap - i) rfl Fc (by omega) hszc ?_; intro vd wd Od Gd Nd _; obtain ⟨ad4, cd4, rfl⟩ := own_adr Od; have Sd := Sc.grown Gd Sc.size (fun q e => by have := (Oc.lt q e).1; omega); have Bd := hb1.below Sd)
        | (refine wl_put 27 (v := .slice (adr ad4) (i + 1 + (L.length - i)) cd4) Bd rfl rfl rfl rfl rfl rfl size27 (by simp) rfl ?_; intro we Xe Ke))
      go_ret
      have hins : insL s L = (L.take i ++ [s]) ++ L.drop i := by rw [ins_at hi hlo'.out (fun q hq => by have := hstop.out q hq; omega)]; simp
      have hlen2 : (insL s L).length = i + 1 + (L.length - i) := by rw [ins_len]; omega
      rw [← hins] at Od
      rw [← hlen2] at Od Xe
      exact ⟨rfl, rt_end Bd Sd hb1 hb2 Od (Nat.le_of_lt lt1) Xe Ke⟩
set_option maxHeartbeats 4000000 in
set_option maxRecDepth 100000 in
theorem radd_ok1 (h : Rt w χ c B L) (hF : Fit L) {s : Sp} (hs : s.ok) (hm : mayN s = 0) (hl : L.length < 64) (hno : ∀ p ∈ L, p.id ≠ s.id) {g cap : Nat} (hb1 : Box w B #[.slice (some ⟨g, 0, none⟩) L.length cap] 29) (hb2 : χ B = c) (hb3 : w.ownsRow 0 34 14 (.slice (some ⟨g, 0, none⟩) L.length cap) L.length (rowC fS L)) (hc : L.length ≤ cap) (hmx : cap ≤ maxLen) (h0 : s.par ≠ 0) (hh : hasS L s.par = true) (hlf : (getS L s.par).leaf = false) (hd : (pathL L s.par).length < 8) :
    Calls Tryz.prog 12 #[ptr B, .agg (sV s)] w fun e w' => e = .returned (eI 0) ∧ ∃ χ', Rt w' χ' c B (insL s L) ∧ Col χ χ' c w w' := by
  have hli : ¬ (64 : Int) ≤ (L.length : Int) := by omega
  have hN := Lib.hid hno
  have hx : ∀ (i : Nat) (p : Sp), L[i]? = some p → ∀ w', Below w.heap.size w w' → w'.cell? ⟨g, i * 14, none⟩ = some (.int .i64 p.id) ∧ w'.rangeAt g (i * 14) (sV p).toList := fun i p hp w' hw => by
    obtain ⟨a, cap', e, _, _, hx⟩ := row_cells hb3 rfl
    cases e
    obtain ⟨g', e, _, hx⟩ := hx i p hp
    cases e
    obtain ⟨x0, _, _, x3⟩ := hx w' hw
    exact ⟨x0, x3⟩
  have hxx := Lib.hid hx
  clear hno hx
  have hu := undef_ne
  have hdi : ¬ (8 : Int) ≤ ((pathL L s.par).length : Int) := by omega
  go_enter Tryz.func12, Tryz.ntmps12
  go_upto_region 13 with (first
    | (refine wl_box 34 rfl rfl rfl ?_; intro w1 X1 T1; have h1 := h.below T1; have c1 := (hb1.below T1).cell 0; have hY := may33 s hs w1; have d0 := (X1.cell 0).trans (sV_0 _); have d1 := (X1.cell 1).trans (sV_1 _))
    | (refine wl_load 34 X1 rfl rfl rfl Tryz.underlying34 rfl size34 (by omega : 0 + 14 ≤ 14) (sV_all _) ?_)
    | (go_at_call 33; (with_reducible refine hY.mono ?_); rintro e w2 ⟨rfl, T2⟩; rw [hm]; have X2 := X1.below T2; have S2 := ups T1 T2 T1.size; have c2 := (hb1.below S2).cell 0; have e0 := (X2.cell 0).trans (sV_0 _); have e1 := (X2.cell 1).trans (sV_1 _); have hA := rat_no (h.below S2) hF hN.out; have hG := rget_any (h.below S2) hF s.par)
    | (go_at_call 34; (with_reducible refine hA.mono ?_); rintro e w3 ⟨rfl, rfl⟩)
    | (go_at_call 35; (with_reducible refine hG.mono ?_); rintro e w4 ⟨rfl, T4⟩; rw [hh]; have X4 := X2.below T4; have S4 := ups S2 T4 S2.size)
    | (refine wl_alloc 34 rfl rfl zero34 ?_; intro w5 X5 T5; have Y5 := X4.below T5; have S5 := ups S4 T5 S4.size)
    | (refine wl_store 34 X5 rfl rfl rfl rfl size34 rfl (by omega : 0 + 14 ≤ 14) (sV_one _) (spl_ss _ _) ?_; intro w6 X6 K6; have S6 := K6.up S5 S4.size; have Y6 := K6.box Y5 (Nat.ne_of_lt X4.lt); have f2 := (X6.cell 2).trans (sV_2 _); rw [hlf] at f2; have f1 := (Y6.cell 1).trans (sV_1 _); have hPp := rpath_any (h.below S6) hF hs.2.1)
    | (go_at_call 36; (with_reducible refine hPp.mono ?_); rintro e w7 ⟨v7, rfl, O7, T7⟩; obtain ⟨a7, cap7, rfl, _⟩ := own_len O7; have S7 := ups S6 T7 S6.size; have X7 := Y6.below T7))
  have hNL : ∀ W : World, W.ownsRow w1.heap.size 34 14 (.slice none 0 0) 0 (rowC fS ([] : List Sp)) := fun W => World.ownsRow_nil _ _ _ _
  have lt1 : w.heap.size < w1.heap.size := X1.lt
  have j1 : (L.length : Int) ≤ (cap : Int) := by omega
  have hsz1 : w1.heap.size ≤ w7.heap.size := by have := T2.size; have := T4.size; have := T5.size; have := K6.size; have := T7.size; omega
  clear hA hG hY h1 c1 d0 d1 c2 e0 e1 T2 X1 T4 X4 T5 Y5 X5 X6 K6 Y6 f1 f2 hPp O7 T7
  go_loopw [7, 8] (fun s7 s8 wr => ∃ i : Nat, s8 = .int .i64 i ∧ i ≤ L.length ∧ (∀ j p, j < i → L[j]? = some p → p.id < s.id) ∧ wr.ownsRow w1.heap.size 34 14 s7 i (rowC fS (L.take i)) ∧ Box wr w.heap.size (sV s) 34 ∧ Below w.heap.size w wr ∧ w1.heap.size ≤ wr.heap.size) (fun _ s8 _ => L.length - (intOf s8).toNat)
  case atStart => exact ⟨0, rfl, by omega, fun j p hj => (by omega), hNL _, X7, S7, hsz1⟩
  case round =>
    obtain ⟨i, rfl, hi, hlo, hO, hX, hT, hsz⟩ := hrel
    have c0 := (hb1.below hT).cell 0
    have e0 := (hX.cell 0).trans (sV_0 _)
    have hlo' := Lib.hid hlo
    have htl : (L.take i).length = i := by rw [List.length_take]; omega
    have htl2 : (L.take i ++ [s]).length = i + 1 := by rw [List.length_append, htl]; rfl
    have hdl : (L.drop i).length = L.length - i := List.length_drop
    obtain ⟨a7, c7, rfl, hc7, _⟩ := own_len hO
    obtain ⟨ad, had, hadf⟩ : ∃ x : Addr, (if cap = i then (some (⟨g, 0, none⟩ : Addr)) else some ⟨g, i * 14, none⟩) = some x ∧ (L.drop i ≠ [] → x = ⟨g, i * 14, none⟩) := by
      by_cases h1 : cap = i
      · exact ⟨_, if_pos h1, fun hd => absurd (List.drop_eq_nil_of_le (by omega)) hd⟩
      · exact ⟨_, if_neg h1, fun _ => rfl⟩
    clear hlo
    have i2 : (0 : Int) ≤ (i : Int) := by omega
    have i3 : (i : Int) ≤ (L.length : Int) := by omega
    by_cases hlt : i < L.length
    · have i1 : (i : Int) < (L.length : Int) := by omega
      have hw1 : IntKind.i64.wrap ((i : Int) + 1) = (i : Int) + 1 := i64_id (by omega)
      obtain ⟨p, hp⟩ : ∃ p, L[i]? = some p := ⟨_, List.getElem?_eq_getElem hlt⟩
      obtain ⟨d0, _⟩ := hxx.out i p hp wr hT
      by_cases hps : p.id < s.id
      · go_upto_region 13 with fail
        go_quiet (fail)
        have hTq := ups hT (drewN_below wr nq) hT.size
        have hOq := own_below hO (drewN_below wr nq)
        have hXq := hX.below (drewN_below wr nq)
        have hszq : w1.heap.size ≤ (wr.drewN nq).heap.size := hsz
        have c0q := (hb1.below hTq).cell 0
        obtain ⟨_, d3q⟩ := hxx.out i p hp _ hTq
        have htk : L.take (i + 1) = L.take i ++ [p] := by rw [List.take_add_one, hp]; rfl
        have htk' := Lib.hid htk
        have hlo2 : ∀ j q, j < i + 1 → L[j]? = some q → q.id < s.id := fun j q hj hq => by
          rcases Nat.lt_or_ge j i with h | h
          · exact hlo'.out j q h hq
          · obtain rfl : j = i := by omega
            rw [hp] at hq; cases hq; exact hps
        have hlo3 := Lib.hid hlo2
        generalize wr.drewN nq = wq at *
        clear hlo2 htk hp had hadf hdl htl2 c0 d0 e0 hO hX hT hsz
        go_wp2_with (first
          | (refine wl_run (xl_loadr d3q rfl rfl) rfl ?_)
          | (refine wl_sl 27 34 rfl rfl rfl Tryz.underlying27 (bsl34 _) ?_; intro wb Xb Tb; have Ob := own_below hOq Tb; have Sb := ups hTq Tb hTq.size; have Zb := hXq.below Tb; have Fb := flat_new (f := fS) (x := p) Xb rfl; have hszb : w1.heap.size ≤ wb.heap.size := Nat.le_trans hszq Tb.size)
          | (refine wpList_more rowS cellsS rfl _ _ rfl w1.heap.size (.slice a7 i c7) (L.take i) [p] i 1 htl rfl rfl Ob _ 1 rfl Fb (by omega) hszb ?_; intro vc wc Oc Gc Nc _; have Sc := Sb.grown Gc Sb.size (fun q e => by have := (Ob.lt q e).1; omega); have hszc : w1.heap.size ≤ wc.heap.size := Nat.le_trans hszb Gc.size; have Zc := Zb.grown Gc (fun e => by have := (Ob.lt _ e.symm).1; omega)))
        exact ⟨⟨i + 1, (by simp), (by omega), hlo3.out, by rw [htk'.out]; exact Oc, Zc, Sc, hszc⟩, by simp [intOf]; omega⟩
      · have hst : ∀ q, L[i]? = some q → ¬ q.id < s.id := fun q hq => by rw [hp] at hq; cases hq; exact hps
        have hstop := Lib.hid hst
        obtain rfl : ad = ⟨g, i * 14, none⟩ := hadf (fun e => by have := hdl; rw [e] at this; simp at this; omega)
        clear had
        go_upto_region 13 with fail
        go_quiet (fail)
        have hTq := ups hT (drewN_below wr nq) hT.size
        have hOq := own_below hO (drewN_below wr nq)
        have hXq := hX.below (drewN_below wr nq)
        have hszq : w1.heap.size ≤ (wr.drewN nq).heap.size := hsz
        have c0q := (hb1.below hTq).cell 0
        generalize wr.drewN nq = wq at *
        clear hst hp c0 d0 e0 hO hX hT hsz
        go_upto_region 17 with (fail)
        go_wp2_with (first
          | (refine wl_load 34 hXq rfl rfl rfl Tryz.underlying34 rfl size34 (by omega : 0 + 14 ≤ 14) (sV_all _) ?_)
          | (refine wl_sl 27 34 rfl rfl rfl Tryz.underlying27 (bsl34 _) ?_; intro wb Xb Tb; have Ob := own_below hOq Tb; have Sb := ups hTq Tb hTq.size; have Fb := flat_new (f := fS) (x := s) Xb rfl; have hszb : w1.heap.size ≤ wb.heap.size := Nat.le_trans hszq Tb.size)
          | (refine wpList_more rowS cellsS rfl _ _ rfl w1.heap.size (.slice a7 i c7) (L.take i) [s] i 1 htl rfl rfl Ob _ 1 rfl Fb (by omega) hszb ?_; intro vc wc Oc Gc Nc _; have Sc := Sb.grown Gc Sb.size (fun q e => by have := (Ob.lt q e).1; omega); have Fc := flat_part cellsS hb3 Sc i (ad := ⟨g, i * 14, none⟩) (fun _ => rfl); have hszc : w1.heap.size ≤ wc.heap.size := Nat.le_trans hszb Gc.size)
          | (refine wpList_more rowS cellsS rfl _ _ rfl w1.heap.size vc (L.take i ++ [s]) (L.drop i) (i + 1) (L.length - i) htl2 hdl rfl Oc ⟨g, i * 14, none⟩ (cap - i) rfl Fc (by omega) hszc ?_; intro vd wd Od Gd Nd _; obtain ⟨ad4, cd4, rfl⟩ := own_adr Od; have Sd := Sc.grown Gd Sc.size (fun q e => by have := (Oc.lt q e).1; omega); have Bd := hb1.below Sd)
          | (refine wl_put 27 (v := .slice (adr ad4) (i + 1 + (L.length - i)) cd4) Bd rfl rfl rfl rfl rfl rfl size27 (by simp) rfl ?_; intro we Xe Ke))
        go_ret
        have hins : insL s L = (L.take i ++ [s]) ++ L.drop i := by rw [ins_at hi hlo'.out (fun q hq => by have := hstop.out q hq; omega)]; simp
        have hlen2 : (insL s L).length = i + 1 + (L.length - i) := by rw [ins_len]; omega
        rw [← hins] at Od
        rw [← hlen2] at Od Xe
        exact ⟨rfl, rt_end Bd Sd hb1 hb2 Od (Nat.le_of_lt lt1) Xe Ke⟩
    · have i1 : ¬ (i : Int) < (L.length : Int) := by omega
      have hst : ∀ q, L[i]? = some q → ¬ q.id < s.id := fun q hq => by rw [List.getElem?_eq_none (by omega)] at hq; cases hq
      have hstop := Lib.hid hst
      go_upto_region 13 with fail
      go_quiet (fail)
      have hTq := ups hT (drewN_below wr nq) hT.size
      have hOq := own_below hO (drewN_below wr nq)
      have hXq := hX.below (drewN_below wr nq)
      have hszq : w1.heap.size ≤ (wr.drewN nq).heap.size := hsz
      have c0q := (hb1.below hTq).cell 0
      generalize wr.drewN nq = wq at *
      clear hst c0 e0 hO hX hT hsz
      go_upto_region 17 with (fail)
      go_wp2_with (first
        | (refine wl_load 34 hXq rfl rfl rfl Tryz.underlying34 rfl size34 (by omega : 0 + 14 ≤ 14) (sV_all _) ?_)
        | (refine wl_sl 27 34 rfl rfl rfl Tryz.underlying27 (bsl34 _) ?_; intro wb Xb Tb; have Ob := own_below hOq Tb; have Sb := ups hTq Tb hTq.size; have Fb := flat_new (f := fS) (x := s) Xb rfl; have hszb : w1.heap.size ≤ wb.heap.size := Nat.le_trans hszq Tb.size)
        | (refine wpList_more rowS cellsS rfl _ _ rfl w1.heap.size (.slice a7 i c7) (L.take i) [s] i 1 htl rfl rfl Ob _ 1 rfl Fb (by omega) hszb ?_; intro vc wc Oc Gc Nc _; have Sc := Sb.grown Gc Sb.size (fun q e => by have := (Ob.lt q e).1; omega); have Fc := flat_part cellsS hb3 Sc i (ad := ad) hadf; have hszc : w1.heap.size ≤ wc.heap.size := Nat.le_trans hszb Gc.size)
        | (refine wpList_more rowS cellsS rfl _ _ rfl w1.heap.size vc (L.take i ++ [s]) (L.drop i) (i + 1) (L.length - i) htl2 hdl rfl Oc ad (cap - i) rfl Fc (by omega) hszc ?_; intro vd wd Od Gd Nd _; obtain ⟨ad4, cd4, rfl⟩ := own_adr Od; have Sd := Sc.grown Gd Sc.size (fun q e => by have := (Oc.lt q e).1; omega); have Bd := hb1.below Sd)
        | (refine wl_put 27 (v := .slice (adr ad4) (i + 1 + (L.length - i)) cd4) Bd rfl rfl rfl rfl rfl rfl size27 (by simp) rfl ?_; intro we Xe Ke))
      go_ret
      have hins : insL s L = (L.take i ++ [s]) ++ L.drop i := by rw [ins_at hi hlo'.out (fun q hq => by have := hstop.out q hq; omega)]; simp
      have hlen2 : (insL s L).length = i + 1 + (L.length - i) := by rw [ins_len]; omega
      rw [← hins] at Od
      rw [← hlen2] at Od Xe
      exact ⟨rfl, rt_end Bd Sd hb1 hb2 Od (Nat.le_of_lt lt1) Xe Ke⟩
set_option maxHeartbeats 4000000 in
set_option maxRecDepth 100000 in
theorem radd_nil (h : Rt w χ c B []) (hF : Fit []) {s : Sp} (hs : s.ok) (hm : mayN s = 0) (hb1 : Box w B #[.slice none 0 0] 29) (hb2 : χ B = c) (h0 : s.par = 0) :
    Calls Tryz.prog 12 #[ptr B, .agg (sV s)] w fun e w' => e = .returned (eI 0) ∧ ∃ χ', Rt w' χ' c B [s] ∧ Col χ χ' c w w' := by
  go_enter Tryz.func12, Tryz.ntmps12
  go_upto_region 13 with (first
    | (refine wl_box 34 rfl rfl rfl ?_; intro w1 X1 T1; have h1 := h.below T1; have c1 := (hb1.below T1).cell 0; have hY := may33 s hs w1; have d0 := (X1.cell 0).trans (sV_0 _); have d1 := (X1.cell 1).trans (sV_1 _))
    | (refine wl_load 34 X1 rfl rfl rfl Tryz.underlying34 rfl size34 (by omega : 0 + 14 ≤ 14) (sV_all _) ?_)
    | (go_at_call 33; (with_reducible refine hY.mono ?_); rintro e w2 ⟨rfl, T2⟩; rw [hm]; have X2 := X1.below T2; have S2 := ups T1 T2 T1.size; have c2 := (hb1.below S2).cell 0; have e0 := (X2.cell 0).trans (sV_0 _); have e1 := (X2.cell 1).trans (sV_1 _); have hA := rat_no (k := s.id) (h.below S2) hF (by simp); have hG := rget_any (h.below S2) hF s.par)
    | (go_at_call 34; (with_reducible refine hA.mono ?_); rintro e w3 ⟨rfl, rfl⟩))
  have hNL : ∀ W : World, W.ownsRow w1.heap.size 34 14 (.slice none 0 0) 0 (rowC fS ([] : List Sp)) := fun W => World.ownsRow_nil _ _ _ _
  have lt1 : w.heap.size < w1.heap.size := X1.lt
  have hsz1 : w1.heap.size ≤ w2.heap.size := T2.size
  clear hA hG hY h1 c1 d0 d1 c2 e0 e1 T2 X1
  go_loopw [7, 8] (fun s7 s8 wr => s7 = .slice none 0 0 ∧ s8 = .int .i64 0 ∧ Box wr w.heap.size (sV s) 34 ∧ Below w.heap.size w wr ∧ w1.heap.size ≤ wr.heap.size) (fun _ _ _ => 0)
  case atStart => exact ⟨rfl, rfl, X2, S2, hsz1⟩
  case round =>
    obtain ⟨rfl, rfl, hX, hT, hsz⟩ := hrel
    have c0 := (hb1.below hT).cell 0
    go_upto_region 13 with fail
    go_quiet (fail)
    have hTq := ups hT (drewN_below wr nq) hT.size
    have hXq := hX.below (drewN_below wr nq)
    have hszq : w1.heap.size ≤ (wr.drewN nq).heap.size := hsz
    have c0q := (hb1.below hTq).cell 0
    generalize wr.drewN nq = wq at *
    clear c0 hX hT hsz
    go_upto_region 17 with (fail)
    go_wp2_with (first
      | (refine wl_load 34 hXq rfl rfl rfl Tryz.underlying34 rfl size34 (by omega : 0 + 14 ≤ 14) (sV_all _) ?_)
      | (refine wl_sl 27 34 rfl rfl rfl Tryz.underlying27 (bsl34 _) ?_; intro wb Xb Tb; have Sb := ups hTq Tb hTq.size; have Fb := flat_new (f := fS) (x := s) Xb rfl; have hszb : w1.heap.size ≤ wb.heap.size := Nat.le_trans hszq Tb.size)
      | (refine wpList_more rowS cellsS rfl _ _ rfl w1.heap.size (.slice none 0 0) [] [s] 0 1 rfl rfl rfl (hNL _) _ 1 rfl Fb (by omega) hszb ?_; intro vc wc Oc Gc Nc _; obtain ⟨ac, cc, rfl⟩ := own_adr Oc; have Sc := Sb.grown Gc Sb.size (fun q e => by cases e); have Bc := hb1.below Sc)
      | (refine wpList_nomore rowS rfl _ _ rfl w1.heap.size 1 (.slice (adr ac) 1 cc) _ rfl Oc rfl ?_)
      | (refine wl_put 27 (v := .slice (adr ac) 1 cc) Bc rfl rfl rfl rfl rfl rfl size27 (by simp) rfl ?_; intro we Xe Ke))
    go_ret
    exact ⟨rfl, rt_end (L' := [s]) Bc Sc hb1 hb2 Oc (Nat.le_of_lt lt1) Xe Ke⟩
theorem radd_any (h : Rt w χ c B L) (hF : Fit L) {s : Sp} (hs : s.ok) :
    Calls Tryz.prog 12 #[ptr B, .agg (sV s)] w fun e w' => e = .returned (eI (addE L s)) ∧ ∃ χ', Rt w' χ' c B (addL L s) ∧ Col χ χ' c w w' := by
  have fin : ∀ x, addE L s = x → x ≠ 0 → (Calls Tryz.prog 12 #[ptr B, .agg (sV s)] w fun e w' => e = .returned (eI x) ∧ Below w.heap.size w w') → Calls Tryz.prog 12 #[ptr B, .agg (sV s)] w fun e w' => e = .returned (eI (addE L s)) ∧ ∃ χ', Rt w' χ' c B (addL L s) ∧ Col χ χ' c w w' := fun x e hx hc => by
    have hno : addL L s = L := if_neg (by rw [e]; exact hx)
    rw [hno]
    exact hc.mono fun e1 w' ⟨x1, y1⟩ => ⟨by rw [x1, e], χ, h.below y1, Col.of y1⟩
  by_cases hm : mayN s = 0
  · have hm' : ¬ mayN s ≠ 0 := fun h => h hm
    by_cases hl : 64 ≤ L.length
    · exact fin 4 (by unfold addE; rw [if_neg hm', if_pos hl]) (by omega) (radd_full h hF hs hm hl)
    · by_cases hg : hasS L s.id = true
      · obtain ⟨p, hp, e⟩ := hasS_iff.1 hg
        obtain ⟨i, hi, e2⟩ := List.getElem_of_mem hp
        exact fin 80 (by unfold addE; rw [if_neg hm', if_neg hl, if_pos hg]) (by omega) (radd_twice h hF hs hm (by omega) (i := i) (p := p) (by rw [List.getElem?_eq_getElem hi, e2]) e)
      · have hn : ∀ p ∈ L, p.id ≠ s.id := fun p hp e => hg (hasS_iff.2 ⟨p, hp, e⟩)
        cases hb : bearsL L s.par with
        | true =>
          have he : addE L s = 0 := by unfold addE; rw [if_neg hm', if_neg hl, if_neg hg, if_pos hb]
          have hL : addL L s = insL s L := if_pos he
          rw [he, hL]
          unfold bearsL at hb
          obtain ⟨v, hb1, hb2, hb3, hb4⟩ := id h
          rcases row_src hb3 with ⟨rfl, rfl⟩ | ⟨g, cap, rfl, hc, hmx, hO⟩
          · have h0 : s.par = 0 := by
              rw [hasS_none (by simp)] at hb
              simpa using hb
            exact radd_nil h hF hs hm hb1 hb2 h0
          · by_cases h0 : s.par = 0
            · exact radd_ok0 h hF hs hm (by omega) hn hb1 hb2 hO hc hmx h0
            · have hk0 : (s.par == 0) = false := by simpa using h0
              rw [hk0] at hb
              simp only [Bool.false_or, Bool.and_eq_true, decide_eq_true_eq, Bool.not_eq_true'] at hb
              exact radd_ok1 h hF hs hm (by omega) hn hb1 hb2 hO hc hmx h0 hb.1.1 hb.1.2 hb.2
        | false =>
          have he : addE L s = 160 := by unfold addE; rw [if_neg hm', if_neg hl, if_neg hg, hb]; rfl
          unfold bearsL at hb
          have h0 : s.par ≠ 0 := fun e => by rw [e] at hb; simp at hb
          have hk0 : (s.par == 0) = false := by simpa using h0
          rw [hk0, Bool.false_or] at hb
          cases hh : hasS L s.par with
          | false => exact fin 160 he (by omega) (radd_p1 h hF hs hm (by omega) hn h0 hh)
          | true =>
            cases hlf : (getS L s.par).leaf with
            | true => exact fin 160 he (by omega) (radd_p2 h hF hs hm (by omega) hn h0 hh hlf)
            | false =>
              rw [hh, hlf] at hb
              exact fin 160 he (by omega) (radd_p3 h hF hs hm (by omega) hn h0 hh hlf (by simpa using hb))
  · exact fin 130 (by unfold addE; rw [if_pos hm]) (by omega) (radd_shape h hs ((may_or s).resolve_left hm))
end
end Go.Proofs.YtpopcnebndgblaaGreat.H

namespace Go.Proofs.YtpopcnebndgblaaGreat.H
open Go.ChangeShapes Go.WideShapes Go.Deep Go.RowKit
set_option linter.unusedVariables false
set_option linter.unusedSimpArgs false
section
variable {P : Program} {ops : Array Oper} {o : Oper} {a : Act} {w : World} {Q : Exit → Act → World → Prop} {K : Act → World → Prop} {E : Prop}
/-- In a region: one cell is stored in a block. -/
theorem st_put (ty : TypeId) {x y : Operand} {B k : Nat} {c c' : Array Value} {t : TypeId} {v : Value} (hB : Box w B c t) (hw : Region.wanted o (yielded ops a.tmps) = true) (ho : o.op = .store ty x y) (hx : a.eval x = .pointer (some ⟨B, k, none⟩)) (hy : a.eval y = v)
    (hv : v.cells = #[v]) (h1 : v.oneCell' = true) (hi : (P.info? ty).map (·.size) = some 1) (hs : k < c.size) (hc : c.setIfInBounds k v = c')
    (h : ∀ w', Box w' B c' t → But B w w' → K (a.put o.dst undef) w') : if Region.wanted o (yielded ops a.tmps) = true then Oper.wp P o a w K Q else E := by
  rw [if_pos hw]
  have hst : (storeVar ty ⟨B, k, none⟩ v).run P w = .ok () (w.setCell ⟨B, k, none⟩ v) := by
    have := run_storeCells_cells (P := P) B k [v] 0 w (fun j hj => by simpa using ((hB.there (o := k) (n := 1) (by omega)) j (by simpa using hj)).1) (fun j hj => by simpa using ((hB.there (o := k) (n := 1) (by omega)) j (by simpa using hj)).2)
      (fun u hu => by
        have e : u = v := by simpa using hu
        rw [e]; exact h1)
    cases hq : P.info? ty with
    | none => simp [hq] at hi
    | some i =>
      have hs : i.size = 1 := by simpa [hq] using hi
      simp only [Nat.add_zero] at this
      simp [storeVar, sizeOf, typeInfo, hq, hv, hs, this, World.setCells]
  unfold Oper.wp execOp
  simp only [ho, hx, hy, Instr.storeAt, Instr.sureAddr, Sem.run_bind, Sem.run_pure, Result.andThen_ok, hst]
  exact h _ (by rw [← hc]; exact hB.set k v) ((But.refl B w).set k v)
end
theorem drop_at {k : Int} : ∀ {L : List Sp} {i : Nat} {p : Sp}, L.Pairwise (fun a b => a.id < b.id) → L[i]? = some p → p.id = k → dropL L k = L.take i ++ L.drop (i + 1)
  | [], i, p, _, h, _ => by simp at h
  | c :: L, 0, p, ho, h, hk => by
    obtain ⟨h1, h2⟩ := List.pairwise_cons.1 ho
    obtain rfl : c = p := by simpa using h
    unfold dropL
    rw [List.filter_cons_of_neg (by simp [hk]), List.filter_eq_self.2 (fun q hq => by have := h1 q hq; simp; omega)]
    simp
  | c :: L, i + 1, p, ho, h, hk => by
    obtain ⟨h1, h2⟩ := List.pairwise_cons.1 ho
    have hp : L[i]? = some p := by simpa using h
    have hc := h1 p (List.mem_of_getElem? hp)
    have ih := drop_at h2 hp hk
    unfold dropL at ih ⊢
    rw [List.filter_cons_of_pos (by simp; omega), ih, List.take_succ_cons, List.drop_succ_cons, List.cons_append]
theorem chg_at {s : Sp} : ∀ {L : List Sp} {i : Nat} {p : Sp}, L.Pairwise (fun a b => a.id < b.id) → L[i]? = some p → p.id = s.id → chgL L s = L.set i (withS p s)
  | [], i, p, _, h, _ => by simp at h
  | c :: L, 0, p, ho, h, hk => by
    obtain ⟨h1, h2⟩ := List.pairwise_cons.1 ho
    obtain rfl : c = p := by simpa using h
    unfold chgL
    rw [List.map_cons, List.set_cons_zero]
    congr 1
    · unfold chgF; rw [if_pos hk]
    · have e : L.map (chgF s) = L.map id := List.map_congr_left (fun q hq => by
        have := h1 q hq
        unfold chgF
        rw [if_neg (by omega)]; rfl)
      rw [e, List.map_id]
  | c :: L, i + 1, p, ho, h, hk => by
    obtain ⟨h1, h2⟩ := List.pairwise_cons.1 ho
    have hp : L[i]? = some p := by simpa using h
    have hc := h1 p (List.mem_of_getElem? hp)
    have ih := chg_at h2 hp hk
    unfold chgL at ih ⊢
    rw [List.map_cons, List.set_cons_succ, ih]
    congr 1
    unfold chgF
    rw [if_neg (by omega)]
section
variable {w w' : World} {χ χ' : Nat → Nat} {c d B base n : Nat} {L : List Sp} {zs : List Int}
set_option maxHeartbeats 4000000 in
set_option maxRecDepth 100000 in
theorem rdrop_absent (h : Rt w χ c B L) (hF : Fit L) {k : Int} (hno : ∀ p ∈ L, p.id ≠ k) :
    Calls Tryz.prog 16 #[ptr B, eI k] w fun e w' => e = .returned (eI (81)) ∧ Below w.heap.size w w' := by
  have hA := rat_no h hF hno
  clear hno
  go_enter Tryz.func16, Tryz.ntmps16
  go_wp2_with (first
    | (go_at_call 34; (with_reducible refine hA.mono ?_); rintro e w1 ⟨rfl, rfl⟩))
  go_ret
  exact ⟨by simp, Below.refl _ _⟩
set_option maxHeartbeats 4000000 in
set_option maxRecDepth 100000 in
theorem rdrop_child (h : Rt w χ c B L) (hF : Fit L) {k : Int} {i : Nat} {p : Sp} (hi : L[i]? = some p) (hk : p.id = k) (hu : 0 < (underL L k).length) :
    Calls Tryz.prog 16 #[ptr B, eI k] w fun e w' => e = .returned (eI (161)) ∧ Below w.heap.size w w' := by
  have hA := rat_yes h hF hi hk
  have hU := runder_any h hF k
  have i0 : (0 : Int) ≤ (i : Int) := by omega
  clear hi hk
  go_enter Tryz.func16, Tryz.ntmps16
  go_wp2_with (first
    | (go_at_call 34; (with_reducible refine hA.mono ?_); rintro e w1 ⟨rfl, rfl⟩)
    | (go_at_call 40; (with_reducible refine hU.mono ?_); rintro e w2 ⟨v2, rfl, O2, T2⟩; obtain ⟨a2, c2, rfl, _⟩ := own_len O2))
  go_ret
  exact ⟨by simp, T2⟩
set_option maxHeartbeats 4000000 in
set_option maxRecDepth 100000 in
theorem rdrop_ok (h : Rt w χ c B L) (hF : Fit L) {k : Int} {i : Nat} {p : Sp} (hi : L[i]? = some p) (hk : p.id = k) (hu : underL L k = []) :
    Calls Tryz.prog 16 #[ptr B, eI k] w fun e w' => e = .returned (eI 0) ∧ ∃ χ', Rt w' χ' c B (dropL L k) ∧ Col χ χ' c w w' := by
  have hA := rat_yes h hF hi hk
  have hU := runder_any h hF k
  rw [hu] at hU
  have i0 : (0 : Int) ≤ (i : Int) := by omega
  have hlt : i < L.length := (List.getElem?_eq_some_iff.1 hi).1
  have hd := drop_at hF.tree.ord hi hk
  have hfew := hF.few
  obtain ⟨v, hb1, hb2, hb3, hb4⟩ := id h
  rcases row_src hb3 with ⟨_, e⟩ | ⟨g, cap, rfl, hc, hmx, hO⟩
  · rw [e] at hlt; simp at hlt
  have htl : (L.take i).length = i := by rw [List.length_take]; omega
  have hdl : (L.drop (i + 1)).length = L.length - (i + 1) := List.length_drop
  obtain ⟨ad, had, hadf⟩ : ∃ x : Addr, (if cap = i + 1 then (some (⟨g, 0, none⟩ : Addr)) else some ⟨g, (i + 1) * 14, none⟩) = some x ∧ (L.drop (i + 1) ≠ [] → x = ⟨g, (i + 1) * 14, none⟩) := by
    by_cases h1 : cap = i + 1
    · exact ⟨_, if_pos h1, fun hd => absurd (List.drop_eq_nil_of_le (by omega)) hd⟩
    · exact ⟨_, if_neg h1, fun _ => rfl⟩
  have hlen2 : (dropL L k).length = 0 + i + (L.length - (i + 1)) := by rw [hd, List.length_append, htl, hdl]; omega
  have hd' := Lib.hid hd
  have hl2 := Lib.hid hlen2
  have i1 : (i : Int) ≤ (L.length : Int) := by omega
  have i2 : (i : Int) + 1 ≤ (L.length : Int) := by omega
  have i3 : (i : Int) ≤ (cap : Int) := by omega
  have i4 : (0 : Int) ≤ (i : Int) + 1 := by omega
  have i5 : ((i : Int) + 1).toNat = i + 1 := by omega
  have hw1 : IntKind.i64.wrap ((i : Int) + 1) = (i : Int) + 1 := i64_id (by omega)
  have fin : ∀ (a5 : Option Nat) (c5 : Nat) (b0 : Nat) (w5 w6 : World), w5.ownsRow b0 34 14 (.slice (adr a5) (0 + i + (L.length - (i + 1))) c5) (0 + i + (L.length - (i + 1))) (rowC fS (L.take i ++ L.drop (i + 1))) → Below w.heap.size w w5 → Box w5 B #[.slice (some ⟨g, 0, none⟩) L.length cap] 29 → Box w6 B #[.slice (adr a5) (0 + i + (L.length - (i + 1))) c5] 29 → But B w5 w6 → w.heap.size ≤ b0 → ∃ χ', Rt w6 χ' c B (dropL L k) ∧ Col χ χ' c w w6 := fun a5 c5 b0 w5 w6 O S B5 X K hle => by
    rw [← hd] at O
    rw [← hlen2] at O X
    exact rt_end B5 S hb1 hb2 O hle X K
  have hF9 := Lib.hid fin
  clear hi hk hu hd hlen2 hb3 fin
  go_enter Tryz.func16, Tryz.ntmps16
  go_upto_region 6 with (first
    | (go_at_call 34; (with_reducible refine hA.mono ?_); rintro e w1 ⟨rfl, rfl⟩)
    | (go_at_call 40; (with_reducible refine hU.mono ?_); rintro e w2 ⟨v2, rfl, O2, T2⟩; obtain ⟨a2, c2, rfl, _⟩ := own_len O2))
  have B2 := hb1.below T2
  refine wp_region_held_drew (S := fun _ => True) (by kernel_rfl) trivial (fun hHeld => ?_)
  refine wpAnyH_take (i := 0) (v := ?_) (by simp only [List.getElem?_toArray, List.getElem?_cons_zero]; rfl) (by kernel_rfl) (by kernel_rfl) (by kernel_rfl) (by exact fun _ _ _ h => h) (Or.inl ⟨by rfl, ?_⟩) (by assumption) ?_
  rotate_left
  · (intro w hSw; (try dsimp only at hSw); go_simp; (try with_reducible rfl))
  try simp only [Act.put, List.setIfInBounds_toArray, List.set_cons_zero, List.set_cons_succ]
  refine wpAnyH_take (i := 2) (v := ?_) (by simp only [List.getElem?_toArray, List.getElem?_cons_zero, List.getElem?_cons_succ]; rfl) (by kernel_rfl) (by kernel_rfl) (by kernel_rfl) (by exact fun _ _ _ h => h) (Or.inl ⟨by rfl, ?_⟩) (by assumption) ?_
  rotate_left
  · (intro w hSw; (try dsimp only at hSw); go_simp; (try with_reducible rfl))
  try simp only [Act.put, List.setIfInBounds_toArray, List.set_cons_zero, List.set_cons_succ]
  refine wpAnyH_take (i := 3) (v := ?_) (by simp only [List.getElem?_toArray, List.getElem?_cons_zero, List.getElem?_cons_succ]; rfl) (by kernel_rfl) (by kernel_rfl) (by kernel_rfl) (by exact fun _ _ _ h => h) (Or.inl ⟨by rfl, ?_⟩) (by assumption) ?_
  rotate_left
  · (intro w hSw; (try dsimp only at hSw); go_simp; (try with_reducible rfl))
  try simp only [Act.put, List.setIfInBounds_toArray, List.set_cons_zero, List.set_cons_succ]
  refine wpAnyH_take (i := 4) (v := ?_) (by simp only [List.getElem?_toArray, List.getElem?_cons_zero, List.getElem?_cons_succ]; rfl) (by kernel_rfl) (by kernel_rfl) (by kernel_rfl) (by exact fun _ _ _ h => h) (Or.inl ⟨by rfl, ?_⟩) (by assumption) ?_
  rotate_left
  · (intro w hSw; (try dsimp only at hSw); go_simp; (try with_reducible rfl))
  try simp only [Act.put, List.setIfInBounds_toArray, List.set_cons_zero, List.set_cons_succ]
  refine wpAnyH_take (i := 6) (v := ?_) (by simp only [List.getElem?_toArray, List.getElem?_cons_zero, List.getElem?_cons_succ]; rfl) (by kernel_rfl) (by kernel_rfl) (by kernel_rfl) (by exact fun _ _ _ h => h) (Or.inl ⟨by rfl, ?_⟩) (by assumption) ?_
  rotate_left
  · (intro w hSw; (try dsimp only at hSw); go_simp; (try with_reducible rfl))
  try simp only [Act.put, List.setIfInBounds_toArray, List.set_cons_zero, List.set_cons_succ]
  refine wpAnyH_take (i := 9) (v := ?_) (by simp only [List.getElem?_toArray, List.getElem?_cons_zero, List.getElem?_cons_succ]; rfl) (by kernel_rfl) (by kernel_rfl) (by kernel_rfl) (by exact fun _ _ _ h => h) (Or.inl ⟨by rfl, ?_⟩) (by assumption) ?_
  rotate_left
  · (intro w hSw; (try dsimp only at hSw); go_simp; (try with_reducible rfl))
  try simp only [Act.put, List.setIfInBounds_toArray, List.set_cons_zero, List.set_cons_succ]
  refine wpAnyH_take (i := 10) (v := ?_) (by simp only [List.getElem?_toArray, List.getElem?_cons_zero, List.getElem?_cons_succ]; rfl) (by kernel_rfl) (by kernel_rfl) (by kernel_rfl) (by exact fun _ _ _ h => h) (Or.inl ⟨by rfl, ?_⟩) (by assumption) ?_
  rotate_left
  · (intro w hSw; (try dsimp only at hSw); go_simp; (try with_reducible rfl))
  try simp only [Act.put, List.setIfInBounds_toArray, List.set_cons_zero, List.set_cons_succ]
  refine wpAnyH_take (i := 11) (v := ?_) (by simp only [List.getElem?_toArray, List.getElem?_cons_zero, List.getElem?_cons_succ]; rfl) (by kernel_rfl) (by kernel_rfl) (by kernel_rfl) (by exact fun _ _ _ h => h) (Or.inl ⟨by rfl, ?_⟩) (by assumption) ?_
  rotate_left
  · (intro w hSw; (try dsimp only at hSw); go_simp; (try with_reducible rfl))
  try simp only [Act.put, List.setIfInBounds_toArray, List.set_cons_zero, List.set_cons_succ]
  refine wpAnyH_take (i := 13) (v := ?_) (by simp only [List.getElem?_toArray, List.getElem?_cons_zero, List.getElem?_cons_succ]; rfl) (by kernel_rfl) (by kernel_rfl) (by kernel_rfl) (by exact fun _ _ _ h => h) (Or.inl ⟨by rfl, ?_⟩) (by assumption) ?_
  rotate_left
  · (intro w hSw; (try dsimp only at hSw); go_simp; (try with_reducible rfl))
  try simp only [Act.put, List.setIfInBounds_toArray, List.set_cons_zero, List.set_cons_succ]
  refine wpAnyH_take (i := 14) (v := ?_) (by simp only [List.getElem?_toArray, List.getElem?_cons_zero, List.getElem?_cons_succ]; rfl) (by kernel_rfl) (by kernel_rfl) (by kernel_rfl) (by exact fun _ _ _ h => h) (Or.inl ⟨by rfl, ?_⟩) (by assumption) ?_
  rotate_left
  · (intro w hSw; (try dsimp only at hSw); go_simp; (try with_reducible rfl))
  try simp only [Act.put, List.setIfInBounds_toArray, List.set_cons_zero, List.set_cons_succ]
  refine wpAnyH_ready (rs := [1, 5, 12]) (by kernel_rfl) (by simp) ?_
  refine AllReadyH.cons (by simp only [List.getElem?_toArray, List.getElem?_cons_zero, List.getElem?_cons_succ]; rfl) (fun K hK => ?_) ?_
  · refine st_sl0 27 34 rfl rfl Tryz.underlying27 size34 ?_
    intro w3 X3 T3
    have T3' : Below w2.heap.size w2 w3 := undrew T3
    have S3 := ups T2 T3' T2.size
    have O3 := own_empty (α := Sp) (s := 14) (f := fS) X3 (Nat.le_refl w2.drew.heap.size)
    have F3 := flat_first cellsS hO S3 i
    have B3 := hb1.below S3
    refine hK.out _ _ trivial (fun hHeld => ?_)
    clear hK K
    try simp only [Act.put, List.setIfInBounds_toArray, List.set_cons_zero, List.set_cons_succ]
    refine wpAnyH_ready (rs := [5, 12]) (by kernel_rfl) (by simp) ?_
    refine AllReadyH.cons (by simp only [List.getElem?_toArray, List.getElem?_cons_zero, List.getElem?_cons_succ]; rfl) (fun K hK => ?_) ?_
    · refine st_run (v := .slice (some ⟨g, 0, none⟩) L.length cap) (xl_cell 27 B3 rfl rfl Tryz.underlying27 rfl rfl) rfl ?_
      refine hK.out _ _ trivial (fun hHeld => ?_)
      clear hK K
      try simp only [Act.put, List.setIfInBounds_toArray, List.set_cons_zero, List.set_cons_succ]
      refine wpAnyH_take (i := 7) (v := ?_) (by simp only [List.getElem?_toArray, List.getElem?_cons_zero, List.getElem?_cons_succ]; rfl) (by kernel_rfl) (by kernel_rfl) (by kernel_rfl) (by exact fun _ _ _ h => h) (Or.inl ⟨by rfl, ?_⟩) (by assumption) ?_
      rotate_left
      · (intro w hSw; (try dsimp only at hSw); go_simp; (try with_reducible rfl))
      try simp only [Act.put, List.setIfInBounds_toArray, List.set_cons_zero, List.set_cons_succ]
      refine wpAnyH_ready (rs := [8, 12]) (by kernel_rfl) (by simp) ?_
      refine AllReadyH.cons (by simp only [List.getElem?_toArray, List.getElem?_cons_zero, List.getElem?_cons_succ]; rfl) (fun K hK => ?_) ?_
      · refine step_more rowS cellsS rfl _ _ rfl w2.heap.size (.slice (some ⟨w2.heap.size, 0, none⟩) 0 0) [] (L.take i) 0 i rfl htl rfl O3 ⟨g, 0, none⟩ cap rfl F3 (by omega) T3'.size ?_
        intro v4 w4 O4 G4 N4 _
        have S4 := S3.grown G4 S3.size (fun q e => by have := (O3.lt q e).1; have h2 : w2.drew.heap.size = w2.heap.size := rfl; have := T2.size; omega)
        have F4 := flat_part cellsS hO S4 (i + 1) (ad := ad) hadf
        have hs4 : w2.heap.size ≤ w4.heap.size := Nat.le_trans T3'.size G4.size
        have B4 := hb1.below S4
        refine hK.out _ _ trivial (fun hHeld => ?_)
        clear hK K
        try simp only [Act.put, List.setIfInBounds_toArray, List.set_cons_zero, List.set_cons_succ]
        refine wpAnyH_ready (rs := [12]) (by kernel_rfl) (by simp) ?_
        refine AllReadyH.cons (by simp only [List.getElem?_toArray, List.getElem?_cons_zero, List.getElem?_cons_succ]; rfl) (fun K hK => ?_) AllReadyH.nil
        refine st_run (v := .slice (some ⟨g, 0, none⟩) L.length cap) (xl_cell 27 B4 rfl rfl Tryz.underlying27 rfl rfl) rfl ?_
        refine hK.out _ _ trivial (fun hHeld => ?_)
        clear hK K
        try simp only [Act.put, List.setIfInBounds_toArray, List.set_cons_zero, List.set_cons_succ]
        refine wpAnyH_take (i := 15) (v := ?_) (by simp only [List.getElem?_toArray, List.getElem?_cons_zero, List.getElem?_cons_succ]; rfl) (by kernel_rfl) (by kernel_rfl) (by kernel_rfl) (by exact fun _ _ _ h => h) (Or.inl ⟨by rfl, ?_⟩) (by assumption) ?_
        rotate_left
        · (intro w hSw; (try dsimp only at hSw); go_simp; (try with_reducible rfl))
        try simp only [Act.put, List.setIfInBounds_toArray, List.set_cons_zero, List.set_cons_succ]
        refine wpAnyH_ready (rs := [16]) (by kernel_rfl) (by simp) ?_
        refine AllReadyH.cons (by simp only [List.getElem?_toArray, List.getElem?_cons_zero, List.getElem?_cons_succ]; rfl) (fun K hK => ?_) AllReadyH.nil
        refine step_more rowS cellsS rfl _ _ rfl w2.heap.size v4 (L.take i) (L.drop (i + 1)) (0 + i) (L.length - (i + 1)) (by omega) hdl rfl O4 ad (cap - (i + 1)) rfl F4 (by omega) hs4 ?_
        intro v5 w5 O5 G5 N5 _
        have S5 := S4.grown G5 S4.size (fun q e => by have := (O4.lt q e).1; have := T2.size; omega)
        have B5 := hb1.below S5
        obtain ⟨a5, c5, rfl⟩ := own_adr O5
        refine hK.out _ _ trivial (fun hHeld => ?_)
        clear hK K
        try simp only [Act.put, List.setIfInBounds_toArray, List.set_cons_zero, List.set_cons_succ]
        refine wpAnyH_take (i := 17) (v := ?_) (by simp only [List.getElem?_toArray, List.getElem?_cons_zero, List.getElem?_cons_succ]; rfl) (by kernel_rfl) (by kernel_rfl) (by kernel_rfl) (by exact fun _ _ _ h => h) (Or.inl ⟨by rfl, ?_⟩) (by assumption) ?_
        rotate_left
        · (intro w hSw; (try dsimp only at hSw); go_simp; (try with_reducible rfl))
        try simp only [Act.put, List.setIfInBounds_toArray, List.set_cons_zero, List.set_cons_succ]
        refine wpAnyH_take (i := 18) (v := ?_) (by simp only [List.getElem?_toArray, List.getElem?_cons_zero, List.getElem?_cons_succ]; rfl) (by kernel_rfl) (by kernel_rfl) (by kernel_rfl) (by exact fun _ _ _ h => h) (Or.inl ⟨by rfl, ?_⟩) (by assumption) ?_
        rotate_left
        · (intro w hSw; (try dsimp only at hSw); go_simp; (try with_reducible rfl))
        try simp only [Act.put, List.setIfInBounds_toArray, List.set_cons_zero, List.set_cons_succ]
        refine wpAnyH_ready (rs := [19]) (by kernel_rfl) (by simp) ?_
        refine AllReadyH.cons (by simp only [List.getElem?_toArray, List.getElem?_cons_zero, List.getElem?_cons_succ]; rfl) (fun K hK => ?_) AllReadyH.nil
        refine st_put 27 (v := .slice (adr a5) (0 + i + (L.length - (i + 1))) c5) B5 rfl rfl rfl rfl rfl rfl size27 (by simp) rfl ?_
        intro w6 X6 K6
        refine hK.out _ _ trivial (fun hHeld => ?_)
        clear hK K
        try simp only [Act.put, List.setIfInBounds_toArray, List.set_cons_zero, List.set_cons_succ]
        refine wpAnyH_done (by kernel_rfl) ?_ _
        clear hHeld
        go_wp2_with fail
        go_ret
        exact ⟨rfl, hF9.out a5 c5 _ w5 w6 O5 S5 B5 X6 K6 T2.size⟩
      refine AllReadyH.cons (by simp only [List.getElem?_toArray, List.getElem?_cons_zero, List.getElem?_cons_succ]; rfl) (fun K hK => ?_) AllReadyH.nil
      refine st_run (v := .slice (some ⟨g, 0, none⟩) L.length cap) (xl_cell 27 B3 rfl rfl Tryz.underlying27 rfl rfl) rfl ?_
      refine hK.out _ _ trivial (fun hHeld => ?_)
      clear hK K
      try simp only [Act.put, List.setIfInBounds_toArray, List.set_cons_zero, List.set_cons_succ]
      refine wpAnyH_take (i := 15) (v := ?_) (by simp only [List.getElem?_toArray, List.getElem?_cons_zero, List.getElem?_cons_succ]; rfl) (by kernel_rfl) (by kernel_rfl) (by kernel_rfl) (by exact fun _ _ _ h => h) (Or.inl ⟨by rfl, ?_⟩) (by assumption) ?_
      rotate_left
      · (intro w hSw; (try dsimp only at hSw); go_simp; (try with_reducible rfl))
      try simp only [Act.put, List.setIfInBounds_toArray, List.set_cons_zero, List.set_cons_succ]
      refine wpAnyH_ready (rs := [8]) (by kernel_rfl) (by simp) ?_
      refine AllReadyH.cons (by simp only [List.getElem?_toArray, List.getElem?_cons_zero, List.getElem?_cons_succ]; rfl) (fun K hK => ?_) AllReadyH.nil
      refine step_more rowS cellsS rfl _ _ rfl w2.heap.size (.slice (some ⟨w2.heap.size, 0, none⟩) 0 0) [] (L.take i) 0 i rfl htl rfl O3 ⟨g, 0, none⟩ cap rfl F3 (by omega) T3'.size ?_
      intro v4 w4 O4 G4 N4 _
      have S4 := S3.grown G4 S3.size (fun q e => by have := (O3.lt q e).1; have h2 : w2.drew.heap.size = w2.heap.size := rfl; have := T2.size; omega)
      have F4 := flat_part cellsS hO S4 (i + 1) (ad := ad) hadf
      have hs4 : w2.heap.size ≤ w4.heap.size := Nat.le_trans T3'.size G4.size
      have B4 := hb1.below S4
      refine hK.out _ _ trivial (fun hHeld => ?_)
      clear hK K
      try simp only [Act.put, List.setIfInBounds_toArray, List.set_cons_zero, List.set_cons_succ]
      refine wpAnyH_ready (rs := [16]) (by kernel_rfl) (by simp) ?_
      refine AllReadyH.cons (by simp only [List.getElem?_toArray, List.getElem?_cons_zero, List.getElem?_cons_succ]; rfl) (fun K hK => ?_) AllReadyH.nil
      refine step_more rowS cellsS rfl _ _ rfl w2.heap.size v4 (L.take i) (L.drop (i + 1)) (0 + i) (L.length - (i + 1)) (by omega) hdl rfl O4 ad (cap - (i + 1)) rfl F4 (by omega) hs4 ?_
      intro v5 w5 O5 G5 N5 _
      have S5 := S4.grown G5 S4.size (fun q e => by have := (O4.lt q e).1; have := T2.size; omega)
      have B5 := hb1.below S5
      obtain ⟨a5, c5, rfl⟩ := own_adr O5
      refine hK.out _ _ trivial (fun hHeld => ?_)
      clear hK K
      try simp only [Act.put, List.setIfInBounds_toArray, List.set_cons_zero, List.set_cons_succ]
      refine wpAnyH_take (i := 17) (v := ?_) (by simp only [List.getElem?_toArray, List.getElem?_cons_zero, List.getElem?_cons_succ]; rfl) (by kernel_rfl) (by kernel_rfl) (by kernel_rfl) (by exact fun _ _ _ h => h) (Or.inl ⟨by rfl, ?_⟩) (by assumption) ?_
      rotate_left
      · (intro w hSw; (try dsimp only at hSw); go_simp; (try with_reducible rfl))
      try simp only [Act.put, List.setIfInBounds_toArray, List.set_cons_zero, List.set_cons_succ]
      refine wpAnyH_take (i := 18) (v := ?_) (by simp only [List.getElem?_toArray, List.getElem?_cons_zero, List.getElem?_cons_succ]; rfl) (by kernel_rfl) (by kernel_rfl) (by kernel_rfl) (by exact fun _ _ _ h => h) (Or.inl ⟨by rfl, ?_⟩) (by assumption) ?_
      rotate_left
      · (intro w hSw; (try dsimp only at hSw); go_simp; (try with_reducible rfl))
      try simp only [Act.put, List.setIfInBounds_toArray, List.set_cons_zero, List.set_cons_succ]
      refine wpAnyH_ready (rs := [19]) (by kernel_rfl) (by simp) ?_
      refine AllReadyH.cons (by simp only [List.getElem?_toArray, List.getElem?_cons_zero, List.getElem?_cons_succ]; rfl) (fun K hK => ?_) AllReadyH.nil
      refine st_put 27 (v := .slice (adr a5) (0 + i + (L.length - (i + 1))) c5) B5 rfl rfl rfl rfl rfl rfl size27 (by simp) rfl ?_
      intro w6 X6 K6
      refine hK.out _ _ trivial (fun hHeld => ?_)
      clear hK K
      try simp only [Act.put, List.setIfInBounds_toArray, List.set_cons_zero, List.set_cons_succ]
      refine wpAnyH_done (by kernel_rfl) ?_ _
      clear hHeld
      go_wp2_with fail
      go_ret
      exact ⟨rfl, hF9.out a5 c5 _ w5 w6 O5 S5 B5 X6 K6 T2.size⟩
    refine AllReadyH.cons (by simp only [List.getElem?_toArray, List.getElem?_cons_zero, List.getElem?_cons_succ]; rfl) (fun K hK => ?_) AllReadyH.nil
    refine st_run (v := .slice (some ⟨g, 0, none⟩) L.length cap) (xl_cell 27 B3 rfl rfl Tryz.underlying27 rfl rfl) rfl ?_
    refine hK.out _ _ trivial (fun hHeld => ?_)
    clear hK K
    try simp only [Act.put, List.setIfInBounds_toArray, List.set_cons_zero, List.set_cons_succ]
    refine wpAnyH_take (i := 15) (v := ?_) (by simp only [List.getElem?_toArray, List.getElem?_cons_zero, List.getElem?_cons_succ]; rfl) (by kernel_rfl) (by kernel_rfl) (by kernel_rfl) (by exact fun _ _ _ h => h) (Or.inl ⟨by rfl, ?_⟩) (by assumption) ?_
    rotate_left
    · (intro w hSw; (try dsimp only at hSw); go_simp; (try with_reducible rfl))
    try simp only [Act.put, List.setIfInBounds_toArray, List.set_cons_zero, List.set_cons_succ]
    refine wpAnyH_ready (rs := [5]) (by kernel_rfl) (by simp) ?_
    refine AllReadyH.cons (by simp only [List.getElem?_toArray, List.getElem?_cons_zero, List.getElem?_cons_succ]; rfl) (fun K hK => ?_) AllReadyH.nil
    refine st_run (v := .slice (some ⟨g, 0, none⟩) L.length cap) (xl_cell 27 B3 rfl rfl Tryz.underlying27 rfl rfl) rfl ?_
    refine hK.out _ _ trivial (fun hHeld => ?_)
    clear hK K
    try simp only [Act.put, List.setIfInBounds_toArray, List.set_cons_zero, List.set_cons_succ]
    refine wpAnyH_take (i := 7) (v := ?_) (by simp only [List.getElem?_toArray, List.getElem?_cons_zero, List.getElem?_cons_succ]; rfl) (by kernel_rfl) (by kernel_rfl) (by kernel_rfl) (by exact fun _ _ _ h => h) (Or.inl ⟨by rfl, ?_⟩) (by assumption) ?_
    rotate_left
    · (intro w hSw; (try dsimp only at hSw); go_simp; (try with_reducible rfl))
    try simp only [Act.put, List.setIfInBounds_toArray, List.set_cons_zero, List.set_cons_succ]
    refine wpAnyH_ready (rs := [8]) (by kernel_rfl) (by simp) ?_
    refine AllReadyH.cons (by simp only [List.getElem?_toArray, List.getElem?_cons_zero, List.getElem?_cons_succ]; rfl) (fun K hK => ?_) AllReadyH.nil
    refine step_more rowS cellsS rfl _ _ rfl w2.heap.size (.slice (some ⟨w2.heap.size, 0, none⟩) 0 0) [] (L.take i) 0 i rfl htl rfl O3 ⟨g, 0, none⟩ cap rfl F3 (by omega) T3'.size ?_
    intro v4 w4 O4 G4 N4 _
    have S4 := S3.grown G4 S3.size (fun q e => by have := (O3.lt q e).1; have h2 : w2.drew.heap.size = w2.heap.size := rfl; have := T2.size; omega)
    have F4 := flat_part cellsS hO S4 (i + 1) (ad := ad) hadf
    have hs4 : w2.heap.size ≤ w4.heap.size := Nat.le_trans T3'.size G4.size
    have B4 := hb1.below S4
    refine hK.out _ _ trivial (fun hHeld => ?_)
    clear hK K
    try simp only [Act.put, List.setIfInBounds_toArray, List.set_cons_zero, List.set_cons_succ]
    refine wpAnyH_ready (rs := [16]) (by kernel_rfl) (by simp) ?_
    refine AllReadyH.cons (by simp only [List.getElem?_toArray, List.getElem?_cons_zero, List.getElem?_cons_succ]; rfl) (fun K hK => ?_) AllReadyH.nil
    refine step_more rowS cellsS rfl _ _ rfl w2.heap.size v4 (L.take i) (L.drop (i + 1)) (0 + i) (L.length - (i + 1)) (by omega) hdl rfl O4 ad (cap - (i + 1)) rfl F4 (by omega) hs4 ?_
    intro v5 w5 O5 G5 N5 _
    have S5 := S4.grown G5 S4.size (fun q e => by have := (O4.lt q e).1; have := T2.size; omega)
    have B5 := hb1.below S5
    obtain ⟨a5, c5, rfl⟩ := own_adr O5
    refine hK.out _ _ trivial (fun hHeld => ?_)
    clear hK K
    try simp only [Act.put, List.setIfInBounds_toArray, List.set_cons_zero, List.set_cons_succ]
    refine wpAnyH_take (i := 17) (v := ?_) (by simp only [List.getElem?_toArray, List.getElem?_cons_zero, List.getElem?_cons_succ]; rfl) (by kernel_rfl) (by kernel_rfl) (by kernel_rfl) (by exact fun _ _ _ h => h) (Or.inl ⟨by rfl, ?_⟩) (by assumption) ?_
    rotate_left
    · (intro w hSw; (try dsimp only at hSw); go_simp; (try with_reducible rfl))
    try simp only [Act.put, List.setIfInBounds_toArray, List.set_cons_zero, List.set_cons_succ]
    refine wpAnyH_take (i := 18) (v := ?_) (by simp only [List.getElem?_toArray, List.getElem?_cons_zero, List.getElem?_cons_succ]; rfl) (by kernel_rfl) (by kernel_rfl) (by kernel_rfl) (by exact fun _ _ _ h => h) (Or.inl ⟨by rfl, ?_⟩) (by assumption) ?_
    rotate_left
    · (intro w hSw; (try dsimp only at hSw); go_simp; (try with_reducible rfl))
    try simp only [Act.put, List.setIfInBounds_toArray, List.set_cons_zero, List.set_cons_succ]
    refine wpAnyH_ready (rs := [19]) (by kernel_rfl) (by simp) ?_
    refine AllReadyH.cons (by simp only [List.getElem?_toArray, List.getElem?_cons_zero, List.getElem?_cons_succ]; rfl) (fun K hK => ?_) AllReadyH.nil
    refine st_put 27 (v := .slice (adr a5) (0 + i + (L.length - (i + 1))) c5) B5 rfl rfl rfl rfl rfl rfl size27 (by simp) rfl ?_
    intro w6 X6 K6
    refine hK.out _ _ trivial (fun hHeld => ?_)
    clear hK K
    try simp only [Act.put, List.setIfInBounds_toArray, List.set_cons_zero, List.set_cons_succ]
    refine wpAnyH_done (by kernel_rfl) ?_ _
    clear hHeld
    go_wp2_with fail
    go_ret
    exact ⟨rfl, hF9.out a5 c5 _ w5 w6 O5 S5 B5 X6 K6 T2.size⟩
  refine AllReadyH.cons (by simp only [List.getElem?_toArray, List.getElem?_cons_zero, List.getElem?_cons_succ]; rfl) (fun K hK => ?_) ?_
  · refine st_run (v := .slice (some ⟨g, 0, none⟩) L.length cap) (xl_cell 27 B2.drew rfl rfl Tryz.underlying27 rfl rfl) rfl ?_
    refine hK.out _ _ trivial (fun hHeld => ?_)
    clear hK K
    try simp only [Act.put, List.setIfInBounds_toArray, List.set_cons_zero, List.set_cons_succ]
    refine wpAnyH_take (i := 7) (v := ?_) (by simp only [List.getElem?_toArray, List.getElem?_cons_zero, List.getElem?_cons_succ]; rfl) (by kernel_rfl) (by kernel_rfl) (by kernel_rfl) (by exact fun _ _ _ h => h) (Or.inl ⟨by rfl, ?_⟩) (by assumption) ?_
    rotate_left
    · (intro w hSw; (try dsimp only at hSw); go_simp; (try with_reducible rfl))
    try simp only [Act.put, List.setIfInBounds_toArray, List.set_cons_zero, List.set_cons_succ]
    refine wpAnyH_ready (rs := [1, 12]) (by kernel_rfl) (by simp) ?_
    refine AllReadyH.cons (by simp only [List.getElem?_toArray, List.getElem?_cons_zero, List.getElem?_cons_succ]; rfl) (fun K hK => ?_) ?_
    · refine st_sl0 27 34 rfl rfl Tryz.underlying27 size34 ?_
      intro w3 X3 T3
      have T3' : Below w2.heap.size w2 w3 := undrew T3
      have S3 := ups T2 T3' T2.size
      have O3 := own_empty (α := Sp) (s := 14) (f := fS) X3 (Nat.le_refl w2.drew.heap.size)
      have F3 := flat_first cellsS hO S3 i
      have B3 := hb1.below S3
      refine hK.out _ _ trivial (fun hHeld => ?_)
      clear hK K
      try simp only [Act.put, List.setIfInBounds_toArray, List.set_cons_zero, List.set_cons_succ]
      refine wpAnyH_ready (rs := [8, 12]) (by kernel_rfl) (by simp) ?_
      refine AllReadyH.cons (by simp only [List.getElem?_toArray, List.getElem?_cons_zero, List.getElem?_cons_succ]; rfl) (fun K hK => ?_) ?_
      · refine step_more rowS cellsS rfl _ _ rfl w2.heap.size (.slice (some ⟨w2.heap.size, 0, none⟩) 0 0) [] (L.take i) 0 i rfl htl rfl O3 ⟨g, 0, none⟩ cap rfl F3 (by omega) T3'.size ?_
        intro v4 w4 O4 G4 N4 _
        have S4 := S3.grown G4 S3.size (fun q e => by have := (O3.lt q e).1; have h2 : w2.drew.heap.size = w2.heap.size := rfl; have := T2.size; omega)
        have F4 := flat_part cellsS hO S4 (i + 1) (ad := ad) hadf
        have hs4 : w2.heap.size ≤ w4.heap.size := Nat.le_trans T3'.size G4.size
        have B4 := hb1.below S4
        refine hK.out _ _ trivial (fun hHeld => ?_)
        clear hK K
        try simp only [Act.put, List.setIfInBounds_toArray, List.set_cons_zero, List.set_cons_succ]
        refine wpAnyH_ready (rs := [12]) (by kernel_rfl) (by simp) ?_
        refine AllReadyH.cons (by simp only [List.getElem?_toArray, List.getElem?_cons_zero, List.getElem?_cons_succ]; rfl) (fun K hK => ?_) AllReadyH.nil
        refine st_run (v := .slice (some ⟨g, 0, none⟩) L.length cap) (xl_cell 27 B4 rfl rfl Tryz.underlying27 rfl rfl) rfl ?_
        refine hK.out _ _ trivial (fun hHeld => ?_)
        clear hK K
        try simp only [Act.put, List.setIfInBounds_toArray, List.set_cons_zero, List.set_cons_succ]
        refine wpAnyH_take (i := 15) (v := ?_) (by simp only [List.getElem?_toArray, List.getElem?_cons_zero, List.getElem?_cons_succ]; rfl) (by kernel_rfl) (by kernel_rfl) (by kernel_rfl) (by exact fun _ _ _ h => h) (Or.inl ⟨by rfl, ?_⟩) (by assumption) ?_
        rotate_left
        · (intro w hSw; (try dsimp only at hSw); go_simp; (try with_reducible rfl))
        try simp only [Act.put, List.setIfInBounds_toArray, List.set_cons_zero, List.set_cons_succ]
        refine wpAnyH_ready (rs := [16]) (by kernel_rfl) (by simp) ?_
        refine AllReadyH.cons (by simp only [List.getElem?_toArray, List.getElem?_cons_zero, List.getElem?_cons_succ]; rfl) (fun K hK => ?_) AllReadyH.nil
        refine step_more rowS cellsS rfl _ _ rfl w2.heap.size v4 (L.take i) (L.drop (i + 1)) (0 + i) (L.length - (i + 1)) (by omega) hdl rfl O4 ad (cap - (i + 1)) rfl F4 (by omega) hs4 ?_
        intro v5 w5 O5 G5 N5 _
        have S5 := S4.grown G5 S4.size (fun q e => by have := (O4.lt q e).1; have := T2.size; omega)
        have B5 := hb1.below S5
        obtain ⟨a5, c5, rfl⟩ := own_adr O5
        refine hK.out _ _ trivial (fun hHeld => ?_)
        clear hK K
        try simp only [Act.put, List.setIfInBounds_toArray, List.set_cons_zero, List.set_cons_succ]
        refine wpAnyH_take (i := 17) (v := ?_) (by simp only [List.getElem?_toArray, List.getElem?_cons_zero, List.getElem?_cons_succ]; rfl) (by kernel_rfl) (by kernel_rfl) (by kernel_rfl) (by exact fun _ _ _ h => h) (Or.inl ⟨by rfl, ?_⟩) (by assumption) ?_
        rotate_left
        · (intro w hSw; (try dsimp only at hSw); go_simp; (try with_reducible rfl))
        try simp only [Act.put, List.setIfInBounds_toArray, List.set_cons_zero, List.set_cons_succ]
        refine wpAnyH_take (i := 18) (v := ?_) (by simp only [List.getElem?_toArray, List.getElem?_cons_zero, List.getElem?_cons_succ]; rfl) (by kernel_rfl) (by kernel_rfl) (by kernel_rfl) (by exact fun _ _ _ h => h) (Or.inl ⟨by rfl, ?_⟩) (by assumption) ?_
        rotate_left
        · (intro w hSw; (try dsimp only at hSw); go_simp; (try with_reducible rfl))
        try simp only [Act.put, List.setIfInBounds_toArray, List.set_cons_zero, List.set_cons_succ]
        refine wpAnyH_ready (rs := [19]) (by kernel_rfl) (by simp) ?_
        refine AllReadyH.cons (by simp only [List.getElem?_toArray, List.getElem?_cons_zero, List.getElem?_cons_succ]; rfl) (fun K hK => ?_) AllReadyH.nil
        refine st_put 27 (v := .slice (adr a5) (0 + i + (L.length - (i + 1))) c5) B5 rfl rfl rfl rfl rfl rfl size27 (by simp) rfl ?_
        intro w6 X6 K6
        refine hK.out _ _ trivial (fun hHeld => ?_)
        clear hK K
        try simp only [Act.put, List.setIfInBounds_toArray, List.set_cons_zero, List.set_cons_succ]
        refine wpAnyH_done (by kernel_rfl) ?_ _
        clear hHeld
        go_wp2_with fail
        go_ret
        exact ⟨rfl, hF9.out a5 c5 _ w5 w6 O5 S5 B5 X6 K6 T2.size⟩
      refine AllReadyH.cons (by simp only [List.getElem?_toArray, List.getElem?_cons_zero, List.getElem?_cons_succ]; rfl) (fun K hK => ?_) AllReadyH.nil
      refine st_run (v := .slice (some ⟨g, 0, none⟩) L.length cap) (xl_cell 27 B3 rfl rfl Tryz.underlying27 rfl rfl) rfl ?_
      refine hK.out _ _ trivial (fun hHeld => ?_)
      clear hK K
      try simp only [Act.put, List.setIfInBounds_toArray, List.set_cons_zero, List.set_cons_succ]
      refine wpAnyH_take (i := 15) (v := ?_) (by simp only [List.getElem?_toArray, List.getElem?_cons_zero, List.getElem?_cons_succ]; rfl) (by kernel_rfl) (by kernel_rfl) (by kernel_rfl) (by exact fun _ _ _ h => h) (Or.inl ⟨by rfl, ?_⟩) (by assumption) ?_
      rotate_left
      · (intro w hSw; (try dsimp only at hSw); go_simp; (try with_reducible rfl))
      try simp only [Act.put, List.setIfInBounds_toArray, List.set_cons_zero, List.set_cons_succ]
      refine wpAnyH_ready (rs := [8]) (by kernel_rfl) (by simp) ?_
      refine AllReadyH.cons (by simp only [List.getElem?_toArray, List.getElem?_cons_zero, List.getElem?_cons_succ]; rfl) (fun K hK => ?_) AllReadyH.nil
      refine step_more rowS cellsS rfl _ _ rfl w2.heap.size (.slice (some ⟨w2.heap.size, 0, none⟩) 0 0) [] (L.take i) 0 i rfl htl rfl O3 ⟨g, 0, none⟩ cap rfl F3 (by omega) T3'.size ?_
      intro v4 w4 O4 G4 N4 _
      have S4 := S3.grown G4 S3.size (fun q e => by have := (O3.lt q e).1; have h2 : w2.drew.heap.size = w2.heap.size := rfl; have := T2.size; omega)
      have F4 := flat_part cellsS hO S4 (i + 1) (ad := ad) hadf
      have hs4 : w2.heap.size ≤ w4.heap.size := Nat.le_trans T3'.size G4.size
      have B4 := hb1.below S4
      refine hK.out _ _ trivial (fun hHeld => ?_)
      clear hK K
      try simp only [Act.put, List.setIfInBounds_toArray, List.set_cons_zero, List.set_cons_succ]
      refine wpAnyH_ready (rs := [16]) (by kernel_rfl) (by simp) ?_
      refine AllReadyH.cons (by simp only [List.getElem?_toArray, List.getElem?_cons_zero, List.getElem?_cons_succ]; rfl) (fun K hK => ?_) AllReadyH.nil
      refine step_more rowS cellsS rfl _ _ rfl w2.heap.size v4 (L.take i) (L.drop (i + 1)) (0 + i) (L.length - (i + 1)) (by omega) hdl rfl O4 ad (cap - (i + 1)) rfl F4 (by omega) hs4 ?_
      intro v5 w5 O5 G5 N5 _
      have S5 := S4.grown G5 S4.size (fun q e => by have := (O4.lt q e).1; have := T2.size; omega)
      have B5 := hb1.below S5
      obtain ⟨a5, c5, rfl⟩ := own_adr O5
      refine hK.out _ _ trivial (fun hHeld => ?_)
      clear hK K
      try simp only [Act.put, List.setIfInBounds_toArray, List.set_cons_zero, List.set_cons_succ]
      refine wpAnyH_take (i := 17) (v := ?_) (by simp only [List.getElem?_toArray, List.getElem?_cons_zero, List.getElem?_cons_succ]; rfl) (by kernel_rfl) (by kernel_rfl) (by kernel_rfl) (by exact fun _ _ _ h => h) (Or.inl ⟨by rfl, ?_⟩) (by assumption) ?_
      rotate_left
      · (intro w hSw; (try dsimp only at hSw); go_simp; (try with_reducible rfl))
      try simp only [Act.put, List.setIfInBounds_toArray, List.set_cons_zero, List.set_cons_succ]
      refine wpAnyH_take (i := 18) (v := ?_) (by simp only [List.getElem?_toArray, List.getElem?_cons_zero, List.getElem?_cons_succ]; rfl) (by kernel_rfl) (by kernel_rfl) (by kernel_rfl) (by exact fun _ _ _ h => h) (Or.inl ⟨by rfl, ?_⟩) (by assumption) ?_
      rotate_left
      · (intro w hSw; (try dsimp only at hSw); go_simp; (try with_reducible rfl))
      try simp only [Act.put, List.setIfInBounds_toArray, List.set_cons_zero, List.set_cons_succ]
      refine wpAnyH_ready (rs := [19]) (by kernel_rfl) (by simp) ?_
      refine AllReadyH.cons (by simp only [List.getElem?_toArray, List.getElem?_cons_zero, List.getElem?_cons_succ]; rfl) (fun K hK => ?_) AllReadyH.nil
      refine st_put 27 (v := .slice (adr a5) (0 + i + (L.length - (i + 1))) c5) B5 rfl rfl rfl rfl rfl rfl size27 (by simp) rfl ?_
      intro w6 X6 K6
      refine hK.out _ _ trivial (fun hHeld => ?_)
      clear hK K
      try simp only [Act.put, List.setIfInBounds_toArray, List.set_cons_zero, List.set_cons_succ]
      refine wpAnyH_done (by kernel_rfl) ?_ _
      clear hHeld
      go_wp2_with fail
      go_ret
      exact ⟨rfl, hF9.out a5 c5 _ w5 w6 O5 S5 B5 X6 K6 T2.size⟩
    refine AllReadyH.cons (by simp only [List.getElem?_toArray, List.getElem?_cons_zero, List.getElem?_cons_succ]; rfl) (fun K hK => ?_) AllReadyH.nil
    refine st_run (v := .slice (some ⟨g, 0, none⟩) L.length cap) (xl_cell 27 B2.drew rfl rfl Tryz.underlying27 rfl rfl) rfl ?_
    refine hK.out _ _ trivial (fun hHeld => ?_)
    clear hK K
    try simp only [Act.put, List.setIfInBounds_toArray, List.set_cons_zero, List.set_cons_succ]
    refine wpAnyH_take (i := 15) (v := ?_) (by simp only [List.getElem?_toArray, List.getElem?_cons_zero, List.getElem?_cons_succ]; rfl) (by kernel_rfl) (by kernel_rfl) (by kernel_rfl) (by exact fun _ _ _ h => h) (Or.inl ⟨by rfl, ?_⟩) (by assumption) ?_
    rotate_left
    · (intro w hSw; (try dsimp only at hSw); go_simp; (try with_reducible rfl))
    try simp only [Act.put, List.setIfInBounds_toArray, List.set_cons_zero, List.set_cons_succ]
    refine wpAnyH_ready (rs := [1]) (by kernel_rfl) (by simp) ?_
    refine AllReadyH.cons (by simp only [List.getElem?_toArray, List.getElem?_cons_zero, List.getElem?_cons_succ]; rfl) (fun K hK => ?_) AllReadyH.nil
    refine st_sl0 27 34 rfl rfl Tryz.underlying27 size34 ?_
    intro w3 X3 T3
    have T3' : Below w2.heap.size w2 w3 := undrew T3
    have S3 := ups T2 T3' T2.size
    have O3 := own_empty (α := Sp) (s := 14) (f := fS) X3 (Nat.le_refl w2.drew.heap.size)
    have F3 := flat_first cellsS hO S3 i
    have B3 := hb1.below S3
    refine hK.out _ _ trivial (fun hHeld => ?_)
    clear hK K
    try simp only [Act.put, List.setIfInBounds_toArray, List.set_cons_zero, List.set_cons_succ]
    refine wpAnyH_ready (rs := [8]) (by kernel_rfl) (by simp) ?_
    refine AllReadyH.cons (by simp only [List.getElem?_toArray, List.getElem?_cons_zero, List.getElem?_cons_succ]; rfl) (fun K hK => ?_) AllReadyH.nil
    refine step_more rowS cellsS rfl _ _ rfl w2.heap.size (.slice (some ⟨w2.heap.size, 0, none⟩) 0 0) [] (L.take i) 0 i rfl htl rfl O3 ⟨g, 0, none⟩ cap rfl F3 (by omega) T3'.size ?_
    intro v4 w4 O4 G4 N4 _
    have S4 := S3.grown G4 S3.size (fun q e => by have := (O3.lt q e).1; have h2 : w2.drew.heap.size = w2.heap.size := rfl; have := T2.size; omega)
    have F4 := flat_part cellsS hO S4 (i + 1) (ad := ad) hadf
    have hs4 : w2.heap.size ≤ w4.heap.size := Nat.le_trans T3'.size G4.size
    have B4 := hb1.below S4
    refine hK.out _ _ trivial (fun hHeld => ?_)
    clear hK K
    try simp only [Act.put, List.setIfInBounds_toArray, List.set_cons_zero, List.set_cons_succ]
    refine wpAnyH_ready (rs := [16]) (by kernel_rfl) (by simp) ?_
    refine AllReadyH.cons (by simp only [List.getElem?_toArray, List.getElem?_cons_zero, List.getElem?_cons_succ]; rfl) (fun K hK => ?_) AllReadyH.nil
    refine step_more rowS cellsS rfl _ _ rfl w2.heap.size v4 (L.take i) (L.drop (i + 1)) (0 + i) (L.length - (i + 1)) (by omega) hdl rfl O4 ad (cap - (i + 1)) rfl F4 (by omega) hs4 ?_
    intro v5 w5 O5 G5 N5 _
    have S5 := S4.grown G5 S4.size (fun q e => by have := (O4.lt q e).1; have := T2.size; omega)
    have B5 := hb1.below S5
    obtain ⟨a5, c5, rfl⟩ := own_adr O5
    refine hK.out _ _ trivial (fun hHeld => ?_)
    clear hK K
    try simp only [Act.put, List.setIfInBounds_toArray, List.set_cons_zero, List.set_cons_succ]
    refine wpAnyH_take (i := 17) (v := ?_) (by simp only [List.getElem?_toArray, List.getElem?_cons_zero, List.getElem?_cons_succ]; rfl) (by kernel_rfl) (by kernel_rfl) (by kernel_rfl) (by exact fun _ _ _ h => h) (Or.inl ⟨by rfl, ?_⟩) (by assumption) ?_
    rotate_left
    · (intro w hSw; (try dsimp only at hSw); go_simp; (try with_reducible rfl))
    try simp only [Act.put, List.setIfInBounds_toArray, List.set_cons_zero, List.set_cons_succ]
    refine wpAnyH_take (i := 18) (v := ?_) (by simp only [List.getElem?_toArray, List.getElem?_cons_zero, List.getElem?_cons_succ]; rfl) (by kernel_rfl) (by kernel_rfl) (by kernel_rfl) (by exact fun _ _ _ h => h) (Or.inl ⟨by rfl, ?_⟩) (by assumption) ?_
    rotate_left
    · (intro w hSw; (try dsimp only at hSw); go_simp; (try with_reducible rfl))
    try simp only [Act.put, List.setIfInBounds_toArray, List.set_cons_zero, List.set_cons_succ]
    refine wpAnyH_ready (rs := [19]) (by kernel_rfl) (by simp) ?_
    refine AllReadyH.cons (by simp only [List.getElem?_toArray, List.getElem?_cons_zero, List.getElem?_cons_succ]; rfl) (fun K hK => ?_) AllReadyH.nil
    refine st_put 27 (v := .slice (adr a5) (0 + i + (L.length - (i + 1))) c5) B5 rfl rfl rfl rfl rfl rfl size27 (by simp) rfl ?_
    intro w6 X6 K6
    refine hK.out _ _ trivial (fun hHeld => ?_)
    clear hK K
    try simp only [Act.put, List.setIfInBounds_toArray, List.set_cons_zero, List.set_cons_succ]
    refine wpAnyH_done (by kernel_rfl) ?_ _
    clear hHeld
    go_wp2_with fail
    go_ret
    exact ⟨rfl, hF9.out a5 c5 _ w5 w6 O5 S5 B5 X6 K6 T2.size⟩
  refine AllReadyH.cons (by simp only [List.getElem?_toArray, List.getElem?_cons_zero, List.getElem?_cons_succ]; rfl) (fun K hK => ?_) AllReadyH.nil
  refine st_run (v := .slice (some ⟨g, 0, none⟩) L.length cap) (xl_cell 27 B2.drew rfl rfl Tryz.underlying27 rfl rfl) rfl ?_
  refine hK.out _ _ trivial (fun hHeld => ?_)
  clear hK K
  try simp only [Act.put, List.setIfInBounds_toArray, List.set_cons_zero, List.set_cons_succ]
  refine wpAnyH_take (i := 15) (v := ?_) (by simp only [List.getElem?_toArray, List.getElem?_cons_zero, List.getElem?_cons_succ]; rfl) (by kernel_rfl) (by kernel_rfl) (by kernel_rfl) (by exact fun _ _ _ h => h) (Or.inl ⟨by rfl, ?_⟩) (by assumption) ?_
  rotate_left
  · (intro w hSw; (try dsimp only at hSw); go_simp; (try with_reducible rfl))
  try simp only [Act.put, List.setIfInBounds_toArray, List.set_cons_zero, List.set_cons_succ]
  refine wpAnyH_ready (rs := [1, 5]) (by kernel_rfl) (by simp) ?_
  refine AllReadyH.cons (by simp only [List.getElem?_toArray, List.getElem?_cons_zero, List.getElem?_cons_succ]; rfl) (fun K hK => ?_) ?_
  · refine st_sl0 27 34 rfl rfl Tryz.underlying27 size34 ?_
    intro w3 X3 T3
    have T3' : Below w2.heap.size w2 w3 := undrew T3
    have S3 := ups T2 T3' T2.size
    have O3 := own_empty (α := Sp) (s := 14) (f := fS) X3 (Nat.le_refl w2.drew.heap.size)
    have F3 := flat_first cellsS hO S3 i
    have B3 := hb1.below S3
    refine hK.out _ _ trivial (fun hHeld => ?_)
    clear hK K
    try simp only [Act.put, List.setIfInBounds_toArray, List.set_cons_zero, List.set_cons_succ]
    refine wpAnyH_ready (rs := [5]) (by kernel_rfl) (by simp) ?_
    refine AllReadyH.cons (by simp only [List.getElem?_toArray, List.getElem?_cons_zero, List.getElem?_cons_succ]; rfl) (fun K hK => ?_) AllReadyH.nil
    refine st_run (v := .slice (some ⟨g, 0, none⟩) L.length cap) (xl_cell 27 B3 rfl rfl Tryz.underlying27 rfl rfl) rfl ?_
    refine hK.out _ _ trivial (fun hHeld => ?_)
    clear hK K
    try simp only [Act.put, List.setIfInBounds_toArray, List.set_cons_zero, List.set_cons_succ]
    refine wpAnyH_take (i := 7) (v := ?_) (by simp only [List.getElem?_toArray, List.getElem?_cons_zero, List.getElem?_cons_succ]; rfl) (by kernel_rfl) (by kernel_rfl) (by kernel_rfl) (by exact fun _ _ _ h => h) (Or.inl ⟨by rfl, ?_⟩) (by assumption) ?_
    rotate_left
    · (intro w hSw; (try dsimp only at hSw); go_simp; (try with_reducible rfl))
    try simp only [Act.put, List.setIfInBounds_toArray, List.set_cons_zero, List.set_cons_succ]
    refine wpAnyH_ready (rs := [8]) (by kernel_rfl) (by simp) ?_
    refine AllReadyH.cons (by simp only [List.getElem?_toArray, List.getElem?_cons_zero, List.getElem?_cons_succ]; rfl) (fun K hK => ?_) AllReadyH.nil
    refine step_more rowS cellsS rfl _ _ rfl w2.heap.size (.slice (some ⟨w2.heap.size, 0, none⟩) 0 0) [] (L.take i) 0 i rfl htl rfl O3 ⟨g, 0, none⟩ cap rfl F3 (by omega) T3'.size ?_
    intro v4 w4 O4 G4 N4 _
    have S4 := S3.grown G4 S3.size (fun q e => by have := (O3.lt q e).1; have h2 : w2.drew.heap.size = w2.heap.size := rfl; have := T2.size; omega)
    have F4 := flat_part cellsS hO S4 (i + 1) (ad := ad) hadf
    have hs4 : w2.heap.size ≤ w4.heap.size := Nat.le_trans T3'.size G4.size
    have B4 := hb1.below S4
    refine hK.out _ _ trivial (fun hHeld => ?_)
    clear hK K
    try simp only [Act.put, List.setIfInBounds_toArray, List.set_cons_zero, List.set_cons_succ]
    refine wpAnyH_ready (rs := [16]) (by kernel_rfl) (by simp) ?_
    refine AllReadyH.cons (by simp only [List.getElem?_toArray, List.getElem?_cons_zero, List.getElem?_cons_succ]; rfl) (fun K hK => ?_) AllReadyH.nil
    refine step_more rowS cellsS rfl _ _ rfl w2.heap.size v4 (L.take i) (L.drop (i + 1)) (0 + i) (L.length - (i + 1)) (by omega) hdl rfl O4 ad (cap - (i + 1)) rfl F4 (by omega) hs4 ?_
    intro v5 w5 O5 G5 N5 _
    have S5 := S4.grown G5 S4.size (fun q e => by have := (O4.lt q e).1; have := T2.size; omega)
    have B5 := hb1.below S5
    obtain ⟨a5, c5, rfl⟩ := own_adr O5
    refine hK.out _ _ trivial (fun hHeld => ?_)
    clear hK K
    try simp only [Act.put, List.setIfInBounds_toArray, List.set_cons_zero, List.set_cons_succ]
    refine wpAnyH_take (i := 17) (v := ?_) (by simp only [List.getElem?_toArray, List.getElem?_cons_zero, List.getElem?_cons_succ]; rfl) (by kernel_rfl) (by kernel_rfl) (by kernel_rfl) (by exact fun _ _ _ h => h) (Or.inl ⟨by rfl, ?_⟩) (by assumption) ?_
    rotate_left
    · (intro w hSw; (try dsimp only at hSw); go_simp; (try with_reducible rfl))
    try simp only [Act.put, List.setIfInBounds_toArray, List.set_cons_zero, List.set_cons_succ]
    refine wpAnyH_take (i := 18) (v := ?_) (by simp only [List.getElem?_toArray, List.getElem?_cons_zero, List.getElem?_cons_succ]; rfl) (by kernel_rfl) (by kernel_rfl) (by kernel_rfl) (by exact fun _ _ _ h => h) (Or.inl ⟨by rfl, ?_⟩) (by assumption) ?_
    rotate_left
    · (intro w hSw; (try dsimp only at hSw); go_simp; (try with_reducible rfl))
    try simp only [Act.put, List.setIfInBounds_toArray, List.set_cons_zero, List.set_cons_succ]
    refine wpAnyH_ready (rs := [19]) (by kernel_rfl) (by simp) ?_
    refine AllReadyH.cons (by simp only [List.getElem?_toArray, List.getElem?_cons_zero, List.getElem?_cons_succ]; rfl) (fun K hK => ?_) AllReadyH.nil
    refine st_put 27 (v := .slice (adr a5) (0 + i + (L.length - (i + 1))) c5) B5 rfl rfl rfl rfl rfl rfl size27 (by simp) rfl ?_
    intro w6 X6 K6
    refine hK.out _ _ trivial (fun hHeld => ?_)
    clear hK K
    try simp only [Act.put, List.setIfInBounds_toArray, List.set_cons_zero, List.set_cons_succ]
    refine wpAnyH_done (by kernel_rfl) ?_ _
    clear hHeld
    go_wp2_with fail
    go_ret
    exact ⟨rfl, hF9.out a5 c5 _ w5 w6 O5 S5 B5 X6 K6 T2.size⟩
  refine AllReadyH.cons (by simp only [List.getElem?_toArray, List.getElem?_cons_zero, List.getElem?_cons_succ]; rfl) (fun K hK => ?_) AllReadyH.nil
  refine st_run (v := .slice (some ⟨g, 0, none⟩) L.length cap) (xl_cell 27 B2.drew rfl rfl Tryz.underlying27 rfl rfl) rfl ?_
  refine hK.out _ _ trivial (fun hHeld => ?_)
  clear hK K
  try simp only [Act.put, List.setIfInBounds_toArray, List.set_cons_zero, List.set_cons_succ]
  refine wpAnyH_take (i := 7) (v := ?_) (by simp only [List.getElem?_toArray, List.getElem?_cons_zero, List.getElem?_cons_succ]; rfl) (by kernel_rfl) (by kernel_rfl) (by kernel_rfl) (by exact fun _ _ _ h => h) (Or.inl ⟨by rfl, ?_⟩) (by assumption) ?_
  rotate_left
  · (intro w hSw; (try dsimp only at hSw); go_simp; (try with_reducible rfl))
  try simp only [Act.put, List.setIfInBounds_toArray, List.set_cons_zero, List.set_cons_succ]
  refine wpAnyH_ready (rs := [1]) (by kernel_rfl) (by simp) ?_
  refine AllReadyH.cons (by simp only [List.getElem?_toArray, List.getElem?_cons_zero, List.getElem?_cons_succ]; rfl) (fun K hK => ?_) AllReadyH.nil
  refine st_sl0 27 34 rfl rfl Tryz.underlying27 size34 ?_
  intro w3 X3 T3
  have T3' : Below w2.heap.size w2 w3 := undrew T3
  have S3 := ups T2 T3' T2.size
  have O3 := own_empty (α := Sp) (s := 14) (f := fS) X3 (Nat.le_refl w2.drew.heap.size)
  have F3 := flat_first cellsS hO S3 i
  have B3 := hb1.below S3
  refine hK.out _ _ trivial (fun hHeld => ?_)
  clear hK K
  try simp only [Act.put, List.setIfInBounds_toArray, List.set_cons_zero, List.set_cons_succ]
  refine wpAnyH_ready (rs := [8]) (by kernel_rfl) (by simp) ?_
  refine AllReadyH.cons (by simp only [List.getElem?_toArray, List.getElem?_cons_zero, List.getElem?_cons_succ]; rfl) (fun K hK => ?_) AllReadyH.nil
  refine step_more rowS cellsS rfl _ _ rfl w2.heap.size (.slice (some ⟨w2.heap.size, 0, none⟩) 0 0) [] (L.take i) 0 i rfl htl rfl O3 ⟨g, 0, none⟩ cap rfl F3 (by omega) T3'.size ?_
  intro v4 w4 O4 G4 N4 _
  have S4 := S3.grown G4 S3.size (fun q e => by have := (O3.lt q e).1; have h2 : w2.drew.heap.size = w2.heap.size := rfl; have := T2.size; omega)
  have F4 := flat_part cellsS hO S4 (i + 1) (ad := ad) hadf
  have hs4 : w2.heap.size ≤ w4.heap.size := Nat.le_trans T3'.size G4.size
  have B4 := hb1.below S4
  refine hK.out _ _ trivial (fun hHeld => ?_)
  clear hK K
  try simp only [Act.put, List.setIfInBounds_toArray, List.set_cons_zero, List.set_cons_succ]
  refine wpAnyH_ready (rs := [16]) (by kernel_rfl) (by simp) ?_
  refine AllReadyH.cons (by simp only [List.getElem?_toArray, List.getElem?_cons_zero, List.getElem?_cons_succ]; rfl) (fun K hK => ?_) AllReadyH.nil
  refine step_more rowS cellsS rfl _ _ rfl w2.heap.size v4 (L.take i) (L.drop (i + 1)) (0 + i) (L.length - (i + 1)) (by omega) hdl rfl O4 ad (cap - (i + 1)) rfl F4 (by omega) hs4 ?_
  intro v5 w5 O5 G5 N5 _
  have S5 := S4.grown G5 S4.size (fun q e => by have := (O4.lt q e).1; have := T2.size; omega)
  have B5 := hb1.below S5
  obtain ⟨a5, c5, rfl⟩ := own_adr O5
  refine hK.out _ _ trivial (fun hHeld => ?_)
  clear hK K
  try simp only [Act.put, List.setIfInBounds_toArray, List.set_cons_zero, List.set_cons_succ]
  refine wpAnyH_take (i := 17) (v := ?_) (by simp only [List.getElem?_toArray, List.getElem?_cons_zero, List.getElem?_cons_succ]; rfl) (by kernel_rfl) (by kernel_rfl) (by kernel_rfl) (by exact fun _ _ _ h => h) (Or.inl ⟨by rfl, ?_⟩) (by assumption) ?_
  rotate_left
  · (intro w hSw; (try dsimp only at hSw); go_simp; (try with_reducible rfl))
  try simp only [Act.put, List.setIfInBounds_toArray, List.set_cons_zero, List.set_cons_succ]
  refine wpAnyH_take (i := 18) (v := ?_) (by simp only [List.getElem?_toArray, List.getElem?_cons_zero, List.getElem?_cons_succ]; rfl) (by kernel_rfl) (by kernel_rfl) (by kernel_rfl) (by exact fun _ _ _ h => h) (Or.inl ⟨by rfl, ?_⟩) (by assumption) ?_
  rotate_left
  · (intro w hSw; (try dsimp only at hSw); go_simp; (try with_reducible rfl))
  try simp only [Act.put, List.setIfInBounds_toArray, List.set_cons_zero, List.set_cons_succ]
  refine wpAnyH_ready (rs := [19]) (by kernel_rfl) (by simp) ?_
  refine AllReadyH.cons (by simp only [List.getElem?_toArray, List.getElem?_cons_zero, List.getElem?_cons_succ]; rfl) (fun K hK => ?_) AllReadyH.nil
  refine st_put 27 (v := .slice (adr a5) (0 + i + (L.length - (i + 1))) c5) B5 rfl rfl rfl rfl rfl rfl size27 (by simp) rfl ?_
  intro w6 X6 K6
  refine hK.out _ _ trivial (fun hHeld => ?_)
  clear hK K
  try simp only [Act.put, List.setIfInBounds_toArray, List.set_cons_zero, List.set_cons_succ]
  refine wpAnyH_done (by kernel_rfl) ?_ _
  clear hHeld
  go_wp2_with fail
  go_ret
  exact ⟨rfl, hF9.out a5 c5 _ w5 w6 O5 S5 B5 X6 K6 T2.size⟩
end
end Go.Proofs.YtpopcnebndgblaaGreat.H

namespace Go.Proofs.YtpopcnebndgblaaGreat.H
open Go.ChangeShapes Go.WideShapes Go.Deep Go.RowKit
set_option linter.unusedVariables false
set_option linter.unusedSimpArgs false
theorem spl_list : ∀ (vs : List Value) (p : Nat) (a : Array Value), p + vs.length ≤ a.size → (spl a p vs).size = a.size ∧ (spl a p vs).toList = a.toList.take p ++ vs ++ a.toList.drop (p + vs.length) := fun vs => by
  induction vs with
  | nil => intro p a _; exact ⟨rfl, by simp [spl]⟩
  | cons u vs ih =>
    intro p a hp
    simp only [List.length_cons] at hp
    obtain ⟨i1, i2⟩ := ih (p + 1) (a.setIfInBounds p u) (by simp; omega)
    refine ⟨by rw [spl, i1]; simp, ?_⟩
    rw [spl, i2, Array.toList_setIfInBounds]
    have hpl : p < a.toList.length := by simp; omega
    rw [List.take_set, List.drop_set_of_lt (by omega), List.length_cons, show p + 1 + vs.length = p + (vs.length + 1) by omega]
    rw [List.take_succ_eq_append_getElem hpl]
    rw [List.set_append_right _ _ (by rw [List.length_take]; omega)]
    have e1 : ((List.take p a.toList).length) = p := by rw [List.length_take]; omega
    rw [e1, Nat.sub_self, List.set_cons_zero]
    simp
def cC (c : Cw) : Array Value := (sV ⟨0, 0, false, c, c, c, 0, 0⟩).extract 3 6
theorem sC3 (p : Sp) : (sV p).extract 3 (3 + 3) = cC p.re := by kernel_rfl
theorem sC6 (p : Sp) : (sV p).extract 6 (6 + 3) = cC p.sh := by kernel_rfl
theorem sC9 (p : Sp) : (sV p).extract 9 (9 + 3) = cC p.up := by kernel_rfl
theorem cC_one (c : Cw) : (cC c).all (·.oneCell') = true := by kernel_rfl
theorem cC_size (c : Cw) : (cC c).size = 3 := rfl
theorem sp3 (p : Sp) (c : Cw) : spl (sV p) 3 (cC c).toList = sV { p with re := c } := by kernel_rfl
theorem sp6 (p : Sp) (c : Cw) : spl (sV p) 6 (cC c).toList = sV { p with sh := c } := by kernel_rfl
theorem sp9 (p : Sp) (c : Cw) : spl (sV p) 9 (cC c).toList = sV { p with up := c } := by kernel_rfl
theorem size32 : (Tryz.prog.info? 32).map (·.size) = some 3 := by kernel_rfl
section
variable {w w' : World} {χ χ' : Nat → Nat} {c d B base n : Nat} {L : List Sp} {zs : List Int}
/-- Another class is stored in its place. -/
theorem own_put {g cap : Nat} (h : w.ownsRow 0 34 14 (.slice (some ⟨g, 0, none⟩) L.length cap) L.length (rowC fS L)) {i : Nat} (hi : i < L.length) (q : Sp) :
    ∃ cur, Box w g cur 34 ∧ i * 14 + 14 ≤ cur.size ∧ ∀ w' : World, Box w' g (spl cur (i * 14) (sV q).toList) 34 → w'.ownsRow 0 34 14 (.slice (some ⟨g, 0, none⟩) L.length cap) L.length (rowC fS (L.set i q)) := by
  obtain ⟨h1, h2⟩ := h
  rcases h2 with ⟨e, _⟩ | ⟨g', cap', cur, e, h0, hg, hle, hm, hs, ht⟩
  · cases e
  · cases e
    have hq : (sV q).toList.length = 14 := by rw [Array.length_toList, sV_size]
    refine ⟨cur, hg, by omega, fun w' hw' => ?_⟩
    obtain ⟨s1, s2⟩ := spl_list (sV q).toList (i * 14) cur (by rw [hq]; omega)
    refine ⟨by rw [rowC_len cellsS, List.length_set], .inr ⟨g, cap, _, rfl, h0, hw', hle, hm, by rw [s1]; exact hs, ?_⟩⟩
    have hl1 : (List.take (i * 14) cur.toList).length = i * 14 := by rw [List.length_take, Array.length_toList]; omega
    have e1 : List.take (i * 14) cur.toList = rowC fS (L.take i) := by
      rw [← rowC_take cellsS, ← ht, List.take_take, Nat.min_eq_left (by omega)]
    have e2 : (cur.toList.drop ((i + 1) * 14)).take (L.length * 14 - (i + 1) * 14) = rowC fS (L.drop (i + 1)) := by
      rw [← rowC_drop cellsS, ← ht, List.drop_take]
    rw [s2, List.append_assoc, List.take_append, hl1, List.take_of_length_le (l := List.take (i * 14) cur.toList) (by rw [hl1]; omega), List.take_append, hq, List.take_of_length_le (l := (sV q).toList) (by rw [hq]; omega), e1,
      show i * 14 + 14 = (i + 1) * 14 by omega, show L.length * 14 - i * 14 - 14 = L.length * 14 - (i + 1) * 14 by omega, e2]
    rw [List.set_eq_take_append_cons_drop, if_pos hi, rowC_append]
    rfl
set_option maxHeartbeats 4000000 in
set_option maxRecDepth 100000 in
theorem rchg_absent (h : Rt w χ c B L) (hF : Fit L) {s : Sp} (hs : s.ok) (hno : ∀ p ∈ L, p.id ≠ s.id) :
    Calls Tryz.prog 14 #[ptr B, .agg (sV s)] w fun e w' => e = .returned (eI (81)) ∧ Below w.heap.size w w' := by
  have hN := Lib.hid hno
  clear hno
  go_enter Tryz.func14, Tryz.ntmps14
  go_wp2_with (first
    | (refine wl_box 34 rfl rfl rfl ?_; intro w1 X1 T1; have h1 := h.below T1; have c01 := (X1.cell 0).trans (sV_0 _); have hA := rat_no h1 hF hN.out)
    | (go_at_call 34; (with_reducible refine hA.mono ?_); rintro e w2 ⟨rfl, rfl⟩))
  go_ret
  exact ⟨by simp, T1⟩
set_option maxHeartbeats 4000000 in
set_option maxRecDepth 100000 in
theorem rchg_shape (h : Rt w χ c B L) (hF : Fit L) {s : Sp} (hs : s.ok) {i : Nat} {p : Sp} (hi : L[i]? = some p) (hk : p.id = s.id) (hm : mayN (withS p s) = 30 ∨ mayN (withS p s) = 130) :
    Calls Tryz.prog 14 #[ptr B, .agg (sV s)] w fun e w' => e = .returned (eI (130)) ∧ Below w.heap.size w w' := by
  have hlt : i < L.length := (List.getElem?_eq_some_iff.1 hi).1
  have hmem : p ∈ L := List.mem_of_getElem? hi
  have hwo : (withS p s).ok := with_ok (hF.each p hmem).1 hs
  obtain ⟨v, hb1, hb2, hb3, hb4⟩ := id h
  rcases row_src hb3 with ⟨_, e⟩ | ⟨g, cap, rfl, hc, hmx, hO⟩
  · rw [e] at hlt; simp at hlt
  have hx : ∀ w', Below w.heap.size w w' → w'.rangeAt g (i * 14) (sV p).toList := fun w' hw => by
    obtain ⟨a, cap', e, _, _, hx⟩ := row_cells hO rfl
    cases e
    obtain ⟨g', e, _, hx⟩ := hx i p hi
    cases e
    exact (hx w' hw).2.2.2
  have hxx := Lib.hid hx
  have hi' := Lib.hid hi
  have hk' := Lib.hid hk
  have i0 : (0 : Int) ≤ (i : Int) := by omega
  have i1 : (i : Int) < (L.length : Int) := by omega
  have i2 : (L.length : Int) ≤ (cap : Int) := by omega
  clear hi hk hx hmem
  rcases hm with hm | hm
  all_goals
    go_enter Tryz.func14, Tryz.ntmps14
    go_upto_region 5 with (first
      | (refine wl_box 34 rfl rfl rfl ?_; intro w1 X1 T1; have h1 := h.below T1; have c01 := (X1.cell 0).trans (sV_0 _); have c1 := (hb1.below T1).cell 0; have D1 := hxx.out _ T1; have hA := rat_yes h1 hF hi'.out hk'.out)
      | (go_at_call 34; (with_reducible refine hA.mono ?_); rintro e w2 ⟨rfl, rfl⟩)
      | (refine wl_alloc 34 rfl rfl zero34 ?_; intro w3 X3 T3; have Y3 := X1.below T3; have S3 := ups T1 T3 T1.size; have D3 := hxx.out _ S3)
      | (refine wl_run (xl_loadr D1 rfl rfl) rfl ?_)
      | (refine wl_store 34 X3 rfl rfl rfl rfl size34 rfl (by omega : 0 + 14 ≤ 14) (sV_one _) (spl_ss _ _) ?_; intro w4 X4 K4; have S4 := K4.up S3 T1.size; have Y4 := K4.box Y3 (Nat.ne_of_lt X1.lt)))
    have hneX : w.heap.size ≠ w1.heap.size := Nat.ne_of_lt X1.lt
    have lt4 : w.heap.size ≤ w1.heap.size := Nat.le_of_lt X1.lt
    refine wp_region_held_drew (S := fun W => Box W w.heap.size (sV s) 34) (by kernel_rfl) Y4.drew (fun hHeld => ?_)
    refine wpAnyH_take (i := 0) (v := ?_) (by simp only [List.getElem?_toArray, List.getElem?_cons_zero]; rfl) (by kernel_rfl) (by kernel_rfl) (by kernel_rfl) (by exact fun _ _ _ h => h) (Or.inl ⟨by rfl, ?_⟩) (by assumption) ?_
    rotate_left
    · (intro w hSw; (try dsimp only at hSw); go_simp; (try with_reducible rfl))
    try simp only [Act.put, List.setIfInBounds_toArray, List.set_cons_zero, List.set_cons_succ]
    refine wpAnyH_take (i := 1) (v := .agg (cC s.re)) (by simp only [List.getElem?_toArray, List.getElem?_cons_zero, List.getElem?_cons_succ]; rfl) (by kernel_rfl) (by kernel_rfl) (by kernel_rfl) (by exact fun _ _ _ h => h) (Or.inl ⟨by rfl, fun w hSw => xl_load 32 hSw rfl rfl Tryz.underlying32 rfl size32 (by omega : 3 + 3 ≤ 14) (sC3 _)⟩) (by assumption) ?_
    try simp only [Act.put, List.setIfInBounds_toArray, List.set_cons_zero, List.set_cons_succ]
    refine wpAnyH_take (i := 2) (v := ?_) (by simp only [List.getElem?_toArray, List.getElem?_cons_zero, List.getElem?_cons_succ]; rfl) (by kernel_rfl) (by kernel_rfl) (by kernel_rfl) (by exact fun _ _ _ h => h) (Or.inl ⟨by rfl, ?_⟩) (by assumption) ?_
    rotate_left
    · (intro w hSw; (try dsimp only at hSw); go_simp; (try with_reducible rfl))
    try simp only [Act.put, List.setIfInBounds_toArray, List.set_cons_zero, List.set_cons_succ]
    refine wpAnyH_take (i := 3) (v := .agg (cC s.sh)) (by simp only [List.getElem?_toArray, List.getElem?_cons_zero, List.getElem?_cons_succ]; rfl) (by kernel_rfl) (by kernel_rfl) (by kernel_rfl) (by exact fun _ _ _ h => h) (Or.inl ⟨by rfl, fun w hSw => xl_load 32 hSw rfl rfl Tryz.underlying32 rfl size32 (by omega : 6 + 3 ≤ 14) (sC6 _)⟩) (by assumption) ?_
    try simp only [Act.put, List.setIfInBounds_toArray, List.set_cons_zero, List.set_cons_succ]
    refine wpAnyH_take (i := 4) (v := ?_) (by simp only [List.getElem?_toArray, List.getElem?_cons_zero, List.getElem?_cons_succ]; rfl) (by kernel_rfl) (by kernel_rfl) (by kernel_rfl) (by exact fun _ _ _ h => h) (Or.inl ⟨by rfl, ?_⟩) (by assumption) ?_
    rotate_left
    · (intro w hSw; (try dsimp only at hSw); go_simp; (try with_reducible rfl))
    try simp only [Act.put, List.setIfInBounds_toArray, List.set_cons_zero, List.set_cons_succ]
    refine wpAnyH_take (i := 5) (v := .agg (cC s.up)) (by simp only [List.getElem?_toArray, List.getElem?_cons_zero, List.getElem?_cons_succ]; rfl) (by kernel_rfl) (by kernel_rfl) (by kernel_rfl) (by exact fun _ _ _ h => h) (Or.inl ⟨by rfl, fun w hSw => xl_load 32 hSw rfl rfl Tryz.underlying32 rfl size32 (by omega : 9 + 3 ≤ 14) (sC9 _)⟩) (by assumption) ?_
    try simp only [Act.put, List.setIfInBounds_toArray, List.set_cons_zero, List.set_cons_succ]
    refine wpAnyH_take (i := 6) (v := ?_) (by simp only [List.getElem?_toArray, List.getElem?_cons_zero, List.getElem?_cons_succ]; rfl) (by kernel_rfl) (by kernel_rfl) (by kernel_rfl) (by exact fun _ _ _ h => h) (Or.inl ⟨by rfl, ?_⟩) (by assumption) ?_
    rotate_left
    · (intro w hSw; (try dsimp only at hSw); go_simp; (try with_reducible rfl))
    try simp only [Act.put, List.setIfInBounds_toArray, List.set_cons_zero, List.set_cons_succ]
    refine wpAnyH_ready (rs := [7]) (by kernel_rfl) (by simp) ?_
    refine AllReadyH.cons (by simp only [List.getElem?_toArray, List.getElem?_cons_zero, List.getElem?_cons_succ]; rfl) (fun K hK => ?_) AllReadyH.nil
    refine st_store 32 X4.drew rfl rfl rfl rfl size32 rfl (by omega : 3 + 3 ≤ 14) (cC_one _) (sp3 _ _) ?_
    intro w5 X5 K5
    have Y5 := K5.box Y4.drew hneX
    have S5 := K5.up S4.drew lt4
    refine hK.out _ _ Y5 (fun hHeld => ?_)
    clear hK K
    try simp only [Act.put, List.setIfInBounds_toArray, List.set_cons_zero, List.set_cons_succ]
    refine wpAnyH_take (i := 8) (v := ?_) (by simp only [List.getElem?_toArray, List.getElem?_cons_zero, List.getElem?_cons_succ]; rfl) (by kernel_rfl) (by kernel_rfl) (by kernel_rfl) (by exact fun _ _ _ h => h) (Or.inl ⟨by rfl, ?_⟩) (by assumption) ?_
    rotate_left
    · (intro w hSw; (try dsimp only at hSw); go_simp; (try with_reducible rfl))
    try simp only [Act.put, List.setIfInBounds_toArray, List.set_cons_zero, List.set_cons_succ]
    refine wpAnyH_ready (rs := [9]) (by kernel_rfl) (by simp) ?_
    refine AllReadyH.cons (by simp only [List.getElem?_toArray, List.getElem?_cons_zero, List.getElem?_cons_succ]; rfl) (fun K hK => ?_) AllReadyH.nil
    refine st_store 32 X5 rfl rfl rfl rfl size32 rfl (by omega : 6 + 3 ≤ 14) (cC_one _) (sp6 _ _) ?_
    intro w6 X6 K6
    have Y6 := K6.box Y5 hneX
    have S6 := K6.up S5 lt4
    refine hK.out _ _ Y6 (fun hHeld => ?_)
    clear hK K
    try simp only [Act.put, List.setIfInBounds_toArray, List.set_cons_zero, List.set_cons_succ]
    refine wpAnyH_take (i := 10) (v := ?_) (by simp only [List.getElem?_toArray, List.getElem?_cons_zero, List.getElem?_cons_succ]; rfl) (by kernel_rfl) (by kernel_rfl) (by kernel_rfl) (by exact fun _ _ _ h => h) (Or.inl ⟨by rfl, ?_⟩) (by assumption) ?_
    rotate_left
    · (intro w hSw; (try dsimp only at hSw); go_simp; (try with_reducible rfl))
    try simp only [Act.put, List.setIfInBounds_toArray, List.set_cons_zero, List.set_cons_succ]
    refine wpAnyH_ready (rs := [11]) (by kernel_rfl) (by simp) ?_
    refine AllReadyH.cons (by simp only [List.getElem?_toArray, List.getElem?_cons_zero, List.getElem?_cons_succ]; rfl) (fun K hK => ?_) AllReadyH.nil
    refine st_store 32 X6 rfl rfl rfl rfl size32 rfl (by omega : 9 + 3 ≤ 14) (cC_one _) (sp9 _ _) ?_
    intro w7 X7 K7
    replace X7 : Box w7 w1.heap.size (sV (withS p s)) 34 := X7
    have Y7 := K7.box Y6 hneX
    have S7 := K7.up S6 lt4
    refine hK.out _ _ Y7 (fun hHeld => ?_)
    clear hK K
    try simp only [Act.put, List.setIfInBounds_toArray, List.set_cons_zero, List.set_cons_succ]
    refine wpAnyH_done (by kernel_rfl) ?_ _
    clear hHeld
    have hY := may33 (withS p s) hwo w7
    go_wp2_with (first
      | (refine wl_load 34 X7 rfl rfl rfl Tryz.underlying34 rfl size34 (by omega : 0 + 14 ≤ 14) (sV_all _) ?_)
      | (go_at_call 33; (with_reducible refine hY.mono ?_); rintro e w8 ⟨rfl, T8⟩; rw [hm]; have S8 := ups S7 T8 S7.size))
    go_ret
    exact ⟨by simp, S8⟩
set_option maxHeartbeats 4000000 in
set_option maxRecDepth 100000 in
theorem rchg_ok (h : Rt w χ c B L) (hF : Fit L) {s : Sp} (hs : s.ok) {i : Nat} {p : Sp} (hi : L[i]? = some p) (hk : p.id = s.id) (hm : mayN (withS p s) = 0) :
    Calls Tryz.prog 14 #[ptr B, .agg (sV s)] w fun e w' => e = .returned (eI 0) ∧ ∃ χ', Rt w' χ' c B (chgL L s) ∧ Col χ χ' c w w' := by
  have hlt : i < L.length := (List.getElem?_eq_some_iff.1 hi).1
  have hmem : p ∈ L := List.mem_of_getElem? hi
  have hwo : (withS p s).ok := with_ok (hF.each p hmem).1 hs
  obtain ⟨v, hb1, hb2, hb3, hb4⟩ := id h
  rcases row_src hb3 with ⟨_, e⟩ | ⟨g, cap, rfl, hc, hmx, hO⟩
  · rw [e] at hlt; simp at hlt
  have hx : ∀ w', Below w.heap.size w w' → w'.rangeAt g (i * 14) (sV p).toList := fun w' hw => by
    obtain ⟨a, cap', e, _, _, hx⟩ := row_cells hO rfl
    cases e
    obtain ⟨g', e, _, hx⟩ := hx i p hi
    cases e
    exact (hx w' hw).2.2.2
  have hxx := Lib.hid hx
  have hi' := Lib.hid hi
  have hk' := Lib.hid hk
  have i0 : (0 : Int) ≤ (i : Int) := by omega
  have i1 : (i : Int) < (L.length : Int) := by omega
  have i2 : (L.length : Int) ≤ (cap : Int) := by omega
  have hch := chg_at hF.tree.ord hi hk
  obtain ⟨cur, hcb, hcs, hput⟩ := own_put hO hlt (withS p s)
  have hgl := hcb.lt
  have hBg : B ≠ g := by
    rintro rfl
    have e : w.heap[B]? = some (.cells cur 34 (0, 0)) := hcb
    have e2 : w.heap[B]? = some (.cells #[.slice (some ⟨B, 0, none⟩) L.length cap] 29 (0, 0)) := hb1
    rw [e] at e2
    simp at e2
  have fin : ∀ w8 w9 : World, Below w.heap.size w w8 → Box w9 g (spl cur (i * 14) (sV (withS p s)).toList) 34 → But g w8 w9 → ∃ χ', Rt w9 χ' c B (chgL L s) ∧ Col χ χ' c w w9 := fun w8 w9 S X K => by
    refine ⟨χ, ⟨_, K.box (hb1.below S) hBg, hb2, ?_, hb4⟩, K.os.trans S.os, K.tape.trans S.tape, K.output.trans S.output, Nat.le_trans S.size K.size, fun _ _ => rfl, fun k hk hn => (K.block k (Nat.lt_of_lt_of_le hk S.size) (fun e => hn (by rw [e]; exact hb4 g rfl))).trans (S.block k hk)⟩
    have := hput w9 X
    rw [hch, List.length_set]
    exact this
  have hF9 := Lib.hid fin
  have hXg : ∀ W : World, Below w.heap.size w W → W.heap.size ≠ g := fun W h => by have := h.size; omega
  clear hi hk hx hmem hput fin hch
  go_enter Tryz.func14, Tryz.ntmps14
  go_upto_region 5 with (first
    | (refine wl_box 34 rfl rfl rfl ?_; intro w1 X1 T1; have h1 := h.below T1; have c01 := (X1.cell 0).trans (sV_0 _); have c1 := (hb1.below T1).cell 0; have D1 := hxx.out _ T1; have hA := rat_yes h1 hF hi'.out hk'.out)
    | (go_at_call 34; (with_reducible refine hA.mono ?_); rintro e w2 ⟨rfl, rfl⟩)
    | (refine wl_alloc 34 rfl rfl zero34 ?_; intro w3 X3 T3; have Y3 := X1.below T3; have S3 := ups T1 T3 T1.size; have D3 := hxx.out _ S3)
    | (refine wl_run (xl_loadr D1 rfl rfl) rfl ?_)
    | (refine wl_store 34 X3 rfl rfl rfl rfl size34 rfl (by omega : 0 + 14 ≤ 14) (sV_one _) (spl_ss _ _) ?_; intro w4 X4 K4; have S4 := K4.up S3 T1.size; have Y4 := K4.box Y3 (Nat.ne_of_lt X1.lt)))
  have hneX : w.heap.size ≠ w1.heap.size := Nat.ne_of_lt X1.lt
  have lt4 : w.heap.size ≤ w1.heap.size := Nat.le_of_lt X1.lt
  refine wp_region_held_drew (S := fun W => Box W w.heap.size (sV s) 34) (by kernel_rfl) Y4.drew (fun hHeld => ?_)
  refine wpAnyH_take (i := 0) (v := ?_) (by simp only [List.getElem?_toArray, List.getElem?_cons_zero]; rfl) (by kernel_rfl) (by kernel_rfl) (by kernel_rfl) (by exact fun _ _ _ h => h) (Or.inl ⟨by rfl, ?_⟩) (by assumption) ?_
  rotate_left
  · (intro w hSw; (try dsimp only at hSw); go_simp; (try with_reducible rfl))
  try simp only [Act.put, List.setIfInBounds_toArray, List.set_cons_zero, List.set_cons_succ]
  refine wpAnyH_take (i := 1) (v := .agg (cC s.re)) (by simp only [List.getElem?_toArray, List.getElem?_cons_zero, List.getElem?_cons_succ]; rfl) (by kernel_rfl) (by kernel_rfl) (by kernel_rfl) (by exact fun _ _ _ h => h) (Or.inl ⟨by rfl, fun w hSw => xl_load 32 hSw rfl rfl Tryz.underlying32 rfl size32 (by omega : 3 + 3 ≤ 14) (sC3 _)⟩) (by assumption) ?_
  try simp only [Act.put, List.setIfInBounds_toArray, List.set_cons_zero, List.set_cons_succ]
  refine wpAnyH_take (i := 2) (v := ?_) (by simp only [List.getElem?_toArray, List.getElem?_cons_zero, List.getElem?_cons_succ]; rfl) (by kernel_rfl) (by kernel_rfl) (by kernel_rfl) (by exact fun _ _ _ h => h) (Or.inl ⟨by rfl, ?_⟩) (by assumption) ?_
  rotate_left
  · (intro w hSw; (try dsimp only at hSw); go_simp; (try with_reducible rfl))
  try simp only [Act.put, List.setIfInBounds_toArray, List.set_cons_zero, List.set_cons_succ]
  refine wpAnyH_take (i := 3) (v := .agg (cC s.sh)) (by simp only [List.getElem?_toArray, List.getElem?_cons_zero, List.getElem?_cons_succ]; rfl) (by kernel_rfl) (by kernel_rfl) (by kernel_rfl) (by exact fun _ _ _ h => h) (Or.inl ⟨by rfl, fun w hSw => xl_load 32 hSw rfl rfl Tryz.underlying32 rfl size32 (by omega : 6 + 3 ≤ 14) (sC6 _)⟩) (by assumption) ?_
  try simp only [Act.put, List.setIfInBounds_toArray, List.set_cons_zero, List.set_cons_succ]
  refine wpAnyH_take (i := 4) (v := ?_) (by simp only [List.getElem?_toArray, List.getElem?_cons_zero, List.getElem?_cons_succ]; rfl) (by kernel_rfl) (by kernel_rfl) (by kernel_rfl) (by exact fun _ _ _ h => h) (Or.inl ⟨by rfl, ?_⟩) (by assumption) ?_
  rotate_left
  · (intro w hSw; (try dsimp only at hSw); go_simp; (try with_reducible rfl))
  try simp only [Act.put, List.setIfInBounds_toArray, List.set_cons_zero, List.set_cons_succ]
  refine wpAnyH_take (i := 5) (v := .agg (cC s.up)) (by simp only [List.getElem?_toArray, List.getElem?_cons_zero, List.getElem?_cons_succ]; rfl) (by kernel_rfl) (by kernel_rfl) (by kernel_rfl) (by exact fun _ _ _ h => h) (Or.inl ⟨by rfl, fun w hSw => xl_load 32 hSw rfl rfl Tryz.underlying32 rfl size32 (by omega : 9 + 3 ≤ 14) (sC9 _)⟩) (by assumption) ?_
  try simp only [Act.put, List.setIfInBounds_toArray, List.set_cons_zero, List.set_cons_succ]
  refine wpAnyH_take (i := 6) (v := ?_) (by simp only [List.getElem?_toArray, List.getElem?_cons_zero, List.getElem?_cons_succ]; rfl) (by kernel_rfl) (by kernel_rfl) (by kernel_rfl) (by exact fun _ _ _ h => h) (Or.inl ⟨by rfl, ?_⟩) (by assumption) ?_
  rotate_left
  · (intro w hSw; (try dsimp only at hSw); go_simp; (try with_reducible rfl))
  try simp only [Act.put, List.setIfInBounds_toArray, List.set_cons_zero, List.set_cons_succ]
  refine wpAnyH_ready (rs := [7]) (by kernel_rfl) (by simp) ?_
  refine AllReadyH.cons (by simp only [List.getElem?_toArray, List.getElem?_cons_zero, List.getElem?_cons_succ]; rfl) (fun K hK => ?_) AllReadyH.nil
  refine st_store 32 X4.drew rfl rfl rfl rfl size32 rfl (by omega : 3 + 3 ≤ 14) (cC_one _) (sp3 _ _) ?_
  intro w5 X5 K5
  have Y5 := K5.box Y4.drew hneX
  have S5 := K5.up S4.drew lt4
  refine hK.out _ _ Y5 (fun hHeld => ?_)
  clear hK K
  try simp only [Act.put, List.setIfInBounds_toArray, List.set_cons_zero, List.set_cons_succ]
  refine wpAnyH_take (i := 8) (v := ?_) (by simp only [List.getElem?_toArray, List.getElem?_cons_zero, List.getElem?_cons_succ]; rfl) (by kernel_rfl) (by kernel_rfl) (by kernel_rfl) (by exact fun _ _ _ h => h) (Or.inl ⟨by rfl, ?_⟩) (by assumption) ?_
  rotate_left
  · (intro w hSw; (try dsimp only at hSw); go_simp; (try with_reducible rfl))
  try simp only [Act.put, List.setIfInBounds_toArray, List.set_cons_zero, List.set_cons_succ]
  refine wpAnyH_ready (rs := [9]) (by kernel_rfl) (by simp) ?_
  refine AllReadyH.cons (by simp only [List.getElem?_toArray, List.getElem?_cons_zero, List.getElem?_cons_succ]; rfl) (fun K hK => ?_) AllReadyH.nil
  refine st_store 32 X5 rfl rfl rfl rfl size32 rfl (by omega : 6 + 3 ≤ 14) (cC_one _) (sp6 _ _) ?_
  intro w6 X6 K6
  have Y6 := K6.box Y5 hneX
  have S6 := K6.up S5 lt4
  refine hK.out _ _ Y6 (fun hHeld => ?_)
  clear hK K
  try simp only [Act.put, List.setIfInBounds_toArray, List.set_cons_zero, List.set_cons_succ]
  refine wpAnyH_take (i := 10) (v := ?_) (by simp only [List.getElem?_toArray, List.getElem?_cons_zero, List.getElem?_cons_succ]; rfl) (by kernel_rfl) (by kernel_rfl) (by kernel_rfl) (by exact fun _ _ _ h => h) (Or.inl ⟨by rfl, ?_⟩) (by assumption) ?_
  rotate_left
  · (intro w hSw; (try dsimp only at hSw); go_simp; (try with_reducible rfl))
  try simp only [Act.put, List.setIfInBounds_toArray, List.set_cons_zero, List.set_cons_succ]
  refine wpAnyH_ready (rs := [11]) (by kernel_rfl) (by simp) ?_
  refine AllReadyH.cons (by simp only [List.getElem?_toArray, List.getElem?_cons_zero, List.getElem?_cons_succ]; rfl) (fun K hK => ?_) AllReadyH.nil
  refine st_store 32 X6 rfl rfl rfl rfl size32 rfl (by omega : 9 + 3 ≤ 14) (cC_one _) (sp9 _ _) ?_
  intro w7 X7 K7
  replace X7 : Box w7 w1.heap.size (sV (withS p s)) 34 := X7
  have Y7 := K7.box Y6 hneX
  have S7 := K7.up S6 lt4
  refine hK.out _ _ Y7 (fun hHeld => ?_)
  clear hK K
  try simp only [Act.put, List.setIfInBounds_toArray, List.set_cons_zero, List.set_cons_succ]
  refine wpAnyH_done (by kernel_rfl) ?_ _
  clear hHeld
  replace hXg := hXg w1 T1
  have hY := may33 (withS p s) hwo w7
  go_upto_region 8 with (first
    | (refine wl_load 34 X7 rfl rfl rfl Tryz.underlying34 rfl size34 (by omega : 0 + 14 ≤ 14) (sV_all _) ?_)
    | (go_at_call 33; (with_reducible refine hY.mono ?_); rintro e w8 ⟨rfl, T8⟩; rw [hm]; have S8 := ups S7 T8 S7.size; have X8 := X7.below T8; have B8 := hb1.below S8; have C8 := hcb.below S8))
  refine wp_region_held_drew (S := fun W => Box W B #[.slice (some ⟨g, 0, none⟩) L.length cap] 29 ∧ Box W w1.heap.size (sV (withS p s)) 34) (by kernel_rfl) ⟨B8.drew, X8.drew⟩ (fun hHeld => ?_)
  refine wpAnyH_take (i := 0) (v := ?_) (by simp only [List.getElem?_toArray, List.getElem?_cons_zero]; rfl) (by kernel_rfl) (by kernel_rfl) (by kernel_rfl) (by exact fun _ _ _ h => h) (Or.inl ⟨by rfl, ?_⟩) (by assumption) ?_
  rotate_left
  · (intro w hSw; (try dsimp only at hSw); go_simp; (try with_reducible rfl))
  try simp only [Act.put, List.setIfInBounds_toArray, List.set_cons_zero, List.set_cons_succ]
  refine wpAnyH_take (i := 1) (v := ?_) (by simp only [List.getElem?_toArray, List.getElem?_cons_zero, List.getElem?_cons_succ]; rfl) (by kernel_rfl) (by kernel_rfl) (by kernel_rfl) (by exact fun _ _ _ h => h) (Or.inl ⟨by rfl, ?_⟩) (by assumption) ?_
  rotate_left
  · (intro w hSw; (try dsimp only at hSw); go_simp; (try with_reducible rfl))
  try simp only [Act.put, List.setIfInBounds_toArray, List.set_cons_zero, List.set_cons_succ]
  refine wpAnyH_take (i := 2) (v := ?_) (by simp only [List.getElem?_toArray, List.getElem?_cons_zero, List.getElem?_cons_succ]; rfl) (by kernel_rfl) (by kernel_rfl) (by kernel_rfl) (by exact fun _ _ _ h => h) (Or.inl ⟨by rfl, ?_⟩) (by assumption) ?_
  rotate_left
  · (intro w hSw; (try dsimp only at hSw); go_simp; (try with_reducible rfl))
  try simp only [Act.put, List.setIfInBounds_toArray, List.set_cons_zero, List.set_cons_succ]
  refine wpAnyH_take (i := 3) (v := .slice (some ⟨g, 0, none⟩) L.length cap) (by simp only [List.getElem?_toArray, List.getElem?_cons_zero, List.getElem?_cons_succ]; rfl) (by kernel_rfl) (by kernel_rfl) (by kernel_rfl) (by exact fun _ _ _ h => h) (Or.inl ⟨by rfl, fun w hSw => xl_cell 27 hSw.1 rfl rfl Tryz.underlying27 rfl rfl⟩) (by assumption) ?_
  try simp only [Act.put, List.setIfInBounds_toArray, List.set_cons_zero, List.set_cons_succ]
  refine wpAnyH_take (i := 4) (v := ?_) (by simp only [List.getElem?_toArray, List.getElem?_cons_zero, List.getElem?_cons_succ]; rfl) (by kernel_rfl) (by kernel_rfl) (by kernel_rfl) (by exact fun _ _ _ h => h) (Or.inl ⟨by rfl, ?_⟩) (by assumption) ?_
  rotate_left
  · (intro w hSw; (try dsimp only at hSw); go_simp; (try with_reducible rfl))
  try simp only [Act.put, List.setIfInBounds_toArray, List.set_cons_zero, List.set_cons_succ]
  refine wpAnyH_take (i := 5) (v := .agg (sV (withS p s))) (by simp only [List.getElem?_toArray, List.getElem?_cons_zero, List.getElem?_cons_succ]; rfl) (by kernel_rfl) (by kernel_rfl) (by kernel_rfl) (by exact fun _ _ _ h => h) (Or.inl ⟨by rfl, fun w hSw => xl_load 34 hSw.2 rfl rfl Tryz.underlying34 rfl size34 (by omega : 0 + 14 ≤ 14) (sV_all _)⟩) (by assumption) ?_
  try simp only [Act.put, List.setIfInBounds_toArray, List.set_cons_zero, List.set_cons_succ]
  refine wpAnyH_take (i := 6) (v := ?_) (by simp only [List.getElem?_toArray, List.getElem?_cons_zero, List.getElem?_cons_succ]; rfl) (by kernel_rfl) (by kernel_rfl) (by kernel_rfl) (by exact fun _ _ _ h => h) (Or.inl ⟨by rfl, ?_⟩) (by assumption) ?_
  rotate_left
  · (intro w hSw; (try dsimp only at hSw); go_simp; (try with_reducible rfl))
  try simp only [Act.put, List.setIfInBounds_toArray, List.set_cons_zero, List.set_cons_succ]
  refine wpAnyH_ready (rs := [7]) (by kernel_rfl) (by simp) ?_
  refine AllReadyH.cons (by simp only [List.getElem?_toArray, List.getElem?_cons_zero, List.getElem?_cons_succ]; rfl) (fun K hK => ?_) AllReadyH.nil
  refine st_store 34 C8.drew rfl rfl rfl rfl size34 rfl hcs (sV_one _) rfl ?_
  intro w9 X9 K9
  refine hK.out _ _ ⟨K9.box B8.drew hBg, K9.box X8.drew hXg⟩ (fun hHeld => ?_)
  clear hK K
  try simp only [Act.put, List.setIfInBounds_toArray, List.set_cons_zero, List.set_cons_succ]
  refine wpAnyH_done (by kernel_rfl) ?_ _
  clear hHeld
  go_wp2_with fail
  go_ret
  exact ⟨rfl, hF9.out _ w9 S8.drew X9 K9⟩
theorem rchg_any (h : Rt w χ c B L) (hF : Fit L) {s : Sp} (hs : s.ok) :
    Calls Tryz.prog 14 #[ptr B, .agg (sV s)] w fun e w' => e = .returned (eI (chgE L s)) ∧ ∃ χ', Rt w' χ' c B (chL L s) ∧ Col χ χ' c w w' := by
  have fin : ∀ x, chgE L s = x → x ≠ 0 → (Calls Tryz.prog 14 #[ptr B, .agg (sV s)] w fun e w' => e = .returned (eI x) ∧ Below w.heap.size w w') → Calls Tryz.prog 14 #[ptr B, .agg (sV s)] w fun e w' => e = .returned (eI (chgE L s)) ∧ ∃ χ', Rt w' χ' c B (chL L s) ∧ Col χ χ' c w w' := fun x e hx hc => by
    have hno : chL L s = L := if_neg (by rw [e]; exact hx)
    rw [hno]
    exact hc.mono fun e1 w' ⟨x1, y1⟩ => ⟨by rw [x1, e], χ, h.below y1, Col.of y1⟩
  by_cases hg : hasS L s.id = true
  · obtain ⟨q, hq, hqi⟩ := hasS_iff.1 hg
    have hgq : getS L s.id = q := by rw [← hqi]; exact getS_mem hF.tree hq
    obtain ⟨i, hi, e2⟩ := List.getElem_of_mem hq
    have hi' : L[i]? = some q := by rw [List.getElem?_eq_getElem hi, e2]
    by_cases hm : mayN (withS q s) = 0
    · have he : chgE L s = 0 := by unfold chgE; rw [if_pos hg, hgq, if_pos hm]
      have hL : chL L s = chgL L s := if_pos he
      rw [he, hL]
      exact rchg_ok h hF hs hi' hqi hm
    · exact fin 130 (by unfold chgE; rw [if_pos hg, hgq, if_neg hm]) (by omega) (rchg_shape h hF hs hi' hqi ((may_or _).resolve_left hm))
  · exact fin 81 (by unfold chgE; rw [if_neg hg]) (by omega) (rchg_absent h hF hs (fun p hp e => hg (hasS_iff.2 ⟨p, hp, e⟩)))
theorem rdrop_any (h : Rt w χ c B L) (hF : Fit L) (k : Int) :
    Calls Tryz.prog 16 #[ptr B, eI k] w fun e w' => e = .returned (eI (drpE L k)) ∧ ∃ χ', Rt w' χ' c B (drpL L k) ∧ Col χ χ' c w w' := by
  have fin : ∀ x, drpE L k = x → x ≠ 0 → (Calls Tryz.prog 16 #[ptr B, eI k] w fun e w' => e = .returned (eI x) ∧ Below w.heap.size w w') → Calls Tryz.prog 16 #[ptr B, eI k] w fun e w' => e = .returned (eI (drpE L k)) ∧ ∃ χ', Rt w' χ' c B (drpL L k) ∧ Col χ χ' c w w' := fun x e hx hc => by
    have hno : drpL L k = L := if_neg (by rw [e]; exact hx)
    rw [hno]
    exact hc.mono fun e1 w' ⟨x1, y1⟩ => ⟨by rw [x1, e], χ, h.below y1, Col.of y1⟩
  by_cases hg : hasS L k = true
  · obtain ⟨q, hq, hqi⟩ := hasS_iff.1 hg
    obtain ⟨i, hi, e2⟩ := List.getElem_of_mem hq
    have hi' : L[i]? = some q := by rw [List.getElem?_eq_getElem hi, e2]
    cases hu : underL L k with
    | nil =>
      have he : drpE L k = 0 := by unfold drpE; rw [if_pos hg, hu]; rfl
      have hL : drpL L k = dropL L k := if_pos he
      rw [he, hL]
      exact rdrop_ok h hF hi' hqi hu
    | cons x l => exact fin 161 (by unfold drpE; rw [if_pos hg, hu]; rfl) (by omega) (rdrop_child h hF hi' hqi (by rw [hu]; simp))
  · exact fin 81 (by unfold drpE; rw [if_neg hg]) (by omega) (rdrop_absent h hF (fun p hp e => hg (hasS_iff.2 ⟨p, hp, e⟩)))
end
end Go.Proofs.YtpopcnebndgblaaGreat.H
