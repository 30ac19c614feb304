/- What is refused changes nothing; what came can go; what is changed can be changed back. Condition: numbers are what the fields can hold. -/
import Derived.Test.YtpopcnebndgblaaGreatHlP
namespace Go.Proofs.YtpopcnebndgblaaGreat.H
open Go.ChangeShapes Go.WideShapes Go.Deep Go.RowKit
set_option linter.unusedVariables false
set_option linter.unusedSimpArgs false
set_option maxHeartbeats 4000000 in
set_option maxRecDepth 100000 in
theorem eq32 (c : Cw) (W : World) : (Op.equalIn 10000 32 (.agg (cC c)) (.agg (cC c))).run Tryz.prog W = .ok true W := by
  obtain ⟨f, l, r⟩ := c
  show (Op.equalIn 10000 32 (.agg #[.int .u64 f, .int .u64 l, .int .u64 r]) (.agg #[.int .u64 f, .int .u64 l, .int .u64 r])).run Tryz.prog W = .ok true W
  simp [go_sem]
theorem ne32 (c : Cw) (W : World) : (binOp .neq 32 (.agg (cC c)) (.agg (cC c))).run Tryz.prog W = .ok (.bool false) W := by rw [run_neq_struct, eq32]; rfl
theorem xl_ne32 {o : Oper} {a : Act} {w : World} {x y : Operand} {p : Cw} {t : TypeId} (ho : o.op = .binOp .neq 32 x y t) (hx : a.eval x = .agg (cC p)) (hy : a.eval y = .agg (cC p)) : (execOp a.eval o).run Tryz.prog w = .ok (.value (.bool false)) w := by
  unfold execOp
  simp only [ho, hx, hy, Sem.run_bind, run_eqGuard_agg w .neq 32 x y _ _ Tryz.eqGuardType32, Result.andThen_ok, ne32, Sem.run_pure]
theorem xl_same34 {o : Oper} {a : Act} {w : World} {x y : Operand} {p : Sp} {t : TypeId} (ho : o.op = .binOp .eql 34 x y t) (hx : a.eval x = .agg (sV p)) (hy : a.eval y = .agg (sV p)) : (execOp a.eval o).run Tryz.prog w = .ok (.value (.bool true)) w := by
  unfold execOp
  simp only [ho, hx, hy, Sem.run_bind, run_eqGuard_agg w .eql 34 x y _ _ Tryz.eqGuardType34, Result.andThen_ok, eqq34, Sem.run_pure, decide_true]
theorem nn34 (p : Sp) (W : World) : (binOp .neq 34 (.agg (sV p)) (.agg (sV p))).run Tryz.prog W = .ok (.bool false) W := (ne34 p p W).trans (by rw [decide_eq_true rfl]; rfl)
theorem sV_2' (p : Sp) : (sV p)[2]? = some (.bool p.leaf) := rfl
theorem sV_12 (p : Sp) : (sV p)[12]? = some (.int .i64 p.pk) := rfl
theorem sV_13 (p : Sp) : (sV p)[13]? = some (.int .i64 p.bt) := rfl
section
variable {w0 w w' : World} {t b : Nat} {L : List Sp} {bs : List (Nat × Sp)} {rs : List (Value × List Int)} {p q : Sp} {v : Value} {zs : List Int}
/-- A tree, variables, rows of numbers: each its own. -/
def Hx (w0 w : World) (t : Nat) (L : List Sp) (bs : List (Nat × Sp)) (rs : List (Value × List Int)) : Prop := ∃ χ, Fr w0 χ w ∧ Tre w χ 1 t L ∧ (∀ x ∈ bs, Bx w χ 4 x.1 (sV x.2) 34) ∧ (∀ x ∈ rs, w.ownsRow 0 3 1 x.1 x.2.length (x.2.map eI) ∧ ∀ g, x.1.ownBlock = some g → χ g = 4)
theorem Tn.hx (h : Tn w0 w t L) : Hx w0 w t L [] [] := by obtain ⟨χ, hf, h1⟩ := h; exact ⟨χ, hf, h1, by simp, by simp⟩
theorem Hx.tn (h : Hx w0 w t L bs rs) : Tn w0 w t L := by obtain ⟨χ, hf, h1, _⟩ := h; exact ⟨χ, hf, h1⟩
theorem Hx.world (h : Hx w0 w t L bs rs) : Below w0.heap.size w0 w := h.tn.world
theorem Hx.box (h : Hx w0 w t L bs rs) (hm : (b, p) ∈ bs) : Box w b (sV p) 34 := by obtain ⟨χ, hf, h1, h2, _⟩ := h; exact (h2 _ hm).1
theorem Hx.row (h : Hx w0 w t L bs rs) (hm : (v, zs) ∈ rs) : w.ownsRow 0 3 1 v zs.length (zs.map eI) := by obtain ⟨χ, hf, h1, _, h3⟩ := h; exact (h3 _ hm).1
theorem Hx.below (h : Hx w0 w t L bs rs) (hb : Below w.heap.size w w') : Hx w0 w' t L bs rs := by
  obtain ⟨χ, hf, h1, h2, h3⟩ := h
  exact ⟨χ, hf.below hb, h1.below hb, fun x hx => (h2 x hx).below hb, fun x hx => ⟨own_below (h3 x hx).1 hb, (h3 x hx).2⟩⟩
theorem Hx.drew (h : Hx w0 w t L bs rs) : Hx w0 w.drew t L bs rs := h.below ((Below.refl _ w).trans ⟨rfl, rfl, rfl, Nat.le_refl _, fun _ _ => rfl⟩)
theorem Hx.fresh (h : Hx w0 w t L bs rs) (hb : Below w.heap.size w w') : ∃ χ, (∀ k, w.heap.size ≤ k → χ k = 4) ∧ Fr w0 χ w' ∧ Tre w' χ 1 t L ∧ (∀ x ∈ bs, Bx w' χ 4 x.1 (sV x.2) 34) ∧ (∀ x ∈ rs, w'.ownsRow 0 3 1 x.1 x.2.length (x.2.map eI) ∧ ∀ g, x.1.ownBlock = some g → χ g = 4) := by
  obtain ⟨χ, hf, h1, h2, h3⟩ := h
  refine ⟨recol χ w.heap.size 4, fun k hk => recol_ge hk, hf.next (Col.new (c := 4) hb 4) (by decide), h1.new hb 4, fun x hx => ⟨(h2 x hx).1.below hb, (recol_lt (h2 x hx).1.lt).trans (h2 x hx).2⟩, fun x hx => ⟨own_below (h3 x hx).1 hb, fun g e => (recol_lt ((h3 x hx).1.lt g e).2).trans ((h3 x hx).2 g e)⟩⟩
theorem Hx.newRow (h : Hx w0 w t L bs rs) (hb : Below w.heap.size w w') (ho : w'.ownsRow w.heap.size 3 1 v zs.length (zs.map eI)) : Hx w0 w' t L bs ((v, zs) :: rs) := by
  obtain ⟨χ, hn, hf, h1, h2, h3⟩ := h.fresh hb
  refine ⟨χ, hf, h1, h2, fun x hx => ?_⟩
  rcases List.mem_cons.1 hx with rfl | hx
  · exact ⟨own_mono ho (Nat.zero_le _), fun g e => hn g (ho.lt g e).1⟩
  · exact h3 x hx
theorem Hx.newBox (h : Hx w0 w t L bs rs) (hb : Below w.heap.size w w') (hB : Box w' b (sV p) 34) (hl : w.heap.size ≤ b) : Hx w0 w' t L ((b, p) :: bs) rs := by
  obtain ⟨χ, hn, hf, h1, h2, h3⟩ := h.fresh hb
  refine ⟨χ, hf, h1, fun x hx => ?_, h3⟩
  rcases List.mem_cons.1 hx with rfl | hx
  · exact ⟨hB, hn b hl⟩
  · exact h2 x hx
theorem Hx.next {χ χ' : Nat → Nat} {L' : List Sp} (hf : Fr w0 χ w) (h2 : ∀ x ∈ bs, Bx w χ 4 x.1 (sV x.2) 34) (h3 : ∀ x ∈ rs, w.ownsRow 0 3 1 x.1 x.2.length (x.2.map eI) ∧ ∀ g, x.1.ownBlock = some g → χ g = 4) (hT : Tre w' χ' 1 t L') (hC : Col χ χ' 1 w w') : Hx w0 w' t L' bs rs := by
  refine ⟨χ', hf.next hC (by decide), hT, fun x hx => (h2 x hx).other hC (by decide), fun x hx => ⟨?_, fun g e => (hC.col g ((h3 x hx).1.lt g e).2).trans ((h3 x hx).2 g e)⟩⟩
  exact (Off.owns (S := fun b => χ b = 1) ⟨hC.os, hC.tape, hC.output, hC.size, fun i hi hn => hC.block i hi hn⟩ (h3 x hx).1 (fun g e e2 => by rw [(h3 x hx).2 g e] at e2; cases e2))
theorem hx_add (h : Hx w0 w t L bs rs) (hp : p.ok) : Calls Tryz.prog 11 #[ptr t, .agg (sV p)] w fun e w' => e = .returned (eI (addE L p)) ∧ Hx w0 w' t (addL L p) bs rs := by
  obtain ⟨χ, hf, h1, h2, h3⟩ := h
  refine (add_any h1 hp).mono ?_
  rintro e w' ⟨e1, χ', hT, hC⟩
  exact ⟨e1, Hx.next hf h2 h3 hT hC⟩
theorem hx_chg (h : Hx w0 w t L bs rs) (hp : p.ok) : Calls Tryz.prog 13 #[ptr t, .agg (sV p)] w fun e w' => e = .returned (eI (chgE L p)) ∧ Hx w0 w' t (chL L p) bs rs := by
  obtain ⟨χ, hf, h1, h2, h3⟩ := h
  refine (chg_any h1 hp).mono ?_
  rintro e w' ⟨e1, χ', hT, hC⟩
  exact ⟨e1, Hx.next hf h2 h3 hT hC⟩
theorem hx_drop (h : Hx w0 w t L bs rs) {k : Int} (hk : I64 k) : Calls Tryz.prog 15 #[ptr t, eI k] w fun e w' => e = .returned (eI (drpE L k)) ∧ Hx w0 w' t (drpL L k) bs rs := by
  obtain ⟨χ, hf, h1, h2, h3⟩ := h
  refine (drop_any h1 hk).mono ?_
  rintro e w' ⟨e1, χ', hT, hC⟩
  exact ⟨e1, Hx.next hf h2 h3 hT hC⟩
/-- A variable is stored into. -/
theorem Hx.put (h : Hx w0 w t L ((b, p) :: bs) rs) (hK : But b w w') (hB : Box w' b (sV q) 34) (hn : ∀ x ∈ bs, x.1 ≠ b) (hr : ∀ x ∈ rs, x.1.ownBlock ≠ some b) : Hx w0 w' t L ((b, q) :: bs) rs := by
  obtain ⟨χ, hf, h1, h2, h3⟩ := h
  have hb := h2 _ (List.mem_cons.2 (.inl rfl))
  have hC : Col χ χ 4 w w' := ⟨hK.os, hK.tape, hK.output, hK.size, fun _ _ => rfl, fun k hk hne => hK.block k hk (fun e => hne (by rw [e]; exact hb.2))⟩
  refine ⟨χ, hf.next hC (by decide), h1.other hC (by decide), fun x hx => ?_, fun x hx => ⟨own_but (h3 x hx).1 hK (hr x hx), (h3 x hx).2⟩⟩
  rcases List.mem_cons.1 hx with rfl | hx
  · exact ⟨hB, hb.2⟩
  · exact ⟨hK.box (h2 x (List.mem_cons.2 (.inr hx))).1 (hn x hx), (h2 x (List.mem_cons.2 (.inr hx))).2⟩
end
/-! ### What comes out -/
section
variable {L : List Sp} {s c : Sp}
theorem ref_add (hF : Fit L) (e : addE L s = 0) : hasS L s.id = false ∧ addL L s = insL s L ∧ getS (insL s L) s.id = s ∧ hasS (insL s L) s.id = true ∧ drpE (insL s L) s.id = 0 ∧ drpL (insL s L) s.id = L ∧ Hrc (insL s L) := by
  obtain ⟨hm, hl, hn, hb⟩ := add_free e
  have hi : Hrc (insL s L) := hF.tree.add (by have := may_id hm; omega) hn (by
    unfold bearsL at hb
    simp only [Bool.or_eq_true, beq_iff_eq, Bool.and_eq_true, Bool.not_eq_true', decide_eq_true_eq] at hb
    rcases hb with h | ⟨⟨h1, h2⟩, h3⟩
    · exact .inl h
    · obtain ⟨p, hp, e⟩ := hasS_iff.1 h1
      rw [← e, getS_mem hF.tree hp] at h2
      exact .inr ⟨p, hp, e, h2, h3⟩)
  have hmem : s ∈ insL s L := mem_insL.2 (.inl rfl)
  have hh := hasS_mem hi hmem
  have hu : underL (insL s L) s.id = [] := by
    rw [underL_ins hF.tree hi hn, upd_ne _ _ (by have := (may_id hm).2.2; omega)]
    exact underL_none hF.tree (by have := may_id hm; omega) hn
  have he : drpE (insL s L) s.id = 0 := by unfold drpE; rw [if_pos hh, hu]; rfl
  exact ⟨hasS_none hn, if_pos e, getS_mem hi hmem, hh, he, (if_pos he).trans (drop_ins hF.tree.ord hn), hi⟩
theorem ref_chg (hF : Fit L) (e : chgE L s = 0) : ∃ c ∈ L, c.id = s.id ∧ getS L s.id = c ∧ hasS L s.id = true ∧ chL L s = chgL L s ∧ getS (chgL L s) s.id = withS c s ∧ hasS (chgL L s) s.id = true ∧ chgE (chgL L s) c = 0 ∧ chL (chgL L s) c = L := by
  unfold chgE at e
  split at e
  case isFalse => cases e
  case isTrue hg =>
    obtain ⟨c, hc, hci⟩ := hasS_iff.1 hg
    have hgc : getS L s.id = c := by rw [← hci]; exact getS_mem hF.tree hc
    have e0 : chgE L s = 0 := by unfold chgE; rw [if_pos hg]; exact e
    have hT := hF.tree.chg s
    have hmem : withS c s ∈ chgL L s := by
      refine List.mem_map.2 ⟨c, hc, ?_⟩
      unfold chgF; rw [if_pos hci]
    have h1 : (withS c s).id = s.id := hci
    have hg2 : getS (chgL L s) s.id = withS c s := by rw [← h1]; exact getS_mem hT hmem
    have hh2 : hasS (chgL L s) s.id = true := by rw [← h1]; exact hasS_mem hT hmem
    have hback : withS (withS c s) c = c := rfl
    have e2 : chgE (chgL L s) c = 0 := by
      unfold chgE
      rw [hci, if_pos hh2, hg2, hback, if_pos (hF.each c hc).2]
    refine ⟨c, hc, hci, hgc, hg, if_pos e0, hg2, hh2, e2, (if_pos e2).trans ?_⟩
    unfold chgL
    rw [List.map_map]
    have : L.map (chgF c ∘ chgF s) = L.map id := List.map_congr_left (fun q hq => by
      show chgF c (chgF s q) = q
      by_cases hqi : q.id = s.id
      · have hqc : q = c := id_inj hF.tree.ord hq hc (by rw [hqi, hci])
        subst hqc
        unfold chgF
        rw [if_pos hqi, if_pos (show (withS q s).id = q.id from rfl)]
        rfl
      · unfold chgF
        rw [if_neg hqi, if_neg (by rw [hci]; exact hqi)])
    rw [this, List.map_id]
theorem chg_not (e : chgE L s ≠ 0) : chL L s = L := if_neg e
theorem chg_abs (hg : hasS L s.id = false) : chgE L s = 81 := by unfold chgE; rw [hg]; rfl
theorem chg_81 (hg : hasS L s.id = true) : chgE L s = 0 ∨ chgE L s = 130 := by
  unfold chgE; rw [if_pos hg]; split
  · exact .inl rfl
  · exact .inr rfl
end
end Go.Proofs.YtpopcnebndgblaaGreat.H
