/- copy at packets; what grow makes of a full ring. No condition. -/
import Derived.Test.YtlfpaebfpmjclaaQF
import Derived.Laws.CopyOwn
namespace Go.Proofs.Ytlfpaebfpmjclaa
open Go.RowKit
set_option linter.unusedVariables false
theorem rowV_take : ∀ (D : List Pk) (k : Nat), (rowV D).take (k * 4) = rowV (D.take k)
  | _, 0 => by simp [rowV]
  | [], k + 1 => by simp [rowV]
  | p :: D, k + 1 => by
    rw [show (k + 1) * 4 = k * 4 + 1 + 1 + 1 + 1 by omega]
    simp only [rowV, List.take_succ_cons, rowV_take D k]
theorem rowV_drop : ∀ (D : List Pk) (k : Nat), (rowV D).drop (k * 4) = rowV (D.drop k)
  | _, 0 => by simp
  | [], k + 1 => by simp [rowV]
  | p :: D, k + 1 => by
    rw [show (k + 1) * 4 = k * 4 + 1 + 1 + 1 + 1 by omega]
    simp only [rowV, List.drop_succ_cons, rowV_drop D k]
/-- Packets laid over a row from a place on. -/
def over (D : List Pk) (o : Nat) (X : List Pk) : List Pk := D.take o ++ (X ++ D.drop (o + X.length))
theorem over_length (D : List Pk) (o : Nat) (X : List Pk) (h : o + X.length ≤ D.length) : (over D o X).length = D.length := by simp [over]; omega
theorem run_copy4 (w : World) (ty : TypeId) (g o dLen dCap : Nat) (dp sp : Option Addr) (sLen sCap : Nat) (D X : List Pk) (hX : X.length = Nat.min sLen dLen) (hg : Box w g (rowV D).toArray 31)
    (hpos : 0 < X.length → dp = some ⟨g, o * 4, none⟩ ∧ ∃ ad, sp = some ad ∧ ∀ j u, (rowV X)[j]? = some u → w.cell? (ad.add j) = some u) (hfit : o + X.length ≤ D.length) :
    ∃ w', (Builtin.copy_ #[42, 42] ty #[.slice dp dLen dCap, .slice sp sLen sCap]).run Try.prog w = .ok (goInt X.length) w' ∧ Box w' g (rowV (over D o X)).toArray 31 ∧ w.grownBy w' (some g) := by
  obtain ⟨i0, hi, hz0, hz1, hz2⟩ := info_parts infoP
  by_cases h0 : X.length = 0
  · have hn : Nat.min sLen dLen = 0 := by omega
    have e : X = [] := List.eq_nil_of_length_eq_zero h0
    subst e
    refine ⟨w, ?_, by simpa [over] using hg, World.grownBy.refl w _⟩
    have hl : ∀ (x : Addr), (loadCells x 0).run Try.prog w = .ok #[] w := fun x => by simpa using run_loadCells_list (P := Try.prog) w x [] (by simp)
    cases dp <;> cases sp <;> simp [Builtin.copy_, run_underlying Try.underlying42, Builtin.lenOf, Builtin.firstCells, sizeOf, typeInfo, hi, hn, storeCells, hl]
  · obtain ⟨rfl, ad, rfl, hsrc⟩ := hpos (by omega)
    have hl := run_loadCells_list (P := Try.prog) w ad (rowV X) hsrc
    have hst := run_storeCells_at Try.prog g (o * 4) 31 (rowV X) 0 (rowV D).toArray w hg (by simp [rowV_len]; omega) (rowV_one X)
    rw [rowV_len] at hl
    refine ⟨w.setRow g (rowV (over D o X)).toArray, ?_, setRow_heap w g _ (rowV (over D o X)).toArray 31 _ hg, ⟨rfl, rfl, rfl, by simp [World.setRow], fun k hk hn => setRow_other w g k _ (fun e => hn (by rw [e]))⟩⟩
    have e : (rowV D).toArray.toList.take (o * 4 + 0) ++ rowV X ++ (rowV D).toArray.toList.drop (o * 4 + 0 + (rowV X).length) = rowV (over D o X) := by
      simp only [Nat.add_zero, rowV_len]
      rw [show o * 4 + X.length * 4 = (o + X.length) * 4 by omega, rowV_take, rowV_drop, ← rowV_append, ← rowV_append, over, List.append_assoc]
    rw [e] at hst
    simp [Builtin.copy_, run_underlying Try.underlying42, Builtin.lenOf, Builtin.firstCells, sizeOf, typeInfo, hi, hz1, ← hX, hl, hst]
theorem step_copy4 {w : World} {ops : Array Oper} {o : Oper} {a : Go.Act} {K : Go.Act → World → Prop} {Q : Exit → Go.Act → World → Prop} {E : Prop} (hgd : o.guard = none) (d s : Operand)
    (ho : o.op = .call { callee := .builtin .copy, args := #[d, s], argTypes := #[42, 42] })
    (g q dLen dCap : Nat) (dp sp : Option Addr) (sLen sCap : Nat) (hd : a.eval d = .slice dp dLen dCap) (hs : a.eval s = .slice sp sLen sCap) (D X : List Pk) (k : Nat) (hk : X.length = k) (hX : k = Nat.min sLen dLen) (hg : Box w g (rowV D).toArray 31)
    (hpos : 0 < k → dp = some ⟨g, q * 4, none⟩ ∧ ∃ ad, sp = some ad ∧ ∀ j u, (rowV X)[j]? = some u → w.cell? (ad.add j) = some u) (hfit : q + k ≤ D.length)
    (h : ∀ w', Box w' g (rowV (over D q X)).toArray 31 → w.grownBy w' (some g) → K (a.put o.dst (goInt k)) w') :
    if Region.wanted o (yielded ops a.tmps) = true then Oper.wp Try.prog o a w K Q else E := by
  have hw : Region.wanted o (yielded ops a.tmps) = true := by simp [Region.wanted, hgd]
  rw [if_pos hw]
  subst hk
  obtain ⟨w', hr, h1, h2⟩ := run_copy4 w o.type g q dLen dCap dp sp sLen sCap D X hX hg hpos hfit
  unfold Oper.wp
  simp [execOp, ho, resolve, invoke, builtin, hd, hs, hr, Result.andThen]
  exact h w' h1 h2
theorem zeros_row : ∀ (n : Nat), (madeCells (Value.agg #[.int .u64 0, .int .i64 0, .int .i64 0, .int .u64 0]).cells (n * 4)).toList = rowV (List.replicate n Pk.zero) := by
  intro n
  apply List.ext_getElem?
  intro j
  have h1 : (rowV (List.replicate n Pk.zero)).length = n * 4 := by rw [rowV_len, List.length_replicate]
  by_cases hj : j < n * 4
  · obtain ⟨a, b, c, d⟩ := rowV_at (List.replicate n Pk.zero) (j / 4) Pk.zero (by rw [List.getElem?_replicate, if_pos (by omega)])
    have hm : j % 4 = 0 ∨ j % 4 = 1 ∨ j % 4 = 2 ∨ j % 4 = 3 := by omega
    rcases hm with hm | hm | hm | hm
    · rw [show j / 4 * 4 = j by omega] at a
      rw [a]; simp [madeCells, hj, hm, Value.cells]; rfl
    · rw [show j / 4 * 4 + 1 = j by omega] at b
      rw [b]; simp [madeCells, hj, hm, Value.cells]; rfl
    · rw [show j / 4 * 4 + 2 = j by omega] at c
      rw [c]; simp [madeCells, hj, hm, Value.cells]; rfl
    · rw [show j / 4 * 4 + 3 = j by omega] at d
      rw [d]; simp [madeCells, hj, hm, Value.cells]; rfl
  · rw [List.getElem?_eq_none (by rw [Array.length_toList, size_madeCells]; omega), List.getElem?_eq_none (by omega)]
/-- The ring made anew. -/
theorem RingIs.grow {D : List Pk} {f : Nat} {L : List Pk} (h : RingIs D f L) (hl : L.length = D.length) (X : List Pk) (hX : 0 < X.length) : RingIs (D.drop f ++ D.take f ++ X) 0 L := by
  obtain ⟨h1, h2, h3⟩ := h
  have hf : f ≤ D.length := by
    rcases h2 with h2 | ⟨h2, rfl⟩
    · omega
    · omega
  refine ⟨by simp; omega, .inl (by simp; omega), fun i hi => ?_⟩
  have h4 := h3 i hi
  rw [← h4, Nat.zero_add, Nat.mod_eq_of_lt (by simp; omega)]
  by_cases hw : f + i < D.length
  · rw [Nat.mod_eq_of_lt hw, List.append_assoc, List.getElem?_append_left (by simp; omega), List.getElem?_drop]
  · rw [Nat.mod_eq_sub_mod (by omega), Nat.mod_eq_of_lt (by omega), List.getElem?_append_left (by simp; omega), List.getElem?_append_right (by simp; omega), List.length_drop, List.getElem?_take, if_pos (by omega)]
    congr 1; omega
end Go.Proofs.Ytlfpaebfpmjclaa
