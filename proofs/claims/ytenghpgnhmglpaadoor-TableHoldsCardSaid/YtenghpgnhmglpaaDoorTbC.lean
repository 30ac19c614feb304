/- copy at elements of one cell, into a block. Nothing here hangs on a program. No condition. -/
import Derived.Test.YtenghpgnhmglpaaDoorCoA
namespace Go.Proofs.YtenghpgnhmglpaaDoor
open Go.RowKit
set_option linter.unusedVariables false
/-- Cells laid over a row from a place on. -/
def overV (D : List Value) (o : Nat) (X : List Value) : List Value := D.take o ++ (X ++ D.drop (o + X.length))
theorem overV_length (D : List Value) (o : Nat) (X : List Value) (h : o + X.length ≤ D.length) : (overV D o X).length = D.length := by simp [overV]; omega
section
variable {P : Program} {sl el : TypeId}
theorem run_copy1 (T : RowTy P sl el 1) (w : World) (ty : TypeId) (g o dLen dCap : Nat) (dp sp : Option Addr) (sLen sCap : Nat) (D X : List Value) (hX : X.length = Nat.min sLen dLen) (h1 : ∀ u ∈ X, u.oneCell' = true) (hg : Box w g D.toArray el)
    (hpos : 0 < X.length → dp = some ⟨g, o, none⟩ ∧ ∃ ad, sp = some ad ∧ ∀ j u, X[j]? = some u → w.cell? (ad.add j) = some u) (hfit : o + X.length ≤ D.length) :
    ∃ w', (Builtin.copy_ #[sl, sl] ty #[.slice dp dLen dCap, .slice sp sLen sCap]).run P w = .ok (goInt X.length) w' ∧ Box w' g (overV D o X).toArray el ∧ w.grownBy w' (some g) := by
  obtain ⟨i0, z, b, hi, hz0, hz1, hz2, hz3, hz4⟩ := T.info
  by_cases h0 : X.length = 0
  · have hn : Nat.min sLen dLen = 0 := by omega
    have e : X = [] := List.eq_nil_of_length_eq_zero h0
    subst e
    refine ⟨w, ?_, by simpa [overV] using hg, World.grownBy.refl w _⟩
    have hl : ∀ (x : Addr), (loadCells x 0).run P w = .ok #[] w := fun x => by simpa using run_loadCells_list (P := P) w x [] (by simp)
    cases dp <;> cases sp <;> simp [Builtin.copy_, run_underlying T.und, Builtin.lenOf, Builtin.firstCells, sizeOf, typeInfo, hi, hn, storeCells, hl]
  · obtain ⟨rfl, ad, rfl, hsrc⟩ := hpos (by omega)
    have hl := run_loadCells_list (P := P) w ad X hsrc
    have hst := run_storeCells_at P g o el X 0 D.toArray w hg (by simpa using hfit) h1
    refine ⟨w.setRow g (overV D o X).toArray, ?_, setRow_heap w g _ (overV D o X).toArray el _ hg, ⟨rfl, rfl, rfl, by simp [World.setRow], fun k hk hn => setRow_other w g k _ (fun e => hn (by rw [e]))⟩⟩
    have e : D.toArray.toList.take (o + 0) ++ X ++ D.toArray.toList.drop (o + 0 + X.length) = overV D o X := by
      simp [overV, List.append_assoc]
    rw [e] at hst
    simp [Builtin.copy_, run_underlying T.und, Builtin.lenOf, Builtin.firstCells, sizeOf, typeInfo, hi, hz1, ← hX, hl, hst]
theorem step_copy1 (T : RowTy P sl el 1) {w : World} {ops : Array Oper} {o : Oper} {a : Go.Act} {K : Go.Act → World → Prop} {Q : Exit → Go.Act → World → Prop} {E : Prop} (hgd : o.guard = none) (d s : Operand)
    (ho : o.op = .call { callee := .builtin .copy, args := #[d, s], argTypes := #[sl, sl] })
    (g q dLen dCap : Nat) (dp sp : Option Addr) (sLen sCap : Nat) (hd : a.eval d = .slice dp dLen dCap) (hs : a.eval s = .slice sp sLen sCap) (D X : List Value) (k : Nat) (hk : X.length = k) (hX : k = Nat.min sLen dLen) (h1 : ∀ u ∈ X, u.oneCell' = true) (hg : Box w g D.toArray el)
    (hpos : 0 < k → dp = some ⟨g, q, none⟩ ∧ ∃ ad, sp = some ad ∧ ∀ j u, X[j]? = some u → w.cell? (ad.add j) = some u) (hfit : q + k ≤ D.length)
    (h : ∀ w', Box w' g (overV D q X).toArray el → w.grownBy w' (some g) → K (a.put o.dst (goInt k)) w') :
    if Region.wanted o (yielded ops a.tmps) = true then Oper.wp P o a w K Q else E := by
  have hw : Region.wanted o (yielded ops a.tmps) = true := by simp [Region.wanted, hgd]
  rw [if_pos hw]
  subst hk
  obtain ⟨w', hr, h1, h2⟩ := run_copy1 T w o.type g q dLen dCap dp sp sLen sCap D X hX h1 hg hpos hfit
  unfold Oper.wp
  simp [execOp, ho, resolve, invoke, builtin, hd, hs, hr, Result.andThen]
  exact h w' h1 h2
theorem wpList_copy1 (T : RowTy P sl el 1) {w : World} {ops : Array Oper} {rest : List Oper} {o : Oper} {a : Go.Act} {Q : Exit → Go.Act → World → Prop} (hgd : o.guard = none) (d s : Operand)
    (ho : o.op = .call { callee := .builtin .copy, args := #[d, s], argTypes := #[sl, sl] })
    (g q dLen dCap : Nat) (dp sp : Option Addr) (sLen sCap : Nat) (hd : a.eval d = .slice dp dLen dCap) (hs : a.eval s = .slice sp sLen sCap) (D X : List Value) (k : Nat) (hk : X.length = k) (hX : k = Nat.min sLen dLen) (h1 : ∀ u ∈ X, u.oneCell' = true) (hg : Box w g D.toArray el)
    (hpos : 0 < k → dp = some ⟨g, q, none⟩ ∧ ∃ ad, sp = some ad ∧ ∀ j u, X[j]? = some u → w.cell? (ad.add j) = some u) (hfit : q + k ≤ D.length)
    (h : ∀ w', Box w' g (overV D q X).toArray el → w.grownBy w' (some g) → wpList P ops Q rest (a.put o.dst (goInt k)) w') : wpList P ops Q (o :: rest) a w := by
  refine wpList_plain hgd fun K hK => ?_
  subst hk
  obtain ⟨w', hr, h1, h2⟩ := run_copy1 T w o.type g q dLen dCap dp sp sLen sCap D X hX h1 hg hpos hfit
  unfold Oper.wp execOp
  simp only [ho, resolve, invoke, builtin, Sem.run_bind, Sem.run_pure, Result.andThen_ok, List.map_toArray, List.map_cons, List.map_nil, hd, hs, hr]
  exact hK _ _ (h w' h1 h2)
end
/-- One cell put between. -/
theorem over_ins {D xs : List Value} {n i : Nat} {x : Value} (hx : xs.length = n) (h : D.take n = xs) (hi : i ≤ n) (hn : n + 1 ≤ D.length) : (overV (overV D (i + 1) (xs.drop i)) i [x]).take (n + 1) = xs.take i ++ x :: xs.drop i := by
  have e : D = xs ++ D.drop n := by rw [← h, List.take_append_drop]
  have h1 : D.take i = xs.take i := by rw [e, List.take_append_of_le_length (by omega)]
  have l1 : (D.take (i + 1)).length = i + 1 := by rw [List.length_take]; omega
  have h2 : (overV D (i + 1) (xs.drop i)).take i = xs.take i := by
    unfold overV
    rw [List.take_append_of_le_length (by omega), List.take_take, Nat.min_eq_left (by omega), h1]
  have h3 : (overV D (i + 1) (xs.drop i)).drop (i + 1) = xs.drop i ++ D.drop (n + 1) := by
    unfold overV
    rw [List.drop_append_of_le_length (by omega), List.drop_eq_nil_of_le (by omega), List.nil_append, List.length_drop, hx, show i + 1 + (n - i) = n + 1 by omega]
  show ((overV D (i + 1) (xs.drop i)).take i ++ ([x] ++ (overV D (i + 1) (xs.drop i)).drop (i + 1))).take (n + 1) = _
  rw [h2, h3, ← List.append_assoc, ← List.append_assoc, List.take_append_of_le_length (by simp; omega), List.take_of_length_le (by simp; omega)]
  simp
end Go.Proofs.YtenghpgnhmglpaaDoor
