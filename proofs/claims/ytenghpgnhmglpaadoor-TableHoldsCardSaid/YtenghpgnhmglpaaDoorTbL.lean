/- slices.Delete of one value out of a row that the call owns, at elements of one cell. No condition but that it isn't long. -/
import Derived.Test.YtenghpgnhmglpaaDoorTbJ
namespace Go.Proofs.YtenghpgnhmglpaaDoor
open Go.RowKit
set_option linter.unusedVariables false
set_option linter.unusedSimpArgs false
section
variable {w : World} {base n i : Nat} {v : Value} {xs : List Value}
theorem step_appI {ops : Array Oper} {o : Oper} {a : Go.Act} {K : Go.Act → World → Prop} {Q : Exit → Go.Act → World → Prop} {E : Prop} (hgd : o.guard = none) (s x : Operand)
    (ho : o.op = Op.call { callee := Callee.builtin Builtin.append, args := #[s, x], argTypes := #[48, 48] })
    (g k cap : Nat) (D : List Value) (hg : Box w g D.toArray 3) (hs : a.eval s = .slice (some ⟨g, 0, none⟩) k cap) (ad : Addr) (m c : Nat) (X : List Value) (hx : a.eval x = .slice (some ad) m c) (hl : X.length = m)
    (hX : ∀ j u, X[j]? = some u → w.cell? (ad.add j) = some u) (h1 : ∀ u ∈ X, u.oneCell' = true) (hroom : k + m ≤ cap) (hfit : k + m ≤ D.length)
    (h : ∀ w', Box w' g (overV D k X).toArray 3 → w.grownBy w' (some g) → K (a.put o.dst (.slice (some ⟨g, 0, none⟩) (k + m) cap)) w') :
    if Region.wanted o (yielded ops a.tmps) = true then Oper.wp Tryd.prog o a w K Q else E := by
  have hw : Region.wanted o (yielded ops a.tmps) = true := by simp [Region.wanted, hgd]
  rw [if_pos hw]
  obtain ⟨i0, hi0, hz0, hzs, hzb⟩ := info_parts (show (Tryd.prog.info? 3).map (fun i => (i.zero, i.size, i.bytes)) = some (some (.int .i64 0), 1, 8) by kernel_rfl)
  have hr := run_append_room (P := Tryd.prog) (w := w) 48 o.type 3 i0 Tryd.underlying48 hi0 g k cap D.toArray hg ad m c X (by rw [hzs]; omega) hX h1 hroom (by rw [hzs]; simp; omega)
  have e : (D.toArray.toList.take (k * i0.size) ++ X ++ D.toArray.toList.drop (k * i0.size + X.length)) = overV D k X := by
    rw [hzs, Nat.mul_one, overV, List.append_assoc]
  rw [e] at hr
  unfold Oper.wp
  simp [execOp, ho, resolve, invoke, builtin, hs, hx, hr, Result.andThen]
  exact h _ (setRow_heap w g _ (overV D k X).toArray 3 _ hg) ⟨rfl, rfl, rfl, by simp [World.setRow], fun k hk hn => setRow_other w g k _ (fun e => hn (by rw [e]))⟩
/-- What Delete leaves. -/
def DelI (w : World) (base n i : Nat) (v : Value) (xs : List Value) (e : Ending) (w' : World) : Prop :=
  ∃ v', e = .returned v' ∧ w'.ownsRow base 3 1 v' (n - 1) (xs.take i ++ xs.drop (i + 1)) ∧ w.grownBy w' v.ownBlock ∧ v'.ownBlock = v.ownBlock
theorem over_delI {D xs : List Value} {n i : Nat} {z : Value} (hx : xs.length = n) (h : D.take n = xs) (hi : i < n) (hn : n ≤ D.length) : ((overV D i (xs.drop (i + 1))).set (n - 1) z).take (n - 1) = xs.take i ++ xs.drop (i + 1) := by
  have h1 : D.take i = xs.take i := by rw [← h, List.take_take, Nat.min_eq_left (by omega)]
  rw [List.take_set_of_le (Nat.le_refl _)]
  show (D.take i ++ (xs.drop (i + 1) ++ D.drop (i + (xs.drop (i + 1)).length))).take (n - 1) = _
  rw [h1, ← List.append_assoc, List.take_append_of_le_length (by simp; omega), List.take_of_length_le (by simp; omega)]
set_option maxHeartbeats 4000000 in
set_option maxRecDepth 100000 in
theorem delI_any (hown : w.ownsRow base 3 1 v n xs) (hi : i < n) (hn : n ≤ 100000) (hone : ∀ u ∈ xs, u.oneCell' = true) :
    Calls Tryd.prog 48 #[v, eI (i : Int), eI ((i + 1 : Nat) : Int)] w (DelI w base n i v xs) := by
  have hxl : xs.length = n := by have := hown.1; omega
  rcases hown.2 with ⟨rfl, h0⟩ | ⟨g, cap, cur, rfl, hgb, hg, hnc, hcap, hcs, hcur⟩
  · omega
  rw [Nat.mul_one] at hcs hcur
  replace hg : Box w g cur 3 := hg
  have hm' : cap ≤ 9223372036854775807 := by unfold maxLen at hcap; omega
  have hDl : cur.toList.length = cap := by simpa using hcs
  have hg0 : Box w g cur.toList.toArray 3 := by simpa using hg
  have hsrc : ∀ j u, (xs.drop (i + 1))[j]? = some u → w.cell? ⟨g, i + 1 + j, none⟩ = some u := fun j u hu => by
    rw [show w.cell? ⟨g, i + 1 + j, none⟩ = cur[i + 1 + j]? from Box.cell hg _]
    rw [← hcur, List.getElem?_drop, List.getElem?_take] at hu
    split at hu
    · simpa using hu
    · cases hu
  obtain ⟨ad, had, hsr⟩ : ∃ ad : Addr, (if cap = i + 1 then (some ⟨g, 0, none⟩ : Option Addr) else some ⟨g, i + 1, none⟩) = some ad ∧ RowKit.Hid (∀ j u, (xs.drop (i + 1))[j]? = some u → w.cell? (ad.add j) = some u) := by
    by_cases h : cap = i + 1
    · refine ⟨⟨g, 0, none⟩, by simp [h], fun j u hu => ?_⟩
      rw [List.drop_eq_nil_of_le (by omega)] at hu
      simp at hu
    · refine ⟨⟨g, i + 1, none⟩, by simp [h], fun j u hu => by rw [add_plain]; exact hsrc j u hu⟩
  have hin : i ≤ n := by omega
  have hz1 : ¬ ((i : Int) = (i : Int) + 1) := by omega
  have hz0 : (i : Int) ≤ (i : Int) + 1 := by omega
  have hz2 : (i : Int) + 1 ≤ (n : Int) := by omega
  have hzp : (0 : Int) ≤ (i : Int) + 1 := by omega
  have hz3 : (n : Int) ≤ (cap : Int) := by omega
  have hz4 : i ≤ cap := by omega
  have hz5 : i + 1 ≤ n := by omega
  have hz6 : i + (n - (i + 1)) = n - 1 := by omega
  have hz7 : ¬ (cap = n - 1) := by omega
  have hz8 : n - 1 ≤ n := by omega
  have hxs := Lib.hid hone
  have hpost : ∀ w2, (Box w2 g (overV cur.toList i (xs.drop (i + 1))).toArray 3 ∧ w.drew.grownBy w2 (some g)) → DelI w base n i (.slice (some ⟨g, 0, none⟩) n cap) xs (.returned (.slice (some ⟨g, 0, none⟩) (n - 1) cap)) (w2.setCell ⟨g, n - 1, none⟩ (.int .i64 0)) := fun w2 ⟨h1, h2⟩ => by
    have e := over_delI (D := cur.toList) (z := .int .i64 0) hxl hcur hi (by omega)
    have h3 := h1.set (n - 1) (.int .i64 0)
    have hgl := Box.lt hg
    refine ⟨_, rfl, ⟨by simp; omega, .inr ⟨g, cap, _, rfl, hgb, h3, by omega, hcap, ?_, ?_⟩⟩, ⟨h2.os, h2.tape, h2.output, by simpa [World.setCell] using h2.size, fun k hk hne => (Below.heap_setCell _ _ _ k (by show k ≠ g; exact fun e => hne (by rw [e]; rfl))).trans (h2.block k hk hne)⟩, rfl⟩
    · rw [Array.size_setIfInBounds, List.size_toArray, overV_length _ _ _ (by rw [List.length_drop]; omega), hDl, Nat.mul_one]
    · rw [Nat.mul_one]
      simpa using e
  have hpo := Lib.hid hpost
  have hl1 : (overV cur.toList i (xs.drop (i + 1))).length = cap := by rw [overV_length _ _ _ (by rw [List.length_drop]; omega), hDl]
  have hL1 := Lib.hid hl1
  have hcl0 : ∀ w2, Box w2 g (overV cur.toList i (xs.drop (i + 1))).toArray 3 → ∀ ty c, (Builtin.clear_ #[48] ty #[.slice (some ⟨g, n - 1, none⟩) (n - (n - 1)) c]).run Tryd.prog w2 = .ok (.tuple #[]) (w2.setCell ⟨g, n - 1, none⟩ (.int .i64 0)) := fun w2 h2 ty c => by
    have h := Lib.run_clear_slice (P := Tryd.prog) w2 48 3 ty (.int .i64 0) Tryd.underlying48 Tryd.zeroValue3 rfl rfl g (n - 1) 1 c (by omega) (fun j hj => by
      rw [show (⟨g, n - 1 + j, none⟩ : Addr) = ⟨g, n - 1, none⟩ by congr 1; omega, h2.cell]
      simp
      rw [hl1]; omega) (fun j hj => h2.thaw _)
    rw [show n - (n - 1) = 1 by omega]
    exact h
  have hclh := Lib.hid hcl0
  clear hpost hl1 hone hsrc hcur hcl0
  by_cases hce : cap = i + 1
  · obtain rfl : n = cap := by omega
    subst hce
    simp at had
    subst had
    go_enter Tryd.func48, Tryd.ntmps48
    go_wp2_with fail
    go_region_law (first
      | (refine step_appI rfl _ _ rfl g i (i + 1) cur.toList hg0.drew (by simp [Act.eval, Act.put]) ⟨g, 0, none⟩ 0 0 (xs.drop (i + 1)) (by simp [Act.eval, Act.put]) (by rw [List.length_drop]; omega) hsr.out (fun u hu => hxs.out u (List.mem_of_mem_drop hu)) (by omega) (by omega) ?_; intro w2 hB2 hg2))
    have hcl := hclh.out w2 hB2
    have hq : i + 1 - 1 = i := by omega
    have hq2 : i + 1 - i = 1 := by omega
    have hp := hpo.out _ ⟨hB2, hg2⟩
    rw [hq] at hcl hp
    rw [hq2] at hcl
    clear hpo
    go_wp2
    go_ret
    exact hp
  · rw [if_neg hce] at had
    cases had
    go_enter Tryd.func48, Tryd.ntmps48
    go_wp2_with fail
    go_region_law (first
      | (refine step_appI rfl _ _ rfl g i cap cur.toList hg0.drew (by simp [Act.eval, Act.put]) ⟨g, i + 1, none⟩ (n - (i + 1)) (cap - (i + 1)) (xs.drop (i + 1)) (by simp [Act.eval, Act.put]) (by rw [List.length_drop]; omega) hsr.out (fun u hu => hxs.out u (List.mem_of_mem_drop hu)) (by omega) (by omega) ?_; intro w2 hB2 hg2))
    have hcl := hclh.out w2 hB2
    go_wp2
    go_ret
    exact hpo.out _ ⟨hB2, hg2⟩
end
end Go.Proofs.YtenghpgnhmglpaaDoor
