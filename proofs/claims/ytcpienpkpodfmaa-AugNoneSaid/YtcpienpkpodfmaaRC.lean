/- The document's own row of ids: all ids; a row that owns its memory. No condition but that it isn't long. -/
import Derived.Test.YtcpienpkpodfmaaRB
import Derived.Test.YtcpienpkpodfmaaAR
import Derived.Deep.AppendLies
namespace Go.Proofs.Ytcpienpkpodfmaa
open Go.RowKit Go.Shelf
set_option linter.unusedVariables false
section
variable (R : Nat) (L : List It) (w : World)
set_option maxRecDepth 100000 in
set_option maxHeartbeats 2000000 in
theorem rw_ids (hl : L.length ≤ 1000) (h : Rw w R L) : Calls Try.prog 36 #[.pointer (some ⟨R, 0, none⟩)] w fun e w' => ∃ v, e = .returned v ∧ IntS w' v (idsI L) ∧ Below w.heap.size w w' := by
  obtain ⟨i0, hi, hz0, hz1, hz2⟩ := info_parts infoI
  obtain ⟨a, c, hR, hLc, hI⟩ := h
  have hce := Lib.hid (row_cells hI)
  have hnc : (L.length : Int) ≤ (c : Int) := by omega
  clear hI
  go_enter Try.func36, Try.ntmps36
  go_wp2
  go_loopw [3, 4] (fun s3 s4 wr => ∃ (k : Nat) (v : Value), v = s3 ∧ s4 = .int .i64 k ∧ k ≤ L.length ∧ wr.ownsRow w.heap.size 3 1 v k (idsV (L.take k)) ∧ Below w.heap.size w wr) (fun s3 s4 _ => L.length - (intOf s4).toNat)
  case atStart => exact ⟨0, _, rfl, rfl, by omega, World.ownsRow_nil _ _ _ _, Below.refl _ _⟩
  case round =>
    obtain ⟨k, v, rfl, rfl, hk, hown, T⟩ := hrel
    have cR : wr.cell? ⟨R, 0, none⟩ = some (.slice a L.length c) := (hR.below T).cell 0
    by_cases hlt : k < L.length
    · have i1 : (k : Int) < (L.length : Int) := by omega
      have i2 : (0 : Int) ≤ (k : Int) := by omega
      obtain ⟨g, oo, rfl, hg, x1, x2, x3⟩ := hce.out k wr hlt T
      have es : L.take (k + 1) = L.take k ++ [L[k]] := by rw [List.take_succ_eq_append_getElem hlt]
      have es2 : idsV (L.take (k + 1)) = idsV (L.take k) ++ [eI (L[k]).1.2] := by rw [es]; unfold idsV; rw [List.map_append]; rfl
      generalize (L[k]).1.2 = x at *
      generalize idsV (L.take k) = U at *
      have hmx : ∀ k, k ≤ 1001 → k ≤ maxLen := fun k hk => Nat.le_trans hk (by decide)
      have hs := T.size
      have hfin : ∀ w1 : World, (wr.alloc (.cells #[eI x] 3)).grownBy w1 v.ownBlock → Below w.heap.size w w1 := fun w1 hg => (T.alloc T.size (.cells #[eI x] 3)).grown hg (by simp; omega) (fun j hj => (hown.lt j hj).1)
      have hown2 := Lib.hid (hown.alloc (.cells #[eI x] 3))
      have hmx2 : k + 1 ≤ maxLen := hmx _ (by omega)
      have hby : (k + 1) * 8 ≤ 140737488355328 := by omega
      clear x2 x3 es hown
      replace hfin := Lib.hid hfin
      go_wp2_with (at_builtin; refine wpList_append_own _ rfl _ _ 48 rfl w.heap.size 3 i0 (.int .i64 0) 1 8 Try.underlying48 hi hz0 hz1 hz2 rfl (by decide) v k U rfl hown2.out ⟨wr.heap.size, 0, none⟩ 1 1 [eI x] rfl rfl (cell_one_new _ _ _) (by simp [Value.oneCell']) hmx2 hby (by simp; omega) ?_; intro v' w1 hown' hgrow _; have T2 := hfin.out w1 hgrow)
      exact ⟨⟨k + 1, _, rfl, rfl, by omega, by rw [es2]; exact hown', T2⟩, by simp [intOf]; omega⟩
    · obtain rfl : k = L.length := by omega
      have i1 : ¬ (L.length : Int) < (L.length : Int) := by omega
      rw [List.take_length] at hown
      have hS := IntS.of_owns hown
      clear hown
      go_wp2_with fail
      go_ret
      exact ⟨_, rfl, hS, T⟩
end
/-- Items, cell by cell. -/
def itC : List It → List Value
  | [] => []
  | c :: l => eI c.1.2 :: eU c.1.1 :: eU c.2 :: itC l
theorem itC_length (xs : List It) : (itC xs).length = xs.length * 3 := by
  induction xs with
  | nil => rfl
  | cons c l ih => simp [itC, ih]; omega
theorem itC_append (a b : List It) : itC (a ++ b) = itC a ++ itC b := by
  induction a with
  | nil => rfl
  | cons c l ih => simp [itC, ih]
theorem itC_take (xs : List It) : ∀ k, (itC xs).take (k * 3) = itC (xs.take k) := by
  induction xs with
  | nil => intro k; simp [itC]
  | cons c l ih =>
    intro k
    cases k with
    | zero => rfl
    | succ k =>
      have e : (k + 1) * 3 = k * 3 + 1 + 1 + 1 := by omega
      rw [e]
      simp [itC, ih]
theorem itC_get (xs : List It) (i : Nat) (h : i < xs.length) : (itC xs)[i * 3]? = some (eI xs[i].1.2) ∧ (itC xs)[i * 3 + 1]? = some (eU xs[i].1.1) ∧ (itC xs)[i * 3 + 2]? = some (eU xs[i].2) := by
  induction xs generalizing i with
  | nil => simp at h
  | cons c l ih =>
    cases i with
    | zero => simp [itC]
    | succ i =>
      have hi : i < l.length := by simpa using h
      have e0 : (i + 1) * 3 = i * 3 + 1 + 1 + 1 := by omega
      have e2 : i * 3 + 1 + 1 + 1 + 2 = i * 3 + 2 + 1 + 1 + 1 := by omega
      rw [e0, e2]
      simpa [itC] using ih i hi
theorem itC_one (xs : List It) : ∀ u ∈ itC xs, u.oneCell' = true := by
  induction xs with
  | nil => simp [itC]
  | cons c l ih =>
    intro u hu
    simp only [itC, List.mem_cons] at hu
    rcases hu with rfl | rfl | rfl | hu
    · rfl
    · rfl
    · rfl
    · exact ih u hu
/-- The cells of items that lie somewhere. -/
theorem ItR.flat {w : World} {g o : Nat} {L : List It} (h : ItR w (some ⟨g, o, none⟩) L) : ∀ j u, (itC L)[j]? = some u → w.cell? ((⟨g, o, none⟩ : Addr).add j) = some u := by
  intro j u hu
  have hadd : (⟨g, o, none⟩ : Addr).add j = ⟨g, o + j, none⟩ := by unfold Addr.add; split <;> simp_all
  rw [hadd]
  rcases h with rfl | ⟨g', o', e, hg, h⟩
  · simp [itC] at hu
  cases e
  have hlt : j < L.length * 3 := by
    rw [← itC_length]
    exact (List.getElem?_eq_some_iff.1 hu).1
  have hi : j / 3 < L.length := by omega
  obtain ⟨g0, g1, g2⟩ := itC_get L (j / 3) hi
  obtain ⟨k0, k1, k2⟩ := h (j / 3) hi
  rcases (show j % 3 = 0 ∨ j % 3 = 1 ∨ j % 3 = 2 by omega) with r | r | r
  · have e : j / 3 * 3 = j := by omega
    rw [e] at g0 k0
    rw [hu] at g0; cases g0; exact k0
  · have e : j / 3 * 3 + 1 = j := by omega
    rw [e] at g1; rw [Nat.add_assoc, e] at k1
    rw [hu] at g1; cases g1; exact k1
  · have e : j / 3 * 3 + 2 = j := by omega
    rw [e] at g2; rw [Nat.add_assoc, e] at k2
    rw [hu] at g2; cases g2; exact k2
theorem infoT : (Try.prog.info? 76).map (fun i => (i.zero, i.size, i.bytes)) = some (some (.agg #[.int .i64 0, .int .u64 0, .int .u64 0]), 3, 24) := by kernel_rfl
/-- Block R is a row of the items L, which lie in a block of its own behind m. -/
def RwO (W : World) (m R : Nat) (L : List It) : Prop := m ≤ R ∧ ∃ v : Value, Box W R #[v] 28 ∧ W.ownsRow m 76 3 v L.length (itC L)
theorem itC_row {w : World} {m g cap : Nat} {L : List It} (h : w.ownsRow m 76 3 (.slice (some ⟨g, 0, none⟩) L.length cap) L.length (itC L)) : ItR w (some ⟨g, 0, none⟩) L := by
  have hg : g < w.heap.size := by
    rcases h.2 with ⟨e, _⟩ | ⟨g', cap', cur, e, hb, hg, _⟩
    · cases e
    · cases e; exact (Array.getElem?_eq_some_iff.1 hg).1
  refine .inr ⟨g, 0, rfl, hg, fun i hi => ?_⟩
  obtain ⟨g0, g1, g2⟩ := itC_get L i hi
  have hadd : ∀ j, (⟨g, 0, none⟩ : Addr).add j = ⟨g, 0 + j, none⟩ := fun j => by unfold Addr.add; split <;> simp_all
  have c0 := h.cells (g := g) rfl _ _ g0
  have c1 := h.cells (g := g) rfl _ _ g1
  have c2 := h.cells (g := g) rfl _ _ g2
  rw [hadd] at c0 c1 c2
  exact ⟨c0, c1, c2⟩
theorem RwO.rw {W : World} {m R : Nat} {L : List It} (h : RwO W m R L) : Rw W R L := by
  obtain ⟨_, v, h1, h2⟩ := h
  have h2' := h2
  rcases h2.2 with ⟨rfl, hn⟩ | ⟨g, cap, cur, rfl, hb, hg, hc, _⟩
  · have e : L = [] := List.length_eq_zero_iff.1 hn
    subst e
    exact ⟨none, 0, h1, Nat.le_refl _, .inl rfl⟩
  · exact ⟨some ⟨g, 0, none⟩, cap, h1, hc, itC_row h2'⟩
end Go.Proofs.Ytcpienpkpodfmaa
