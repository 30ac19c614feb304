/- Items, cell by cell: what an append to a row of them lays. No condition. -/
import Derived.Test.YtjfpemkdidoacaaVS
import Derived.Deep.AppendLies
namespace Go.Proofs.Ytjfpemkdidoacaa
open Go.RowKit Go.Shelf
set_option linter.unusedVariables false
/-- Items, cell by cell. -/
def itC : List It → List Value
  | [] => []
  | c :: l => eU c.1.1 :: eI c.1.2 :: eU c.2 :: itC l
theorem itC_length (xs : List It) : (itC xs).length = xs.length * 3 := by
  induction xs with
  | nil => rfl
  | cons c l ih => simp [itC, ih]; omega
theorem itC_append (a b : List It) : itC (a ++ b) = itC a ++ itC b := by
  induction a with
  | nil => rfl
  | cons c l ih => simp [itC, ih]
theorem itC_take (xs : List It) : ∀ k, (itC xs).take (k * 3) = itC (xs.take k) := by
  induction xs with
  | nil => intro k; simp [itC]
  | cons c l ih =>
    intro k
    cases k with
    | zero => rfl
    | succ k =>
      have e : (k + 1) * 3 = k * 3 + 1 + 1 + 1 := by omega
      rw [e]
      simp [itC, ih]
theorem itC_drop (xs : List It) : ∀ k, (itC xs).drop (k * 3) = itC (xs.drop k) := by
  induction xs with
  | nil => intro k; simp [itC]
  | cons c l ih =>
    intro k
    cases k with
    | zero => rfl
    | succ k =>
      have e : (k + 1) * 3 = k * 3 + 1 + 1 + 1 := by omega
      rw [e]
      simp [itC, ih]
theorem itC_get (xs : List It) (i : Nat) (h : i < xs.length) : (itC xs)[i * 3]? = some (eU xs[i].1.1) ∧ (itC xs)[i * 3 + 1]? = some (eI xs[i].1.2) ∧ (itC xs)[i * 3 + 2]? = some (eU xs[i].2) := by
  induction xs generalizing i with
  | nil => simp at h
  | cons c l ih =>
    cases i with
    | zero => simp [itC]
    | succ i =>
      have hi : i < l.length := by simpa using h
      have e0 : (i + 1) * 3 = i * 3 + 1 + 1 + 1 := by omega
      have e2 : i * 3 + 1 + 1 + 1 + 2 = i * 3 + 2 + 1 + 1 + 1 := by omega
      rw [e0, e2]
      simpa [itC] using ih i hi
theorem itC_one (xs : List It) : ∀ u ∈ itC xs, u.oneCell' = true := by
  induction xs with
  | nil => simp [itC]
  | cons c l ih =>
    intro u hu
    simp only [itC, List.mem_cons] at hu
    rcases hu with rfl | rfl | rfl | hu
    · rfl
    · rfl
    · rfl
    · exact ih u hu
/-- The cells of items that lie somewhere. -/
theorem ItR.flat {w : World} {g o : Nat} {L : List It} (h : ItR w (some ⟨g, o, none⟩) L) : ∀ j u, (itC L)[j]? = some u → w.cell? ((⟨g, o, none⟩ : Addr).add j) = some u := by
  intro j u hu
  have hadd : (⟨g, o, none⟩ : Addr).add j = ⟨g, o + j, none⟩ := by unfold Addr.add; split <;> simp_all
  rw [hadd]
  rcases h with rfl | ⟨g', o', e, hg, h⟩
  · simp [itC] at hu
  cases e
  have hlt : j < L.length * 3 := by
    rw [← itC_length]
    exact (List.getElem?_eq_some_iff.1 hu).1
  have hi : j / 3 < L.length := by omega
  obtain ⟨g0, g1, g2⟩ := itC_get L (j / 3) hi
  obtain ⟨k0, k1, k2⟩ := h (j / 3) hi
  rcases (show j % 3 = 0 ∨ j % 3 = 1 ∨ j % 3 = 2 by omega) with r | r | r
  · have e : j / 3 * 3 = j := by omega
    rw [e] at g0 k0
    rw [hu] at g0; cases g0; exact k0
  · have e : j / 3 * 3 + 1 = j := by omega
    rw [e] at g1; rw [Nat.add_assoc, e] at k1
    rw [hu] at g1; cases g1; exact k1
  · have e : j / 3 * 3 + 2 = j := by omega
    rw [e] at g2; rw [Nat.add_assoc, e] at k2
    rw [hu] at g2; cases g2; exact k2
theorem infoI : (Try.prog.info? 43).map (fun i => (i.zero, i.size, i.bytes)) = some (some (.agg #[.int .u64 0, .int .i64 0, .int .u64 0]), 3, 24) := by kernel_rfl
end Go.Proofs.Ytjfpemkdidoacaa
