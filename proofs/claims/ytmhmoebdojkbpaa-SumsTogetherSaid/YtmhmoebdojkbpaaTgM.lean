/- Parts of a slice of curves; a curve laid behind a row of one's own. -/
import Derived.Test.YtmhmoebdojkbpaaAwk
namespace Go.Proofs.Ytmhmoebdojkbpaa
open Go.RowKit Go.Shelf Go.Maps W
set_option linter.unusedVariables false
theorem CvRow.take {w : World} {b o : Nat} {xs : List Cv} (h : CvRow w b o xs) (k : Nat) : CvRow w b o (xs.take k) :=
  ⟨h.1, fun i hi => by
    have h1 : i < xs.length := by rw [List.length_take] at hi; omega
    rw [List.getElem_take]
    exact h.2 i h1⟩
theorem CvRow.drop {w : World} {b o : Nat} {xs : List Cv} (h : CvRow w b o xs) (k : Nat) : CvRow w b (o + k * 3) (xs.drop k) :=
  ⟨h.1, fun i hi => by
    have h1 : k + i < xs.length := by rw [List.length_drop] at hi; omega
    rw [List.getElem_drop]
    have := h.2 (k + i) h1
    have e : o + k * 3 + i * 3 = o + (k + i) * 3 := by omega
    rw [e]
    exact this⟩
theorem three_any (w : World) (x y z : Int) : ∀ j u, [eU x, eU y, eU z][j]? = some u → (w.alloc (.cells #[eU x, eU y, eU z] 31)).cell? ((⟨w.heap.size, 0, none⟩ : Addr).add j) = some u := by
  intro j u hj
  match j, hj with
  | 0, hj => simp at hj; subst hj; simp [Addr.add]
  | 1, hj => simp at hj; subst hj; simp [Addr.add]
  | 2, hj => simp at hj; subst hj; simp [Addr.add]
theorem three_ones (x y z : Int) : ∀ u ∈ [eU x, eU y, eU z], u.oneCell' = true := by
  intro u hu
  simp at hu
  rcases hu with rfl | rfl | rfl <;> rfl
theorem rev_take {xs : List Cv} {j : Nat} (h : j < xs.length) : cvC (xs.reverse.take (j + 1)) = cvC (xs.reverse.take j) ++ [eU (xs[xs.length - 1 - j]'(by omega)).f, eU (xs[xs.length - 1 - j]'(by omega)).l, eU (xs[xs.length - 1 - j]'(by omega)).r] := by
  have h' : j < xs.reverse.length := by simpa using h
  rw [List.take_succ_eq_append_getElem h', cvC_append, List.getElem_reverse]
  rfl
end Go.Proofs.Ytmhmoebdojkbpaa
