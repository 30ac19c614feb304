/- What curves have together, and their corners: the statement's walk, by what the sort is said to do. -/
import Derived.Test.YtmhmoebdojkbpaaCrn
import Derived.Test.YtmhmoebdojkbpaaGL
namespace Go.Proofs.Ytmhmoebdojkbpaa
open Go.RowKit Go.Shelf W
set_option linter.unusedVariables false
theorem cornersP_any (m : Nat) (hsort : SortU m) (xs : List Cv) (hx : ∀ c ∈ xs, c.word) (hxl : xs.length ≤ 400) (hxm : xs.length + 1 ≤ m) (a : Option Addr) (k c : Nat) (w : World) (h : IsCvs w a k c xs) :
    Calls Try.prog 13 #[.slice a k c] w fun e w' => (∃ g o cap, e = .returned (.slice (some ⟨g, o, none⟩) (corF xs).length cap) ∧ NuRow w' g o (corF xs)) ∧ Below w.heap.size w w' := by
  obtain ⟨ys, rfl⟩ := unW_ex hx
  refine (corners_of m hsort ys a k c w (by simpa [unW] using hxl) (by simpa [unW] using hxm) h).mono ?_
  rintro e w' ⟨v, rfl, hrow, hb⟩
  obtain ⟨g, cap, rfl, _, _, hg⟩ := owns_some hrow (corF_length (unW ys)).2
  exact ⟨⟨g, 0, cap, rfl, hg, fun j hj => by rw [Nat.zero_add]; have := owns_cell hrow hj; simpa [List.getD, List.getElem?_eq_getElem hj] using this⟩, hb⟩
theorem SumsHave_by (m : Nat) (hm : 141 ≤ m) (hsort : SortU m) : ∀ (a0 : Option Addr) (n0 c0 : Nat) (xs0 : List Cv) (a1 : Int) (V : World), IsCvs V a0 n0 c0 xs0 → (∀ v ∈ xs0, v.word) → c0 ≤ maxLen → (a0 = none → n0 = 0 ∧ c0 = 0) → Word a1 → Calls Try.prog 3 #[.slice a0 n0 c0, .int .u64 a1] V fun e w' => e = .returned (.bool true) ∧ Below V.heap.size V w' := by
  intro a0 n0 c0 xs0 a1 V hI hw hc hnn ht
  by_cases hle : n0 ≤ 140
  · have hlen : xs0.length = n0 := hI.1
    subst hlen
    have hP : ∀ (a : Option Addr) (c : Nat) (w' : World), IsCvs w' a xs0.length c xs0 → Calls Try.prog 10 #[.slice a xs0.length c, .int .u64 a1] w' fun e w'' => e = .returned (.agg #[.int .u64 (sW xs0 a1 / 18446744073709551616), .int .u64 (sW xs0 a1 % 18446744073709551616)]) ∧ Below w'.heap.size w' w'' :=
      fun a c w' h => atSum_any xs0 a1 a _ c w' hw ht (by omega) h
    have hCo := fun (a : Option Addr) (c : Nat) (w' : World) (h : IsCvs w' a xs0.length c xs0) => cornersP_any m hsort xs0 hw (by omega) (by omega) a xs0.length c w' h
    by_cases hpos : 0 < xs0.length
    · rcases hI.2.2 with h0 | ⟨b, o, rfl, hrow⟩
      · omega
      · exact SumsHave_some xs0 b o c0 a1 V hw ht hle hpos hrow hI.2.1 hP hCo
    · have ex : xs0 = [] := List.eq_nil_of_length_eq_zero (by omega)
      have e0 : xs0.length = 0 := by omega
      cases a0 with
      | none =>
        have := SumsHave_nil xs0 ex c0 a1 V ht hP hCo
        rw [e0]; exact this
      | some ad =>
        have := SumsHave_empty xs0 ad ex c0 a1 V ht hP hCo
        rw [e0]; exact this
  · exact SumsHave_long a0 n0 c0 a1 V (by omega)
end Go.Proofs.Ytmhmoebdojkbpaa
