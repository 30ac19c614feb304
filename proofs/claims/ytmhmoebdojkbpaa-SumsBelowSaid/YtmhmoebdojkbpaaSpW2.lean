/- What is spare, and below: the statement's walk. -/
import Derived.Test.YtmhmoebdojkbpaaBlQ
import Derived.Test.YtmhmoebdojkbpaaSrt12
import Derived.Test.YtmhmoebdojkbpaaGL
namespace Go.Proofs.Ytmhmoebdojkbpaa
open Go.RowKit Go.Shelf W
set_option linter.unusedVariables false
theorem spare_ex {xs : List Cv} {rate : Int} (h : kept xs rate) : ∃ n, IsSpare xs rate n := by
  have h0 : kept (xs ++ [⟨0, 0, 0⟩]) rate := kept_of_le (fun t t0 t1 => by rw [sW_line (by omega) t0]; omega) h
  have key : ∀ m : Nat, m ≤ 1048576 → ∃ n : Nat, n ≤ m ∧ kept (xs ++ [⟨0, 0, (n : Int)⟩]) rate ∧ (n = m ∨ ¬ kept (xs ++ [⟨0, 0, (n : Int) + 1⟩]) rate) := by
    intro m
    induction m with
    | zero => intro _; exact ⟨0, Nat.le_refl _, h0, .inl rfl⟩
    | succ m ih =>
      intro hm
      obtain ⟨n, h1, h2, h3⟩ := ih (by omega)
      rcases h3 with rfl | h3
      · by_cases hk : kept (xs ++ [⟨0, 0, (n : Int) + 1⟩]) rate
        · exact ⟨n + 1, Nat.le_refl _, by simpa using hk, .inl rfl⟩
        · exact ⟨n, by omega, h2, .inr hk⟩
      · exact ⟨n, by omega, h2, .inr h3⟩
  obtain ⟨n, h1, h2, h3⟩ := key 1048576 (Nat.le_refl _)
  exact ⟨n, by omega, by omega, h2, by rcases h3 with h3 | h3; exact .inl (by omega); exact .inr h3⟩
theorem spare_kept {xs : List Cv} {rate n : Int} (h : IsSpare xs rate n) : kept xs rate :=
  kept_of_le (fun t t0 t1 => by rw [sW_line h.2.1 t0]; have := Int.mul_nonneg h.1 t0; omega) h.2.2.1
theorem spareP_any (m : Nat) (hsort : SortU m) (xs : List Cv) (hx : ∀ c ∈ xs, c.word) (hxl : xs.length ≤ 400) (hxm : xs.length + 1 ≤ m) (rate n : Int) (hr : Word rate) (a : Option Addr) (k c : Nat) (w : World) (h : IsCvs w a k c xs) (hk : kept xs rate) (hn : IsSpare xs rate n) :
    Calls Try.prog 19 #[.slice a k c, eU rate] w fun e w' => e = .returned (.tuple #[eU n, .bool true]) ∧ Below w.heap.size w w' := by
  obtain ⟨ys, rfl⟩ := unW_ex hx
  refine (spareP_of m hsort ys (by simpa [unW] using hxl) (by simpa [unW] using hxm) rate hr a k c w h).mono ?_
  rintro e w' ⟨⟨q, hq, rfl⟩ | ⟨hno, _⟩, hb⟩
  · rw [hq.unique hn]; exact ⟨rfl, hb⟩
  · exact absurd hk hno
theorem spareP_off (m : Nat) (hsort : SortU m) (xs : List Cv) (hx : ∀ c ∈ xs, c.word) (hxl : xs.length ≤ 400) (hxm : xs.length + 1 ≤ m) (rate : Int) (hr : Word rate) (a : Option Addr) (k c : Nat) (w : World) (h : IsCvs w a k c xs) (hk : ¬ kept xs rate) :
    Calls Try.prog 19 #[.slice a k c, eU rate] w fun e w' => e = .returned (.tuple #[eU 0, .bool false]) ∧ Below w.heap.size w w' := by
  obtain ⟨ys, rfl⟩ := unW_ex hx
  refine (spareP_of m hsort ys (by simpa [unW] using hxl) (by simpa [unW] using hxm) rate hr a k c w h).mono ?_
  rintro e w' ⟨⟨q, hq, rfl⟩ | ⟨hno, rfl⟩, hb⟩
  · exact absurd (spare_kept hq) hk
  · exact ⟨rfl, hb⟩
theorem SumsSpare_walk : ∀ (a0 : Option Addr) (n0 c0 : Nat) (xs0 : List Cv) (a1 : Int) (a2 b2 c2 : Int) (a3 b3 c3 : Int) (V : World), IsCvs V a0 n0 c0 xs0 → (∀ v ∈ xs0, v.word) → c0 ≤ maxLen → (a0 = none → n0 = 0 ∧ c0 = 0) → Word a1 → Word a2 → Word b2 → Word c2 → Word a3 → Word b3 → Word c3 → Calls Try.prog 5 #[.slice a0 n0 c0, .int .u64 a1, .agg #[.int .u64 a2, .int .u64 b2, .int .u64 c2], .agg #[.int .u64 a3, .int .u64 b3, .int .u64 c3]] V fun e w' => e = .returned (.bool true) ∧ Below V.heap.size V w' := by
  intro a0 n0 c0 xs0 a1 a2 b2 c2 a3 b3 c3 V hI hw hc hn hr h2 h3 h4 h5 h6 h7
  by_cases hle : n0 ≤ 8
  · have hlen : xs0.length = n0 := hI.1
    have hB := fun w' => belowP_any 12 sort12 (by omega) a2 b2 c2 a3 b3 c3 w' h2 h3 h4 h5 h6 h7
    have hBR := fun w' => kBelow_any a2 b2 c2 a3 b3 c3 w' h2 h3 h4 h5 h6 h7
    by_cases hk : kept xs0 a1
    · obtain ⟨N, hN⟩ := spare_ex hk
      exact SumsSpare_core a0 n0 c0 a1 a2 b2 c2 a3 b3 c3 N true _ V hle (fun w' hb => spareP_any 12 sort12 xs0 hw (by omega) (by omega) a1 N hr a0 n0 c0 w' (hI.below hb) hk hN) (fun w' hb => kSpare_any xs0 a1 N a0 n0 c0 w' hw hr (by omega) (hI.below hb) hk hN) hB hBR
    · exact SumsSpare_core a0 n0 c0 a1 a2 b2 c2 a3 b3 c3 0 false _ V hle (fun w' hb => spareP_off 12 sort12 xs0 hw (by omega) (by omega) a1 hr a0 n0 c0 w' (hI.below hb) hk) (fun w' hb => kSpare_off xs0 a1 a0 n0 c0 w' hw hr (by omega) (hI.below hb) hk) hB hBR
  · exact SumsSpare_long a0 n0 c0 a1 a2 b2 c2 a3 b3 c3 V (by omega)
end Go.Proofs.Ytmhmoebdojkbpaa
