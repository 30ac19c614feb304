/- The document's own row of items, and what asks it: Less, Find, Least. No condition. -/
import Derived.Test.YtjfpemkdidoacaaVC
namespace Go.Proofs.Ytjfpemkdidoacaa
open Go.RowKit Go.Shelf
set_option linter.unusedVariables false
/-- Items lie behind an address. -/
def ItR (W : World) (a : Option Addr) (L : List It) : Prop := L = [] ∨ ∃ g o, a = some ⟨g, o, none⟩ ∧ g < W.heap.size ∧ ∀ i (h : i < L.length), W.cell? ⟨g, o + i * 3, none⟩ = some (.int .u64 (L[i]).1.1) ∧ W.cell? ⟨g, o + i * 3 + 1, none⟩ = some (.int .i64 (L[i]).1.2) ∧ W.cell? ⟨g, o + i * 3 + 2, none⟩ = some (.int .u64 (L[i]).2)
/-- Block R is a row of the items L. -/
def Rw (W : World) (R : Nat) (L : List It) : Prop := ∃ (a : Option Addr) (c : Nat), Box W R #[.slice a L.length c] 28 ∧ L.length ≤ c ∧ ItR W a L
theorem ItR.below {W w : World} {a : Option Addr} {L : List It} (h : ItR W a L) (hb : Below W.heap.size W w) : ItR w a L := by
  rcases h with h | ⟨g, o, e, hg, h⟩
  · exact .inl h
  · refine .inr ⟨g, o, e, Nat.lt_of_lt_of_le hg hb.size, fun i hi => ?_⟩
    obtain ⟨h1, h2, h3⟩ := h i hi
    exact ⟨(hb.cell (p := ⟨g, _, none⟩) hg).trans h1, (hb.cell (p := ⟨g, _, none⟩) hg).trans h2, (hb.cell (p := ⟨g, _, none⟩) hg).trans h3⟩
theorem Rw.below {W w : World} {R : Nat} {L : List It} (h : Rw W R L) (hb : Below W.heap.size W w) : Rw w R L := by
  obtain ⟨a, c, h1, h2, h3⟩ := h
  exact ⟨a, c, h1.below hb, h2, h3.below hb⟩
theorem rless_any (k x : Ky) (w : World) : Calls Try.prog 44 #[ky k, ky x] w fun e w' => e = .returned (.bool (decide (kLt k x))) ∧ Below w.heap.size w w' := by
  obtain ⟨k1, k2⟩ := k
  obtain ⟨x1, x2⟩ := x
  by_cases h : k1 = x1
  · subst h
    have e : decide (kLt (k1, k2) (k1, x2)) = decide (k2 < x2) := by simp [kLt]
    rw [e]
    clear e
    go_enter Try.func44, Try.ntmps44
    go_wp2
    go_ret
    exact ⟨rfl, up2 _ _ _⟩
  · have e : decide (kLt (k1, k2) (x1, x2)) = decide (k1 < x1) := by simp [kLt, h]
    rw [e]
    clear e
    have h1 : (k1 != x1) = true := by simpa using h
    go_enter Try.func44, Try.ntmps44
    go_wp2
    go_ret
    exact ⟨rfl, up2 _ _ _⟩
theorem fnd_drop {y : Int} {L : List It} {k : Nat} (h : k < L.length) : fnd y (L.drop k) = if (L[k]).2 ≤ y then some L[k] else fnd y (L.drop (k + 1)) := by
  unfold fnd
  rw [List.drop_eq_getElem_cons h, List.find?_cons]
  by_cases q : (L[k]).2 ≤ y <;> simp [q]
set_option maxRecDepth 100000 in
set_option maxHeartbeats 2000000 in
theorem rw_find (R : Nat) (y : Int) (L : List It) (w : World) (hl : L.length ≤ 100000) (h : Rw w R L) : Calls Try.prog 24 #[.pointer (some ⟨R, 0, none⟩), eU y] w fun e w' => e = .returned (fstV (fnd y L)) ∧ Below w.heap.size w w' := by
  obtain ⟨a, c, hR, hLc, hI⟩ := h
  have hc : ∀ (k : Nat) w', (hk : k < L.length) → Below w.heap.size w w' → ∃ g o, a = some ⟨g, o, none⟩ ∧ g < w.heap.size ∧ w'.cell? ⟨g, o + k * 3, none⟩ = some (.int .u64 (L[k]).1.1) ∧ w'.cell? ⟨g, o + k * 3 + 1, none⟩ = some (.int .i64 (L[k]).1.2) ∧ w'.cell? ⟨g, o + k * 3 + 2, none⟩ = some (.int .u64 (L[k]).2) := fun k w' hk T => by
    rcases hI.below T with h3 | ⟨g, o, e, hg, h3⟩
    · rw [h3] at hk; simp at hk
    · rcases hI with h4 | ⟨g', o', e', hg', _⟩
      · rw [h4] at hk; simp at hk
      · rw [e] at e'; cases e'; exact ⟨g, o, e, hg', h3 k hk⟩
  have b1 := Box.new w 32 #[eU 0, eI 0]
  have T0 := up1 w (.cells #[eU 0, eI 0] 32)
  obtain ⟨F, hF⟩ : ∃ F, fnd y L = F := ⟨_, rfl⟩
  rw [hF]
  have hF0 := Lib.hid hF
  have hce := Lib.hid hc
  have hnc : (L.length : Int) ≤ (c : Int) := by omega
  clear hc hI hF
  obtain ⟨W0, hW0⟩ : ∃ v, w.alloc (.cells #[eU 0, eI 0] 32) = v := ⟨_, rfl⟩
  rw [hW0] at b1 T0
  go_enter Try.func24, Try.ntmps24
  go_wp2
  go_loopw [6] (fun s6 wr => ∃ k : Nat, s6 = .int .i64 k ∧ k ≤ L.length ∧ Hid (fnd y (L.drop k) = F) ∧ Box wr w.heap.size #[eU 0, eI 0] 32 ∧ Below w.heap.size w wr) (fun s6 _ => L.length - (intOf s6).toNat)
  case atStart => exact ⟨0, rfl, by omega, Lib.hid (by simpa using hF0.out), by first | exact b1 | (rw [hW0]; exact b1), by first | exact T0 | (rw [hW0]; exact T0)⟩
  case round =>
    clear hF0 b1 T0 hW0
    obtain ⟨k, rfl, hk, hf, B, T⟩ := hrel
    have cR : wr.cell? ⟨R, 0, none⟩ = some (.slice a L.length c) := (hR.below T).cell 0
    by_cases hlt : k < L.length
    · have i1 : (k : Int) < (L.length : Int) := by omega
      have i2 : (0 : Int) ≤ (k : Int) := by omega
      obtain ⟨g, o, rfl, hg, x1, x2, x3⟩ := hce.out k wr hlt T
      have hf' := hf.out
      rw [fnd_drop hlt] at hf'
      generalize L[k] = x at *
      have f0 := B.thaw 0
      have f1 := B.thaw 1
      have l0 := B.lt
      obtain ⟨p0, p1⟩ := kyC (k := (0, 0)) B
      by_cases hq : x.2 ≤ y
      · rw [if_pos hq] at hf'
        subst hf'
        have q := (setKey (k := (0, 0)) B x.1)
        have qT := (T.setCell (p := ⟨w.heap.size, 0, none⟩) (Nat.le_refl _) (eU x.1.1)).setCell (p := ⟨w.heap.size, 1, none⟩) (Nat.le_refl _) (eI x.1.2)
        obtain ⟨q0, q1⟩ := kyC q
        go_wp2_with fail
        exact (show bodyPost Try.prog Try.f24 (fun e w' => e = .returned (fstV (some x)) ∧ Below w.heap.size w w') .ret _ _ from bodyPost_ret (v := .tuple #[.agg #[eU x.1.1, eI x.1.2], .bool true]) (by simp [results, Try.results24, go_sem, q0, q1]) rfl ⟨rfl, qT⟩)
      · rw [if_neg hq] at hf'
        replace hf' := Lib.hid hf'
        go_wp2_with fail
        exact ⟨⟨k + 1, rfl, by omega, hf', B, T⟩, by simp [intOf]; omega⟩
    · obtain rfl : k = L.length := by omega
      have i1 : ¬ (L.length : Int) < (L.length : Int) := by omega
      have hf' := hf.out
      rw [List.drop_length] at hf'
      have hf' : none = F := hf'
      subst hf'
      have f0 := B.thaw 0
      have f1 := B.thaw 1
      have l0 := B.lt
      obtain ⟨p0, p1⟩ := kyC (k := (0, 0)) B
      have q := (setKey (k := (0, 0)) B (0, 0))
      have qT := (T.setCell (p := ⟨w.heap.size, 0, none⟩) (Nat.le_refl _) (eU 0)).setCell (p := ⟨w.heap.size, 1, none⟩) (Nat.le_refl _) (eI 0)
      obtain ⟨q0, q1⟩ := kyC q
      go_wp2_with fail
      exact (show bodyPost Try.prog Try.f24 (fun e w' => e = .returned (fstV none) ∧ Below w.heap.size w w') .ret _ _ from bodyPost_ret (v := .tuple #[.agg #[eU 0, eI 0], .bool false]) (by simp [results, Try.results24, go_sem, q0, q1]) rfl ⟨rfl, qT⟩)
end Go.Proofs.Ytjfpemkdidoacaa
