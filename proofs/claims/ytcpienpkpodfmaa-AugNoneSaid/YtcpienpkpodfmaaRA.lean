/- The document's own row of ids: what asks it. No condition but that it isn't long. -/
import Derived.Test.YtcpienpkpodfmaaAI
import Derived.Maps.AppendAt
namespace Go.Proofs.Ytcpienpkpodfmaa
open Go.RowKit Go.Shelf
set_option linter.unusedVariables false
/-- Items lie behind an address. -/
def ItR (W : World) (a : Option Addr) (L : List It) : Prop := L = [] ∨ ∃ g o, a = some ⟨g, o, none⟩ ∧ g < W.heap.size ∧ ∀ i (h : i < L.length), W.cell? ⟨g, o + i * 3, none⟩ = some (.int .i64 (L[i]).1.2) ∧ W.cell? ⟨g, o + i * 3 + 1, none⟩ = some (.int .u64 (L[i]).1.1) ∧ W.cell? ⟨g, o + i * 3 + 2, none⟩ = some (.int .u64 (L[i]).2)
/-- Block R is a row of the items L. -/
def Rw (W : World) (R : Nat) (L : List It) : Prop := ∃ (a : Option Addr) (c : Nat), Box W R #[.slice a L.length c] 28 ∧ L.length ≤ c ∧ ItR W a L
theorem ItR.below {W w : World} {a : Option Addr} {L : List It} (h : ItR W a L) (hb : Below W.heap.size W w) : ItR w a L := by
  rcases h with h | ⟨g, o, e, hg, h⟩
  · exact .inl h
  · refine .inr ⟨g, o, e, Nat.lt_of_lt_of_le hg hb.size, fun i hi => ?_⟩
    obtain ⟨h1, h2, h3⟩ := h i hi
    exact ⟨(hb.cell (p := ⟨g, _, none⟩) hg).trans h1, (hb.cell (p := ⟨g, _, none⟩) hg).trans h2, (hb.cell (p := ⟨g, _, none⟩) hg).trans h3⟩
theorem Rw.below {W w : World} {R : Nat} {L : List It} (h : Rw W R L) (hb : Below W.heap.size W w) : Rw w R L := by
  obtain ⟨a, c, h1, h2, h3⟩ := h
  exact ⟨a, c, h1.below hb, h2, h3.below hb⟩
/-- What lies at each place. -/
theorem row_cells {w : World} {a : Option Addr} {L : List It} (hI : ItR w a L) : ∀ (k : Nat) w', (hk : k < L.length) → Below w.heap.size w w' → ∃ g o, a = some ⟨g, o, none⟩ ∧ g < w.heap.size ∧ w'.cell? ⟨g, o + k * 3, none⟩ = some (.int .i64 (L[k]).1.2) ∧ w'.cell? ⟨g, o + k * 3 + 1, none⟩ = some (.int .u64 (L[k]).1.1) ∧ w'.cell? ⟨g, o + k * 3 + 2, none⟩ = some (.int .u64 (L[k]).2) := fun k w' hk T => by
  rcases hI.below T with h3 | ⟨g, o, e, hg, h3⟩
  · rw [h3] at hk; simp at hk
  · rcases hI with h4 | ⟨g', o', e', hg', _⟩
    · rw [h4] at hk; simp at hk
    · rw [e] at e'; cases e'; exact ⟨g, o, e, hg', h3 k hk⟩
theorem upto_snoc (q : Int) (A : List It) (x : It) : upto q (A ++ [x]) = if x.1.1 ≤ q then upto q A ++ [x] else upto q A := by
  unfold upto
  rw [List.filter_append]
  by_cases h : x.1.1 ≤ q <;> simp [h]
theorem low_snoc {A : List It} (x : It) (h : A ≠ []) : low (A ++ [x]) = mn (low A) (mkO x) := by rw [low_app h (by simp)]; rfl
theorem fnd_drop {y : Int} {L : List It} {k : Nat} (h : k < L.length) : fnd y (L.drop k) = if (L[k]).2 ≤ y then some L[k] else fnd y (L.drop (k + 1)) := by
  unfold fnd
  rw [List.drop_eq_getElem_cons h, List.find?_cons]
  by_cases q : (L[k]).2 ≤ y <;> simp [q]
/-- Where an id stands. -/
def atA (i : Int) (L : List It) : Option Nat := L.findIdx? fun a => decide (a.1.2 = i)
def atV : Option Nat → Int
  | none => -1
  | some i => (i : Int)
theorem atA_drop {i : Int} {L : List It} {j : Nat} (h : j < L.length) : (atA i (L.drop j)).map (· + j) = if (L[j]).1.2 = i then some j else (atA i (L.drop (j + 1))).map (· + (j + 1)) := by
  unfold atA
  rw [List.drop_eq_getElem_cons h, List.findIdx?_cons]
  by_cases q : (L[j]).1.2 = i
  · simp [q]
  · simp only [q, decide_false, if_false, Bool.false_eq_true, Option.map_map]
    congr 1
    funext i
    simp; omega
section
variable (R : Nat) (L : List It) (w : World)
set_option maxRecDepth 100000 in
set_option maxHeartbeats 2000000 in
theorem rw_at (m : Int) (hl : L.length ≤ 100000) (h : Rw w R L) : Calls Try.prog 42 #[.pointer (some ⟨R, 0, none⟩), eI m] w fun e w' => e = .returned (eI (atV (atA m L))) ∧ w = w' := by
  obtain ⟨a, c, hR, hLc, hI⟩ := h
  have hce := Lib.hid (row_cells hI)
  have hnc : (L.length : Int) ≤ (c : Int) := by omega
  have cR : w.cell? ⟨R, 0, none⟩ = some (.slice a L.length c) := hR.cell 0
  obtain ⟨F, hF⟩ : ∃ F, atA m L = F := ⟨_, rfl⟩
  rw [hF]
  have hF0 := Lib.hid hF
  clear hI hF hR
  go_enter Try.func42, Try.ntmps42
  go_wp2
  go_loopw [5] (fun s5 wr => ∃ k : Nat, s5 = .int .i64 k ∧ k ≤ L.length ∧ Hid ((atA m (L.drop k)).map (· + k) = F) ∧ wr = w) (fun s5 _ => L.length - (intOf s5).toNat)
  case atStart => exact ⟨0, rfl, by omega, Lib.hid (by have := hF0.out; simp [this]), rfl⟩
  case round =>
    clear hF0
    obtain ⟨k, rfl, hk, hf, rfl⟩ := hrel
    by_cases hlt : k < L.length
    · have i1 : (k : Int) < (L.length : Int) := by omega
      have i2 : (0 : Int) ≤ (k : Int) := by omega
      obtain ⟨g, o, rfl, hg, x1, x2, x3⟩ := hce.out k wr hlt (Below.refl _ _)
      have hf' := hf.out
      rw [atA_drop hlt] at hf'
      generalize L[k] = x at *
      by_cases hq : x.1.2 = m
      · rw [if_pos hq] at hf'
        subst hf'
        have e2 : (x.1.2 == m) = true := by simp [hq]
        go_wp2_with fail
        go_ret
        exact ⟨rfl, rfl⟩
      · rw [if_neg hq] at hf'
        replace hf' := Lib.hid hf'
        have e2 : (x.1.2 == m) = false := by simpa using hq
        go_wp2_with fail
        exact ⟨⟨k + 1, rfl, by omega, hf', by first | rfl | trivial⟩, by simp [intOf]; omega⟩
    · obtain rfl : k = L.length := by omega
      have i1 : ¬ (L.length : Int) < (L.length : Int) := by omega
      have hf' := hf.out
      rw [List.drop_length] at hf'
      have hf' : none = F := hf'
      subst hf'
      go_wp2_with fail
      go_ret
      exact ⟨rfl, rfl⟩
theorem atA_some {m : Int} {L : List It} {k : Nat} (h : atA m L = some k) : ∃ hk : k < L.length, getA m L = some L[k] := by
  unfold atA at h
  obtain ⟨hk, h1, h2⟩ := List.findIdx?_eq_some_iff_getElem.1 h
  refine ⟨hk, ?_⟩
  unfold getA
  rw [List.find?_eq_some_iff_getElem]
  exact ⟨h1, k, hk, rfl, fun j hj => by have := h2 j hj; simpa using this⟩
theorem atA_none {m : Int} {L : List It} (h : atA m L = none) : getA m L = none := by
  unfold atA at h
  unfold getA
  rw [List.findIdx?_eq_none_iff] at h
  rw [List.find?_eq_none]
  intro x hx
  simpa using h x hx
set_option maxRecDepth 100000 in
set_option maxHeartbeats 2000000 in
theorem rw_get (m : Int) (hl : L.length ≤ 100000) (h : Rw w R L) : Calls Try.prog 31 #[.pointer (some ⟨R, 0, none⟩), eI m] w fun e w' => e = .returned (gotV (getA m L)) ∧ Below w.heap.size w w' := by
  have hA := rw_at R L w m hl h
  obtain ⟨a, c, hR, hLc, hI⟩ := h
  have cR : w.cell? ⟨R, 0, none⟩ = some (.slice a L.length c) := hR.cell 0
  cases hq : atA m L with
  | none =>
    rw [hq] at hA
    rw [atA_none hq]
    have hA : Calls Try.prog 42 #[.pointer (some ⟨R, 0, none⟩), eI m] w fun e w' => e = .returned (.int .i64 (-1)) ∧ w = w' := hA
    clear hI hR hq
    go_enter Try.func31, Try.ntmps31
    go_wp2_with (go_at_call 42; (with_reducible refine hA.mono ?_); rintro e w1 ⟨rfl, rfl⟩)
    exact bodyPost_ret (v := .tuple #[eU 0, eU 0, .bool false]) (by simp [results, Try.results31, go_sem]) rfl ⟨rfl, Below.refl _ _⟩
  | some k =>
    rw [hq] at hA
    obtain ⟨hk, hg⟩ := atA_some hq
    rw [hg]
    have hA : Calls Try.prog 42 #[.pointer (some ⟨R, 0, none⟩), eI m] w fun e w' => e = .returned (.int .i64 (k : Int)) ∧ w = w' := hA
    have i1 : (k : Int) < (L.length : Int) := by omega
    have i2 : (0 : Int) ≤ (k : Int) := by omega
    have i3 : ¬ (k : Int) < 0 := by omega
    obtain ⟨g, o, rfl, hg, x1, x2, x3⟩ := row_cells hI k w hk (Below.refl _ _)
    show Calls _ _ _ _ fun e w' => e = .returned (.tuple #[eU (L[k]).1.1, eU (L[k]).2, .bool true]) ∧ Below w.heap.size w w'
    generalize L[k] = x at *
    have hnc : (L.length : Int) ≤ (c : Int) := by omega
    clear hI hR hq
    go_enter Try.func31, Try.ntmps31
    go_upto_region 4 with (go_at_call 42; (with_reducible refine hA.mono ?_); rintro e w1 ⟨rfl, rfl⟩)
    go_quiet (fail)
    go_wp2_with fail
    exact bodyPost_ret (v := .tuple #[eU x.1.1, eU x.2, .bool true]) (by simp [results, Try.results31, go_sem]) rfl ⟨rfl, below_drewN (Below.refl _ _) _⟩
set_option maxRecDepth 100000 in
set_option maxHeartbeats 2000000 in
theorem rw_first (hl : L.length ≤ 100000) (h : Rw w R L) : Calls Try.prog 32 #[.pointer (some ⟨R, 0, none⟩)] w fun e w' => e = .returned (.tuple #[eI (kO L.head?).2, .bool L.head?.isSome]) ∧ w = w' := by
  obtain ⟨a, c, hR, hLc, hI⟩ := h
  have cR : w.cell? ⟨R, 0, none⟩ = some (.slice a L.length c) := hR.cell 0
  cases L with
  | nil =>
    have cR : w.cell? ⟨R, 0, none⟩ = some (.slice a 0 c) := cR
    go_enter Try.func32, Try.ntmps32
    go_wp2
    go_ret2
    exact ⟨rfl, rfl⟩
  | cons x C =>
    obtain ⟨g, o, rfl, hg, x1, x2, x3⟩ := row_cells hI 0 w (by simp) (Below.refl _ _)
    have x1 : w.cell? ⟨g, o, none⟩ = some (.int .i64 x.1.2) := by simpa using x1
    show Calls _ _ _ _ fun e w' => e = .returned (.tuple #[eI x.1.2, .bool true]) ∧ w = w'
    have i1 : (0 : Int) < ((x :: C).length : Int) := by have : (x :: C).length = C.length + 1 := rfl; omega
    have i2 : (((x :: C).length : Int) == 0) = false := by rw [beq_eq_false_iff_ne]; omega
    generalize (x :: C).length = m at *
    generalize x.1.2 = z at *
    clear hI hR x2 x3
    go_enter Try.func32, Try.ntmps32
    go_wp2
    go_ret2
    exact ⟨rfl, rfl⟩
set_option maxRecDepth 100000 in
set_option maxHeartbeats 2000000 in
theorem rw_within (y : Int) (hl : L.length ≤ 100000) (h : Rw w R L) : Calls Try.prog 34 #[.pointer (some ⟨R, 0, none⟩), eU y] w fun e w' => e = .returned (.tuple #[eI (kO (fnd y L)).2, .bool (fnd y L).isSome]) ∧ w = w' := by
  obtain ⟨a, c, hR, hLc, hI⟩ := h
  have hce := Lib.hid (row_cells hI)
  have hnc : (L.length : Int) ≤ (c : Int) := by omega
  have cR : w.cell? ⟨R, 0, none⟩ = some (.slice a L.length c) := hR.cell 0
  obtain ⟨F, hF⟩ : ∃ F, fnd y L = F := ⟨_, rfl⟩
  rw [hF]
  have hF0 := Lib.hid hF
  clear hI hF hR
  go_enter Try.func34, Try.ntmps34
  go_wp2
  go_loopw [6] (fun s6 wr => ∃ k : Nat, s6 = .int .i64 k ∧ k ≤ L.length ∧ Hid (fnd y (L.drop k) = F) ∧ wr = w) (fun s6 _ => L.length - (intOf s6).toNat)
  case atStart => exact ⟨0, rfl, by omega, Lib.hid (by have := hF0.out; simp [this]), rfl⟩
  case round =>
    clear hF0
    obtain ⟨k, rfl, hk, hf, rfl⟩ := hrel
    by_cases hlt : k < L.length
    · have i1 : (k : Int) < (L.length : Int) := by omega
      have i2 : (0 : Int) ≤ (k : Int) := by omega
      obtain ⟨g, o, rfl, hg, x1, x2, x3⟩ := hce.out k wr hlt (Below.refl _ _)
      have hf' := hf.out
      rw [fnd_drop hlt] at hf'
      generalize L[k] = x at *
      by_cases hq : x.2 ≤ y
      · rw [if_pos hq] at hf'
        subst hf'
        go_wp2_with fail
        go_ret2
        exact ⟨rfl, rfl⟩
      · rw [if_neg hq] at hf'
        replace hf' := Lib.hid hf'
        go_wp2_with fail
        exact ⟨⟨k + 1, rfl, by omega, hf', by first | rfl | trivial⟩, by simp [intOf]; omega⟩
    · obtain rfl : k = L.length := by omega
      have i1 : ¬ (L.length : Int) < (L.length : Int) := by omega
      have hf' := hf.out
      rw [List.drop_length] at hf'
      have hf' : none = F := hf'
      subst hf'
      go_wp2_with fail
      go_ret2
      exact ⟨rfl, rfl⟩
end
end Go.Proofs.Ytcpienpkpodfmaa
