/- The document's row: Least and At. No condition but that it isn't long. -/
import Derived.Test.YtjfpemkdidoacaaVR
namespace Go.Proofs.Ytjfpemkdidoacaa
open Go.RowKit Go.Shelf
set_option linter.unusedVariables false
theorem upto_snoc (q : Int) (A : List It) (x : It) : upto q (A ++ [x]) = if x.1.1 ≤ q then upto q A ++ [x] else upto q A := by
  unfold upto
  rw [List.filter_append]
  by_cases h : x.1.1 ≤ q <;> simp [h]
theorem low_snoc {A : List It} (x : It) (h : A ≠ []) : low (A ++ [x]) = min (low A) x.2 := by rw [low_app h (by simp)]; rfl
/-- What lies at each place. -/
theorem row_cells {w : World} {a : Option Addr} {L : List It} (hI : ItR w a L) : ∀ (k : Nat) w', (hk : k < L.length) → Below w.heap.size w w' → ∃ g o, a = some ⟨g, o, none⟩ ∧ g < w.heap.size ∧ w'.cell? ⟨g, o + k * 3, none⟩ = some (.int .u64 (L[k]).1.1) ∧ w'.cell? ⟨g, o + k * 3 + 1, none⟩ = some (.int .i64 (L[k]).1.2) ∧ w'.cell? ⟨g, o + k * 3 + 2, none⟩ = some (.int .u64 (L[k]).2) := fun k w' hk T => by
  rcases hI.below T with h3 | ⟨g, o, e, hg, h3⟩
  · rw [h3] at hk; simp at hk
  · rcases hI with h4 | ⟨g', o', e', hg', _⟩
    · rw [h4] at hk; simp at hk
    · rw [e] at e'; cases e'; exact ⟨g, o, e, hg', h3 k hk⟩
set_option maxRecDepth 100000 in
set_option maxHeartbeats 2000000 in
theorem rw_least (R : Nat) (q : Int) (L : List It) (w : World) (hl : L.length ≤ 100000) (h : Rw w R L) :
    Calls Try.prog 20 #[.pointer (some ⟨R, 0, none⟩), eU q] w fun e w' => e = .returned (.tuple #[eU (low (upto q L)), .bool (decide (upto q L ≠ []))]) ∧ w = w' := by
  obtain ⟨a, c, hR, hLc, hI⟩ := h
  have hce := Lib.hid (row_cells hI)
  have hnc : (L.length : Int) ≤ (c : Int) := by omega
  have cR : w.cell? ⟨R, 0, none⟩ = some (.slice a L.length c) := hR.cell 0
  clear hI hR
  go_enter Try.func20, Try.ntmps20
  go_wp2
  go_loopw [6, 7, 8] (fun s6 s7 s8 wr => ∃ (k : Nat) (o : Int) (b : Bool), s6 = .int .u64 o ∧ s7 = .bool b ∧ s8 = .int .i64 k ∧ k ≤ L.length ∧ Hid (low (upto q (L.take k)) = o ∧ decide (upto q (L.take k) ≠ []) = b) ∧ wr = w) (fun s6 s7 s8 _ => L.length - (intOf s8).toNat)
  case atStart => exact ⟨0, 0, false, rfl, rfl, rfl, by omega, Lib.hid ⟨rfl, rfl⟩, rfl⟩
  case round =>
    obtain ⟨k, o, b, rfl, rfl, rfl, hk, hf, rfl⟩ := hrel
    by_cases hlt : k < L.length
    · have i1 : (k : Int) < (L.length : Int) := by omega
      have i2 : (0 : Int) ≤ (k : Int) := by omega
      obtain ⟨g, oo, rfl, hg, x1, x2, x3⟩ := hce.out k wr hlt (Below.refl _ _)
      obtain ⟨e1, e2⟩ := hf.out
      have et : L.take (k + 1) = L.take k ++ [L[k]] := by rw [List.take_succ_eq_append_getElem hlt]
      have es := upto_snoc q (L.take k) L[k]
      rw [← et] at es
      generalize L[k] = x at *
      generalize upto q (L.take k) = U at *
      by_cases hq : x.1.1 ≤ q
      · rw [if_pos hq] at es
        cases b with
        | false =>
          have hU : U = [] := by simpa using e2
          subst hU
          have hn : Hid (low (upto q (L.take (k + 1))) = x.2 ∧ decide (upto q (L.take (k + 1)) ≠ []) = true) := Lib.hid (by rw [es]; exact ⟨rfl, rfl⟩)
          clear e1 e2 es et hf
          go_wp2_with fail
          exact ⟨⟨k + 1, x.2, true, rfl, rfl, rfl, by omega, hn, by first | rfl | trivial⟩, by simp [intOf]; omega⟩
        | true =>
          have hU : U ≠ [] := by simpa using e2
          have hs := low_snoc x hU
          rw [e1] at hs
          by_cases hv : x.2 < o
          · have hn : Hid (low (upto q (L.take (k + 1))) = x.2 ∧ decide (upto q (L.take (k + 1)) ≠ []) = true) := Lib.hid (by rw [es, hs]; exact ⟨by omega, by simp⟩)
            clear e1 e2 es et hf hs hU
            go_wp2_with fail
            exact ⟨⟨k + 1, x.2, true, rfl, rfl, rfl, by omega, hn, by first | rfl | trivial⟩, by simp [intOf]; omega⟩
          · have hn : Hid (low (upto q (L.take (k + 1))) = o ∧ decide (upto q (L.take (k + 1)) ≠ []) = true) := Lib.hid (by rw [es, hs]; exact ⟨by omega, by simp⟩)
            clear e1 e2 es et hf hs hU
            go_wp2_with fail
            exact ⟨⟨k + 1, o, true, rfl, rfl, rfl, by omega, hn, by first | rfl | trivial⟩, by simp [intOf]; omega⟩
      · rw [if_neg hq] at es
        have hn : Hid (low (upto q (L.take (k + 1))) = o ∧ decide (upto q (L.take (k + 1)) ≠ []) = b) := Lib.hid (by rw [es]; exact ⟨e1, e2⟩)
        clear e1 e2 es et hf
        have hu := undef_ne
        go_wp2_with fail
        exact ⟨⟨k + 1, o, b, rfl, rfl, rfl, by omega, hn, by first | rfl | trivial⟩, by simp [intOf]; omega⟩
    · obtain rfl : k = L.length := by omega
      have i1 : ¬ (L.length : Int) < (L.length : Int) := by omega
      obtain ⟨e1, e2⟩ := hf.out
      rw [List.take_length] at e1 e2
      subst e1 e2
      go_wp2_with fail
      go_ret2
      exact ⟨rfl, rfl⟩
/-- Where a key stands. -/
def atK (k : Ky) (L : List It) : Option Nat := L.findIdx? fun a => decide (a.1 = k)
def atV : Option Nat → Int
  | none => -1
  | some i => (i : Int)
theorem atK_drop {k : Ky} {L : List It} {j : Nat} (h : j < L.length) : (atK k (L.drop j)).map (· + j) = if (L[j]).1 = k then some j else (atK k (L.drop (j + 1))).map (· + (j + 1)) := by
  unfold atK
  rw [List.drop_eq_getElem_cons h, List.findIdx?_cons]
  by_cases q : (L[j]).1 = k
  · simp [q]
  · simp only [q, decide_false, if_false, Bool.false_eq_true, Option.map_map]
    congr 1
    funext i
    simp; omega
set_option maxRecDepth 100000 in
set_option maxHeartbeats 2000000 in
theorem rw_at (R : Nat) (m : Ky) (L : List It) (w : World) (hl : L.length ≤ 100000) (h : Rw w R L) :
    Calls Try.prog 18 #[.pointer (some ⟨R, 0, none⟩), ky m] w fun e w' => e = .returned (eI (atV (atK m L))) ∧ Below w.heap.size w w' := by
  obtain ⟨a, c, hR, hLc, hI⟩ := h
  have hce := Lib.hid (row_cells hI)
  have hnc : (L.length : Int) ≤ (c : Int) := by omega
  have b1 := Box.new w 32 #[eU m.1, eI m.2]
  have T0 := up1 w (.cells #[eU m.1, eI m.2] 32)
  obtain ⟨F, hF⟩ : ∃ F, atK m L = F := ⟨_, rfl⟩
  rw [hF]
  have hF0 := Lib.hid hF
  clear hI hF
  obtain ⟨W0, hW0⟩ : ∃ v, w.alloc (.cells #[eU m.1, eI m.2] 32) = v := ⟨_, rfl⟩
  rw [hW0] at b1 T0
  go_enter Try.func18, Try.ntmps18
  go_wp2
  go_loopw [5] (fun s5 wr => ∃ k : Nat, s5 = .int .i64 k ∧ k ≤ L.length ∧ Hid ((atK m (L.drop k)).map (· + k) = F) ∧ Box wr w.heap.size #[eU m.1, eI m.2] 32 ∧ Below w.heap.size w wr) (fun s5 _ => L.length - (intOf s5).toNat)
  case atStart => exact ⟨0, rfl, by omega, Lib.hid (by have := hF0.out; simp [this]), by first | exact b1 | (rw [hW0]; exact b1), by first | exact T0 | (rw [hW0]; exact T0)⟩
  case round =>
    clear hF0 b1 T0 hW0
    obtain ⟨k, rfl, hk, hf, B, T⟩ := hrel
    have cR : wr.cell? ⟨R, 0, none⟩ = some (.slice a L.length c) := (hR.below T).cell 0
    by_cases hlt : k < L.length
    · have i1 : (k : Int) < (L.length : Int) := by omega
      have i2 : (0 : Int) ≤ (k : Int) := by omega
      obtain ⟨g, o, rfl, hg, x1, x2, x3⟩ := hce.out k wr hlt T
      have hf' := hf.out
      rw [atK_drop hlt] at hf'
      generalize L[k] = x at *
      obtain ⟨p0, p1⟩ := kyC B
      by_cases hq : x.1 = m
      · rw [if_pos hq] at hf'
        subst hf'
        have e1 : (x.1.1 == m.1) = true := by simp [hq]
        have e2 : (x.1.2 == m.2) = true := by simp [hq]
        go_upto_region 4 with (fail)
        go_quiet (fail)
        go_wp2_with fail
        go_ret
        exact ⟨rfl, below_drewN T _⟩
      · rw [if_neg hq] at hf'
        replace hf' := Lib.hid hf'
        go_upto_region 4 with (fail)
        rcases ky_ne (k := m) (m := x.1) (fun e => hq e.symm) with ⟨h1, h2⟩ | h1
        · go_quiet (fail)
          go_wp2_with fail
          exact ⟨⟨k + 1, rfl, by omega, hf', B.below (below_drewN (Below.refl _ _) _), below_drewN T _⟩, by simp [intOf]; omega⟩
        · go_quiet (fail)
          go_wp2_with fail
          exact ⟨⟨k + 1, rfl, by omega, hf', B.below (below_drewN (Below.refl _ _) _), below_drewN T _⟩, by simp [intOf]; omega⟩
    · obtain rfl : k = L.length := by omega
      have i1 : ¬ (L.length : Int) < (L.length : Int) := by omega
      have hf' := hf.out
      rw [List.drop_length] at hf'
      have hf' : none = F := hf'
      subst hf'
      go_wp2_with fail
      go_ret
      exact ⟨rfl, T⟩
end Go.Proofs.Ytjfpemkdidoacaa
