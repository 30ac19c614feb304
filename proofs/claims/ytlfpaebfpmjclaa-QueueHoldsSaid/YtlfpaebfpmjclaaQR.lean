/- The document's own queue: a row; what its calls answer and do. No condition but that the packet's numbers are what the fields can hold. -/
import Derived.Test.YtlfpaebfpmjclaaQM
namespace Go.Proofs.Ytlfpaebfpmjclaa
open Go.RowKit
set_option linter.unusedVariables false
/-- Block B is the document's queue of the row L, which lies at v. -/
structure Rf (w : World) (B : Nat) (P R : Int) (L : List Pk) (v : Value) : Prop where
  box : Box w B #[eI P, eI R, v] 57
  row : w.ownsRow 0 31 4 v L.length (rowV L)
  fit : Fit P R L
  big : roomy P R
section
variable {w w' : World} {B : Nat} {P R : Int} {L : List Pk} {v : Value}
theorem Rf.below (h : Rf w B P R L v) (hb : Below w.heap.size w w') : Rf w' B P R L v := ⟨h.box.below hb, own_below h.row hb, h.fit, h.big⟩
theorem Rf.off {S : Nat → Prop} (h : Rf w B P R L v) (hO : Off S w w') (hB : ¬ S B) (hv : ∀ g, v.ownBlock = some g → ¬ S g) : Rf w' B P R L v := ⟨hO.box h.box hB, hO.owns h.row hv, h.fit, h.big⟩
theorem Rf.cells (h : Rf w B P R L v) : w.cell? ⟨B, 0, none⟩ = some (.int .i64 P) ∧ w.cell? ⟨B, 1, none⟩ = some (.int .i64 R) ∧ w.cell? ⟨B, 2, none⟩ = some v := ⟨h.box.cell 0, h.box.cell 1, h.box.cell 2⟩
theorem Rf.small (h : Rf w B P R L v) : L.length ≤ 4096 := by
  have := h.fit.many
  have := h.big.1
  omega
theorem RLen_any (h : Rf w B P R L v) : Calls Try.prog 26 #[.pointer (some ⟨B, 0, none⟩)] w fun e w' => e = .returned (eI L.length) ∧ w = w' := by
  obtain ⟨a, cap, rfl, _, _⟩ := own_len h.row
  obtain ⟨c0, c1, c2⟩ := h.cells
  clear h
  go_enter Try.func26, Try.ntmps26
  go_wp2
  go_ret
  exact ⟨rfl, rfl⟩
set_option maxHeartbeats 4000000 in
set_option maxRecDepth 100000 in
theorem RBytes_any (h : Rf w B P R L v) : Calls Try.prog 27 #[.pointer (some ⟨B, 0, none⟩)] w fun e w' => e = .returned (eI (bsum L)) ∧ w = w' := by
  obtain ⟨a, cap, rfl, hcap, _⟩ := own_len h.row
  obtain ⟨c0, c1, c2⟩ := h.cells
  have hl := h.small
  have hb := h.big
  have hF := Lib.hid h.fit
  have hO := Lib.hid h.row
  unfold roomy at hb
  obtain ⟨_, _, hb2⟩ := hb
  clear h
  have j1 : (L.length : Int) ≤ (cap : Int) := by omega
  go_enter Try.func27, Try.ntmps27
  go_wp2
  go_loopw [3, 4] (fun s3 s4 wr => ∃ i : Nat, s4 = .int .i64 i ∧ i ≤ L.length ∧ s3 = .int .i64 (bsum (L.take i)) ∧ w = wr) (fun _ s4 _ => L.length - (intOf s4).toNat)
  case atStart => exact ⟨0, rfl, by omega, rfl, rfl⟩
  case round =>
    obtain ⟨i, rfl, hi, rfl, rfl⟩ := hrel
    obtain ⟨t0, t1⟩ := bsum_take hF.out i
    have t2 := hF.out.room
    by_cases hlt : i < L.length
    · have i3 : (i : Int) < (L.length : Int) := by omega
      have i4 : (0 : Int) ≤ (i : Int) := by omega
      obtain ⟨g, cap', cur, e, _, _, _, _, _, hc⟩ := own_some hO.out (by omega)
      cases e
      obtain ⟨x0, x1, x2, x3⟩ := own_at (base := 0) (cap := cap) hc i _ (List.getElem?_eq_getElem hlt)
      have hs : bsum (L.take (i + 1)) = bsum (L.take i) + L[i].len := by rw [take_at L i hlt, bsum_snoc]
      have hw1 : IntKind.i64.wrap ((i : Int) + 1) = (i : Int) + 1 := i64_id (by omega)
      obtain ⟨t4, t5⟩ := bsum_take hF.out (i + 1)
      have hw2 : IntKind.i64.wrap (bsum (L.take i) + L[i].len) = bsum (L.take (i + 1)) := by rw [i64_id (by omega)]; omega
      generalize L[i] = p at *
      generalize hS : bsum (L.take i) = S at *
      generalize hS2 : bsum (L.take (i + 1)) = S2 at *
      clear hc hs hS t0 t1 t4 t5 t2
      replace hS2 := Lib.hid hS2
      go_wp2
      exact ⟨⟨i + 1, rfl, by omega, by rw [hS2.out], by trivial⟩, by simp [intOf]; omega⟩
    · obtain rfl : i = L.length := by omega
      have i3 : ¬ (L.length : Int) < (L.length : Int) := by omega
      rw [List.take_length]
      clear t0 t1 t2
      go_wp2
      go_ret
      exact ⟨rfl, rfl⟩
theorem RHead_none (h : Rf w B P R [] v) : Calls Try.prog 25 #[.pointer (some ⟨B, 0, none⟩)] w fun e w' => e = .returned (.tuple #[pkV Pk.zero, .bool false]) ∧ Below w.heap.size w w' := by
  have T := up1 w (.cells zA 31)
  obtain ⟨a, cap, rfl, _, _⟩ := own_len h.row
  obtain ⟨c0, c1, c2⟩ := (h.below T).cells
  have c2' : (w.alloc (.cells zA 31)).cell? ⟨B, 2, none⟩ = some (.slice a 0 cap) := c2
  clear h c2
  go_enter Try.func25, Try.ntmps25
  go_wp2
  exact bodyPost_ret (v := .tuple #[pkV Pk.zero, .bool false]) (by simp [results, Try.results25, go_sem, Pk.zero]) rfl ⟨rfl, T⟩
theorem RHead_some (p : Pk) (h : Rf w B P R (p :: L) v) : Calls Try.prog 25 #[.pointer (some ⟨B, 0, none⟩)] w fun e w' => e = .returned (.tuple #[pkV p, .bool true]) ∧ Below w.heap.size w w' := by
  have T := up1 w (.cells zA 31)
  have H := h.below T
  obtain ⟨g, cap, cur, rfl, _, _, hcap, _, _, hc⟩ := own_some H.row (by simp)
  obtain ⟨c0, c1, c2⟩ := H.cells
  obtain ⟨x0, x1, x2, x3⟩ := own_at (base := 0) (cap := cap) hc 0 p rfl
  simp only [Nat.zero_mul, Nat.zero_add] at x0 x1 x2 x3
  have j1 : (0 : Int) < ((p :: L).length : Int) := by simp
  have j2 : (((p :: L).length : Int) == 0) = false := by simp only [beq_eq_false_iff_ne]; omega
  have j3 : ((p :: L).length : Int) ≤ (cap : Int) := by omega
  have j4 : 0 < (p :: L).length := by simp
  generalize (p :: L).length = k at *
  clear h H hc
  go_enter Try.func25, Try.ntmps25
  go_wp2
  exact bodyPost_ret (v := .tuple #[pkV p, .bool true]) (by simp [results, Try.results25, go_sem]) rfl ⟨rfl, up1 _ _⟩
end
end Go.Proofs.Ytlfpaebfpmjclaa
