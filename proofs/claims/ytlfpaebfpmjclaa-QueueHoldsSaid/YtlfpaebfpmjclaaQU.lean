/- The document's queue beside the program's, by colours; what the law's same answers of equal rows. No condition. -/
import Derived.Test.YtlfpaebfpmjclaaQT
namespace Go.Proofs.Ytlfpaebfpmjclaa
open Go.RowKit
set_option linter.unusedVariables false
/-- Block B is the document's queue, of colour c. -/
def Rq (w : World) (χ : Nat → Nat) (c B : Nat) (P R : Int) (L : List Pk) : Prop := ∃ v, Rf w B P R L v ∧ χ B = c ∧ ∀ g, v.ownBlock = some g → χ g = c
section
variable {w0 w w' : World} {χ χ' : Nat → Nat} {c d : Nat} {B : Nat} {P R : Int} {L : List Pk}
theorem Rq.other (h : Rq w χ c B P R L) (k : Col χ χ' d w w') (hd : c ≠ d) : Rq w' χ' c B P R L := by
  obtain ⟨v, h1, h2, h3⟩ := h
  have hv := fun g (e : v.ownBlock = some g) => (h1.row.lt g e).2
  have hO : Off (fun i => χ i = d) w w' := ⟨k.os, k.tape, k.output, k.size, fun i hi hn => k.block i hi hn⟩
  exact ⟨v, h1.off hO (by rw [h2]; exact hd) (fun g hg => by rw [h3 g hg]; exact hd), (k.col B h1.box.lt).trans h2, fun g hg => (k.col g (hv g hg)).trans (h3 g hg)⟩
theorem Rq.below (h : Rq w χ c B P R L) (k : Below w.heap.size w w') : Rq w' χ c B P R L := by
  obtain ⟨v, h1, h2, h3⟩ := h
  exact ⟨v, h1.below k, h2, h3⟩
theorem Rq.new (h : Rq w χ c B P R L) (k : Below w.heap.size w w') (d : Nat) : Rq w' (recol χ w.heap.size d) c B P R L := by
  obtain ⟨v, h1, h2, h3⟩ := h
  have hv := fun g (e : v.ownBlock = some g) => (h1.row.lt g e).2
  exact ⟨v, h1.below k, (recol_lt h1.box.lt).trans h2, fun g hg => (recol_lt (hv g hg)).trans (h3 g hg)⟩
theorem Rq.left {M : List Pk} {v : Value} (h1 : Rf w B P R L v) (h2 : χ B = c) (h3 : ∀ g, v.ownBlock = some g → χ g = c) (h : Left w w' B P R M v) : ∃ χ', Rq w' χ' c B P R M ∧ Col χ χ' c w w' := by
  obtain ⟨⟨v2, y1, y2⟩, y3⟩ := h
  refine ⟨recol χ w.heap.size c, ⟨v2, y1, (recol_lt h1.box.lt).trans h2, fun g hg => ?_⟩, Col.off y3 (fun k hk => ?_)⟩
  · rcases y2 g hg with e | e
    · exact (recol_lt (h1.row.lt g e).2).trans (h3 g e)
    · exact recol_ge e
  · rcases hk with rfl | hk
    · exact h2
    · exact h3 k hk
theorem rq_push (h : Rq w χ c B P R L) (p : Pk) (hok : p.ok) : Calls Try.prog 16 #[.pointer (some ⟨B, 0, none⟩), pkV p] w fun e w' => e = .returned (eI (pushE P R L p)) ∧ ∃ χ', Rq w' χ' c B P R (pushL P R L p) ∧ Col χ χ' c w w' := by
  obtain ⟨v, h1, h2, h3⟩ := h
  by_cases hp : p.len < 1 ∨ 65535 < p.len
  · refine (RPush_bad p h1 hp).mono fun e w' ⟨x, y⟩ => ?_
    rw [pushE_len hp, pushL_no (by rw [pushE_len hp]; decide)]
    exact ⟨x, χ, ⟨v, h1.below y, h2, h3⟩, Col.of y⟩
  · by_cases hF : P ≤ (L.length : Int) ∨ R < bsum L + p.len
    · refine (RPush_full p h1 hp hF).mono fun e w' ⟨x, y⟩ => ?_
      rw [pushE_full hp hF, pushL_no (by rw [pushE_full hp hF]; decide)]
      exact ⟨x, χ, ⟨v, h1.below y, h2, h3⟩, Col.of y⟩
    · refine (RPush_ok p hok h1 hp hF).mono fun e w' ⟨x, y⟩ => ?_
      rw [pushE_ok hp hF, pushL_ok (pushE_ok hp hF)]
      exact ⟨x, Rq.left h1 h2 h3 y⟩
theorem rq_pop (h : Rq w χ c B P R L) : Calls Try.prog 15 #[.pointer (some ⟨B, 0, none⟩)] w fun e w' => e = .returned (.tuple #[pkV (headP L), .bool (headB L)]) ∧ ∃ χ', Rq w' χ' c B P R L.tail ∧ Col χ χ' c w w' := by
  obtain ⟨v, h1, h2, h3⟩ := h
  cases L with
  | nil => exact (RPop_none h1).mono fun e w' ⟨x, y⟩ => ⟨x, χ, ⟨v, h1.below y, h2, h3⟩, Col.of y⟩
  | cons p L => exact (RPop_some p h1).mono fun e w' ⟨x, y⟩ => ⟨x, Rq.left h1 h2 h3 y⟩
theorem rf_head {v : Value} (h : Rf w B P R L v) : Calls Try.prog 25 #[.pointer (some ⟨B, 0, none⟩)] w fun e w' => e = .returned (.tuple #[pkV (headP L), .bool (headB L)]) ∧ Below w.heap.size w w' := by
  cases L with
  | nil => exact RHead_none h
  | cons p L => exact RHead_some p h
theorem rq_new (w : World) (χ : Nat → Nat) (c : Nat) (hP : roomy P R) : Calls Try.prog 10 #[eI P, eI R] w fun e w' => ∃ C, e = .returned (.pointer (some ⟨C, 0, none⟩)) ∧ Rq w' (recol χ w.heap.size c) c C P R [] ∧ Below w.heap.size w w' :=
  (RNew_ok P R w hP).mono fun e w' ⟨x, y⟩ => ⟨_, x, by rw [← y]; exact ⟨.slice none 0 0, ⟨Box.new w 57 _, World.ownsRow_nil _ _ _ _, Fit.nil (by have := hP.1; omega) (by have := hP.2; omega), hP⟩, recol_ge (Nat.le_refl _), fun g hg => by simp [Value.ownBlock] at hg⟩, by rw [← y]; exact up1 _ _⟩
end
set_option maxHeartbeats 8000000 in
set_option maxRecDepth 100000 in
/-- Of equal rows the law's same is true. -/
theorem same_any {w : World} {χ : Nat → Nat} {c B C : Nat} {P R : Int} {L : List Pk} {v : Value} (h : Qu w χ c B P R L) (hr : Rf w C P R L v) : Calls Try.prog 12 #[.pointer (some ⟨B, 0, none⟩), .pointer (some ⟨C, 0, none⟩)] w fun e w' => e = .returned (.bool true) ∧ Below w.heap.size w w' := by
  obtain ⟨va, vc, rfl, hvc, _⟩ := own_len hr.row
  have hl := hr.small
  have f1 := hr.fit.many
  have f2 := hr.fit.room
  have f3 := hr.fit.bytes
  have f4 := hr.big.1
  have f5 := hr.big.2
  have hHe := qu_head h
  generalize hpe : headP L = p at *
  generalize hbe : headB L = b at *
  have e1 : IntKind.i64.wrap (P - (L.length : Int)) = P - (L.length : Int) := i64_id (by omega)
  have e2 : IntKind.i64.wrap (R - bsum L) = R - bsum L := i64_id (by omega)
  clear f1 f2 f3 f4 f5
  go_enter Try.func12, Try.ntmps12
  go_upto_region 2 with (go_at_call 17; (with_reducible refine hHe.mono ?_); rintro e w1 ⟨rfl, T⟩; have T1 := T.alloc T.size (.cells (pkC p) 31); have bp := Box.new w1 31 (pkC p))
  obtain ⟨W1, hW1⟩ : ∃ x, w1.alloc (.cells (pkC p) 31) = x := ⟨_, rfl⟩
  rw [hW1] at T1 bp ⊢
  clear hW1 hHe
  have hRh := rf_head (hr.below T1)
  rw [hpe, hbe] at hRh
  go_upto_region 3 with (go_at_call 25; (with_reducible refine hRh.mono ?_); rintro e w2 ⟨rfl, hb2⟩; have T2 := ups T1 hb2 T1.size; have T3 := T2.alloc T2.size (.cells (pkC p) 31); have bx := Box.new w2 31 (pkC p); have bp2 := (bp.below hb2).alloc (.cells (pkC p) 31))
  obtain ⟨W3, hW3⟩ : ∃ x, w2.alloc (.cells (pkC p) 31) = x := ⟨_, rfl⟩
  rw [hW3] at T3 bx bp2 ⊢
  clear hW3 hRh T2 hb2 bp T1
  have hRo := qu_room (h.below T3)
  go_upto_region 4 with (go_at_call 18; (with_reducible refine hRo.mono ?_); rintro e w4 ⟨rfl, hb4⟩; have T4 := ups T3 hb4 T3.size; have bx4 := bx.below hb4; have bp4 := bp2.below hb4)
  clear hRo T3 hb4 bx bp2
  have H4 := h.below T4
  have R4 := hr.below T4
  obtain ⟨c0, c1, c2⟩ := R4.cells
  obtain ⟨p0, p1, p2, p3, _, _, _, _⟩ := bp4.four
  obtain ⟨x0, x1, x2, x3, _, _, _, _⟩ := bx4.four
  have hD : ∀ k, Below w4.heap.size w4 (w4.drewN k) := fun k => below_drewN (Below.refl _ w4) k
  have q1 : ∀ k, Calls Try.prog 19 #[.pointer (some ⟨B, 0, none⟩)] (w4.drewN k) fun e w' => e = .returned (eI L.length) ∧ w' = w4.drewN k := fun k => (qu_len (H4.below (hD k))).mono fun e w' ⟨x, y⟩ => ⟨x, y.symm⟩
  have q2 : ∀ k, Calls Try.prog 26 #[.pointer (some ⟨C, 0, none⟩)] (w4.drewN k) fun e w' => e = .returned (eI L.length) ∧ w' = w4.drewN k := fun k => (RLen_any (R4.below (hD k))).mono fun e w' ⟨x, y⟩ => ⟨x, y.symm⟩
  have q3 : ∀ k, Calls Try.prog 20 #[.pointer (some ⟨B, 0, none⟩)] (w4.drewN k) fun e w' => e = .returned (eI (bsum L)) ∧ w' = w4.drewN k := fun k => (qu_bytes (H4.below (hD k))).mono fun e w' ⟨x, y⟩ => ⟨x, y.symm⟩
  have q4 : ∀ k, Calls Try.prog 27 #[.pointer (some ⟨C, 0, none⟩)] (w4.drewN k) fun e w' => e = .returned (eI (bsum L)) ∧ w' = w4.drewN k := fun k => (RBytes_any (R4.below (hD k))).mono fun e w' ⟨x, y⟩ => ⟨x, y.symm⟩
  clear hD
  go_quiet (first
    | (go_at_call 19; refine Calls.quiet_of_same (q1 _))
    | (go_at_call 26; refine Calls.quiet_of_same (q2 _))
    | (go_at_call 20; refine Calls.quiet_of_same (q3 _))
    | (go_at_call 27; refine Calls.quiet_of_same (q4 _)))
  clear q1 q2 q3 q4 c0 c1 c2 p0 p1 p2 p3 x0 x1 x2 x3
  have T5 := below_drewN T4 nq
  have H5 := H4.below (below_drewN (Below.refl _ w4) nq)
  have R5 := R4.below (below_drewN (Below.refl _ w4) nq)
  go_upto_region 6 with fail
  obtain ⟨W5, hW5⟩ : ∃ x, w4.drewN nq = x := ⟨_, rfl⟩
  rw [hW5] at T5 H5 R5 ⊢
  clear hW5 T4 H4 R4
  have hAl := qu_all H5
  have hl5 : L.length ≤ 5000 := by omega
  clear e1 e2 h hr hpe hbe
  go_upto_region 7 with (go_at_call 21; (with_reducible refine hAl.mono ?_); rintro e w6 ⟨u, rfl, hO, hb6⟩; obtain ⟨ua, uc, rfl, huc, _⟩ := own_len hO)
  have R6 := R5.below hb6
  have hgw : ∀ g, ua = some ⟨g, 0, none⟩ → w.heap.size ≤ g := fun g e => by have := (hO.lt g (by rw [e]; rfl)).1; have := T5.size; omega
  have hua : 0 < L.length → ∃ g, ua = some ⟨g, 0, none⟩ := fun h0 => by
    obtain ⟨g, cap, cur, e, _⟩ := own_some hO h0
    cases e
    exact ⟨g, rfl⟩
  have hbx : ∀ g, ua = some ⟨g, 0, none⟩ → ∃ cur, Box w6 g cur 31 ∧ L.length * 4 ≤ cur.size := fun g e => by
    subst e
    rcases hO.2 with ⟨h1, _⟩ | ⟨g', cap, cur, h1, _, h2, h3, _, h5, _⟩
    · cases h1
    · cases h1
      exact ⟨cur, h2, by rw [h5]; exact Nat.mul_le_mul_right 4 h3⟩
  have T6 := ups T5 hb6 T5.size
  have hSa := Same_true (.slice ua L.length uc) (.slice va L.length vc) L w6 hl5 (own_mono hO (Nat.zero_le _)) R6.row
  obtain ⟨c0, c1, c2⟩ := R6.cells
  clear hAl H5 R5 T5 hb6 hO
  go_wp2_with (go_at_call 23; (with_reducible refine hSa.mono ?_); rintro e w7 ⟨rfl, hb7⟩)
  have T7 := ups T6 hb7 T6.size
  have hbx7 : ∀ g, ua = some ⟨g, 0, none⟩ → ∃ cur, Box w7 g cur 31 ∧ L.length * 4 ≤ cur.size := fun g e => by
    obtain ⟨cur, h1, h2⟩ := hbx g e
    exact ⟨cur, h1.below hb7, h2⟩
  have j1 : (L.length : Int) ≤ (uc : Int) := by omega
  clear hSa R6 c0 c1 c2 hbx T6 hb7
  replace hgw := Lib.hid hgw
  replace hua := Lib.hid hua
  go_loopw [13] (fun s13 wr => ∃ i : Nat, s13 = .int .i64 i ∧ i ≤ L.length ∧ Below w.heap.size w wr ∧ ∀ g, ua = some ⟨g, 0, none⟩ → ∃ cur, Box wr g cur 31 ∧ L.length * 4 ≤ cur.size) (fun s13 _ => L.length - (intOf s13).toNat)
  case atStart => exact ⟨0, rfl, by omega, T7, hbx7⟩
  case round =>
    clear T7 hbx7
    obtain ⟨i, rfl, hi, T, hb⟩ := hrel
    by_cases hlt : i < L.length
    · have i3 : (i : Int) < (L.length : Int) := by omega
      have i4 : (0 : Int) ≤ (i : Int) := by omega
      have hw1 : IntKind.i64.wrap ((i : Int) + 1) = (i : Int) + 1 := i64_id (by omega)
      obtain ⟨g, rfl⟩ := hua.out (by omega)
      have hg := hgw.out g rfl
      obtain ⟨cur, hB, hs⟩ := hb g rfl
      obtain ⟨y, hy⟩ : ∃ y, wr.cell? ⟨g, i * 4 + 2, none⟩ = some y := ⟨_, (hB.cell (i * 4 + 2)).trans (Array.getElem?_eq_getElem (by omega))⟩
      have hz := hB.thaw (i * 4 + 2)
      have hB2 := hB.set (i * 4 + 2) (eI (-7))
      have T2 := T.setCell (p := ⟨g, i * 4 + 2, none⟩) hg (eI (-7))
      clear hb hB T
      go_wp2
      exact ⟨⟨i + 1, rfl, by omega, T2, fun g' e => by cases e; exact ⟨_, hB2, by simpa using hs⟩⟩, by simp [intOf]; omega⟩
    · obtain rfl : i = L.length := by omega
      have i3 : ¬ (L.length : Int) < (L.length : Int) := by omega
      clear hb
      go_wp2
      go_ret
      exact ⟨rfl, T⟩
end Go.Proofs.Ytlfpaebfpmjclaa
