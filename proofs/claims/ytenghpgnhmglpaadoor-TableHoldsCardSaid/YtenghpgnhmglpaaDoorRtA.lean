/- The document's own row of ids: what its calls answer and do. No condition but that it isn't long. -/
import Derived.Test.YtenghpgnhmglpaaDoorRtM
namespace Go.Proofs.YtenghpgnhmglpaaDoor
open Go.RowKit
set_option linter.unusedVariables false
theorem imTy : RowTy Tryd.prog 27 65 2 := by
  refine ⟨Tryd.underlying27, by decide, ?_⟩
  obtain ⟨i, hi, hz0, hz1, hz2⟩ := info_parts (show (Tryd.prog.info? 65).map (fun i => (i.zero, i.size, i.bytes)) = some (some (.agg #[.int .i64 0, .int .u64 0]), 2, 16) by kernel_rfl)
  exact ⟨i, _, 16, hi, hz0, hz1, hz2, rfl, by decide⟩
/-- Block B is a row of ids, which lies at v. -/
structure Rt (w : World) (B : Nat) (L : List Im) (v : Value) : Prop where
  box : Box w B #[v] 29
  row : w.ownsRow 0 65 2 v L.length (rowC imC L)
section
variable {w w' : World} {B : Nat} {L : List Im} {v : Value}
theorem Rt.below (h : Rt w B L v) (hb : Below w.heap.size w w') : Rt w' B L v := ⟨h.box.below hb, own_below h.row hb⟩
theorem Rt.off {S : Nat → Prop} (h : Rt w B L v) (hO : Off S w w') (hB : ¬ S B) (hv : ∀ g, v.ownBlock = some g → ¬ S g) : Rt w' B L v := ⟨hO.box h.box hB, hO.owns h.row hv⟩
theorem rmay_any (k : Int) (w : World) : Calls Tryd.prog 40 #[eI k] w fun e w' => e = .returned (.bool (mayI k)) ∧ w = w' := by
  by_cases h1 : 1 ≤ k
  · by_cases h2 : k ≤ 65535
    · rw [show mayI k = true by unfold mayI; simp; omega]
      go_enter Tryd.func40, Tryd.ntmps40
      go_wp2
      go_ret
      exact ⟨by first | rfl | simp [h1, h2], rfl⟩
    · rw [show mayI k = false by unfold mayI; simp; omega]
      go_enter Tryd.func40, Tryd.ntmps40
      go_wp2
      go_ret
      exact ⟨by first | rfl | (simp [h1]; omega), rfl⟩
  · rw [show mayI k = false by unfold mayI; simp; omega]
    go_enter Tryd.func40, Tryd.ntmps40
    go_wp2
    go_ret
    exact ⟨by first | rfl | (simp; omega), rfl⟩
theorem im_at {g cap n : Nat} (h : w.ownsRow 0 65 2 (.slice (some ⟨g, 0, none⟩) n cap) n (rowC imC L)) (i : Nat) (hi : i < L.length) : w.cell? ⟨g, i * 2, none⟩ = some (.int .i64 L[i].id) ∧ w.cell? ⟨g, i * 2 + 1, none⟩ = some (.int .u64 L[i].v) :=
  ⟨own_elem imCells h i L[i] (List.getElem?_eq_getElem hi) 0 (by decide) _ rfl, own_elem imCells h i L[i] (List.getElem?_eq_getElem hi) 1 (by decide) _ rfl⟩
set_option maxHeartbeats 4000000 in
set_option maxRecDepth 100000 in
theorem rat_any (k : Int) (h : Rt w B L v) (hl : L.length ≤ 100000) : Calls Tryd.prog 30 #[.pointer (some ⟨B, 0, none⟩), eI k] w fun e w' => e = .returned (eI (atV (atI k L))) ∧ w = w' := by
  obtain ⟨a, cap, rfl, hcap, _⟩ := own_len h.row
  have c0 : w.cell? ⟨B, 0, none⟩ = some (.slice a L.length cap) := h.box.cell 0
  have hO := Lib.hid h.row
  clear h
  have j1 : (L.length : Int) ≤ (cap : Int) := by omega
  go_enter Tryd.func30, Tryd.ntmps30
  go_wp2
  go_loopw [5] (fun s5 wr => ∃ i : Nat, s5 = .int .i64 i ∧ i ≤ L.length ∧ w = wr ∧ Hid (atI k L = (atI k (L.drop i)).map (· + i))) (fun s5 _ => L.length - (intOf s5).toNat)
  case atStart => exact ⟨0, rfl, by omega, rfl, by show _ = _; simp⟩
  case round =>
    obtain ⟨i, rfl, hi, rfl, hA⟩ := hrel
    by_cases hlt : i < L.length
    · have i3 : (i : Int) < (L.length : Int) := by omega
      have i4 : (0 : Int) ≤ (i : Int) := by omega
      have hw1 : IntKind.i64.wrap ((i : Int) + 1) = (i : Int) + 1 := i64_id (by omega)
      obtain ⟨g, cap', cur, e, _⟩ := own_some hO.out (by omega)
      cases e
      obtain ⟨x0, x1⟩ := im_at hO.out i hlt
      have hd := at_drop (k := k) hlt
      generalize L[i] = z at *
      by_cases hz : z.id = k
      · have hz' : (z.id == k) = true := by simp [hz]
        rw [if_pos hz] at hd
        have hv : atV (atI k L) = (i : Int) := by rw [hA.out, hd]; rfl
        replace hv := Lib.hid hv
        clear hd hz
        go_wp2
        go_ret
        exact ⟨by rw [hv.out]; rfl, rfl⟩
      · have hz' : (z.id == k) = false := beq_eq_false_iff_ne.2 hz
        rw [if_neg hz] at hd
        have hA2 : Hid (atI k L = (atI k (L.drop (i + 1))).map (· + (i + 1))) := by show _ = _; rw [hA.out, hd]
        clear hd hz hA
        go_wp2
        exact ⟨⟨i + 1, rfl, by omega, by trivial, hA2⟩, by simp [intOf]; omega⟩
    · obtain rfl : i = L.length := by omega
      have i3 : ¬ (L.length : Int) < (L.length : Int) := by omega
      have hv : atV (atI k L) = -1 := by rw [hA.out, List.drop_length]; rfl
      replace hv := Lib.hid hv
      go_wp2
      go_ret
      exact ⟨by rw [hv.out]; rfl, rfl⟩
/-- The result of Next. -/
def nextV : Option Int → Value
  | none => .tuple #[eI 0, .bool false]
  | some k => .tuple #[eI k, .bool true]
theorem next_drop {k : Int} {L : List Im} {j : Nat} (h : j < L.length) : nextI k (L.drop j) = if k < L[j].id then some L[j].id else nextI k (L.drop (j + 1)) := by
  rw [List.drop_eq_getElem_cons h]
  unfold nextI
  rw [List.find?_cons]
  by_cases e : k < L[j].id
  · simp [e]
  · simp [e]
set_option maxHeartbeats 4000000 in
set_option maxRecDepth 100000 in
theorem rnext_any (k : Int) (h : Rt w B L v) (hl : L.length ≤ 100000) : Calls Tryd.prog 31 #[.pointer (some ⟨B, 0, none⟩), eI k] w fun e w' => e = .returned (nextV (nextI k L)) ∧ w = w' := by
  obtain ⟨a, cap, rfl, hcap, _⟩ := own_len h.row
  have c0 : w.cell? ⟨B, 0, none⟩ = some (.slice a L.length cap) := h.box.cell 0
  have hO := Lib.hid h.row
  clear h
  have j1 : (L.length : Int) ≤ (cap : Int) := by omega
  go_enter Tryd.func31, Tryd.ntmps31
  go_wp2
  go_loopw [6] (fun s6 wr => ∃ i : Nat, s6 = .int .i64 i ∧ i ≤ L.length ∧ w = wr ∧ Hid (nextI k L = nextI k (L.drop i))) (fun s6 _ => L.length - (intOf s6).toNat)
  case atStart => exact ⟨0, rfl, by omega, rfl, by show _ = _; simp⟩
  case round =>
    obtain ⟨i, rfl, hi, rfl, hA⟩ := hrel
    by_cases hlt : i < L.length
    · have i3 : (i : Int) < (L.length : Int) := by omega
      have i4 : (0 : Int) ≤ (i : Int) := by omega
      have hw1 : IntKind.i64.wrap ((i : Int) + 1) = (i : Int) + 1 := i64_id (by omega)
      obtain ⟨g, cap', cur, e, _⟩ := own_some hO.out (by omega)
      cases e
      obtain ⟨x0, x1⟩ := im_at hO.out i hlt
      have hd := next_drop (k := k) hlt
      generalize L[i] = z at *
      by_cases hz : k < z.id
      · rw [if_pos hz] at hd
        have hv : nextV (nextI k L) = .tuple #[eI z.id, .bool true] := by rw [hA.out, hd]; rfl
        replace hv := Lib.hid hv
        clear hd
        go_wp2
        go_ret2
        exact ⟨by rw [hv.out]; rfl, rfl⟩
      · rw [if_neg hz] at hd
        have hA2 : Hid (nextI k L = nextI k (L.drop (i + 1))) := by show _ = _; rw [hA.out, hd]
        clear hd hA
        go_wp2
        exact ⟨⟨i + 1, rfl, by omega, by trivial, hA2⟩, by simp [intOf]; omega⟩
    · obtain rfl : i = L.length := by omega
      have i3 : ¬ (L.length : Int) < (L.length : Int) := by omega
      have hv : nextV (nextI k L) = .tuple #[eI 0, .bool false] := by rw [hA.out, List.drop_length]; rfl
      replace hv := Lib.hid hv
      go_wp2
      go_ret2
      exact ⟨by rw [hv.out]; rfl, rfl⟩
/-- What a change leaves. -/
def RtLeft (w W2 : World) (B : Nat) (L : List Im) (v : Value) : Prop :=
  (∃ v', Rt W2 B L v' ∧ ∀ g, v'.ownBlock = some g → v.ownBlock = some g ∨ w.heap.size ≤ g) ∧ Off (Own2 B v) w W2
theorem RtLeft.same (h : Rt w B L v) : RtLeft w w B L v := ⟨⟨v, h, fun g e => .inl e⟩, Off.of (Below.refl _ _)⟩
theorem rset_any (k x : Int) (h : Rt w B L v) (hg : Good L) (hl : L.length ≤ 100000) : Calls Tryd.prog 20 #[.pointer (some ⟨B, 0, none⟩), eI k, eU x] w fun e w' => e = .returned (eI (askE k L)) ∧ RtLeft w w' B (setT k x L) v := by
  have hM := rmay_any k w
  cases hm : mayI k with
  | false =>
    rw [askE_arg hm, setT_no (by rw [askE_arg hm]; decide)]
    rw [hm] at hM
    have hf := RtLeft.same h
    clear h
    go_enter Tryd.func20, Tryd.ntmps20
    go_wp2_with (go_at_call 40; (with_reducible refine hM.mono ?_); rintro e w1 ⟨rfl, rfl⟩)
    go_ret
    exact ⟨rfl, hf⟩
  | true =>
    rw [hm] at hM
    have hA := rat_any k h hl
    cases hh : hasI k L with
    | false =>
      rw [askE_no hm hh, setT_no (by rw [askE_no hm hh]; decide)]
      rw [at_none hh] at hA
      have hA' : Calls Tryd.prog 30 #[.pointer (some ⟨B, 0, none⟩), eI k] w fun e w' => e = .returned (.int .i64 (-1)) ∧ w = w' := hA
      have hf := RtLeft.same h
      clear h hA
      go_enter Tryd.func20, Tryd.ntmps20
      go_wp2_with (first
        | (go_at_call 40; (with_reducible refine hM.mono ?_); rintro e w1 ⟨rfl, rfl⟩)
        | (go_at_call 30; (with_reducible refine hA'.mono ?_); rintro e w1 ⟨rfl, rfl⟩))
      go_ret
      exact ⟨rfl, hf⟩
    | true =>
      obtain ⟨i, hi⟩ := at_is hh
      obtain ⟨hlt, hid⟩ := at_some hi
      rw [askE_ok hm hh, setT_ok (askE_ok hm hh), set_at hg.rise hlt hid]
      rw [hi] at hA
      have hA' : Calls Tryd.prog 30 #[.pointer (some ⟨B, 0, none⟩), eI k] w fun e w' => e = .returned (.int .i64 (i : Int)) ∧ w = w' := hA
      obtain ⟨g, cap, cur, rfl, _, hgw, hcap, _, hgB, _⟩ := own_some h.row (by omega)
      have c0 : w.cell? ⟨B, 0, none⟩ = some (.slice (some ⟨g, 0, none⟩) L.length cap) := h.box.cell 0
      obtain ⟨x0, x1⟩ := im_at h.row i hlt
      have z1 := hgB.thaw (i * 2 + 1)
      have hne : B ≠ g := fun e => box_ne hgB h.box (by decide) e.symm
      have hrow := (h.row.stored (i * 2 + 1) (eU x)).1
      rw [rowC_set imCells L i L[i] ⟨k, x⟩ 1 (eU x) (List.getElem?_eq_getElem hlt) (by decide) (by simp [imC, hid])] at hrow
      have hf : RtLeft w (w.setCell ⟨g, i * 2 + 1, none⟩ (eU x)) B (L.set i ⟨k, x⟩) (.slice (some ⟨g, 0, none⟩) L.length cap) := by
        refine ⟨⟨_, ⟨h.box.setNe hne _, by rw [List.length_set]; exact hrow⟩, fun g' e => .inl e⟩, ?_⟩
        have O : Off (Own2 B (.slice (some ⟨g, 0, none⟩) L.length cap)) w w := Off.of (Below.refl _ _)
        exact O.set (.inr rfl) _ _
      have j1 : (i : Int) < (L.length : Int) := by omega
      have j2 : (0 : Int) ≤ (i : Int) := by omega
      have j3 : ¬ (i : Int) < 0 := by omega
      clear h hA hrow hi hid
      go_enter Tryd.func20, Tryd.ntmps20
      go_wp2_with (first
        | (go_at_call 40; (with_reducible refine hM.mono ?_); rintro e w1 ⟨rfl, rfl⟩)
        | (go_at_call 30; (with_reducible refine hA'.mono ?_); rintro e w1 ⟨rfl, rfl⟩))
      go_ret
      exact ⟨rfl, hf⟩
end
end Go.Proofs.YtenghpgnhmglpaaDoor
