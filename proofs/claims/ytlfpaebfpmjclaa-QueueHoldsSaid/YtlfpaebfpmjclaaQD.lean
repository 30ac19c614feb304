/- What the calls that only read a queue answer: place, Len, Bytes, Room, Head; whether a packet may be. No condition. -/
import Derived.Test.YtlfpaebfpmjclaaQC
namespace Go.Proofs.Ytlfpaebfpmjclaa
open Go.RowKit
set_option linter.unusedVariables false
/-- Whether a packet may be. -/
def mayN (l m : Int) : Int := if m < 1 ∨ 65535 < m then 2 else if l < 1 ∨ m < l then 100 else 0
theorem mayN_arg {l m : Int} (h : m < 1 ∨ 65535 < m) : mayN l m = 2 := by unfold mayN; rw [if_pos h]
theorem mayN_len {l m : Int} (h : ¬ (m < 1 ∨ 65535 < m)) (h2 : l < 1 ∨ m < l) : mayN l m = 100 := by unfold mayN; rw [if_neg h, if_pos h2]
theorem mayN_ok {l m : Int} (h : ¬ (m < 1 ∨ 65535 < m)) (h2 : ¬ (l < 1 ∨ m < l)) : mayN l m = 0 := by unfold mayN; rw [if_neg h, if_neg h2]
theorem May_any (p : Pk) (m : Int) (w : World) :
    Calls Try.prog 29 #[pkV p, .int .i64 m] w fun e w' => e = .returned (.int .i64 (mayN p.len m)) ∧ Below w.heap.size w w' := by
  obtain ⟨i, c, l, t⟩ := p
  go_enter Try.func29, Try.ntmps29
  go_wp2
  all_goals (go_ret; refine ⟨?_, up1 _ _⟩)
  all_goals (first
    | (rw [mayN_arg (by omega)]; rfl)
    | (rw [mayN_len (by omega) (by omega)]; rfl)
    | (rw [mayN_ok (by omega) (by omega)]; rfl))
theorem RMay_any (p : Pk) (m : Int) (w : World) :
    Calls Try.prog 31 #[pkV p, .int .i64 m] w fun e w' => e = .returned (.int .i64 (mayN p.len m)) ∧ Below w.heap.size w w' := by
  obtain ⟨i, c, l, t⟩ := p
  go_enter Try.func31, Try.ntmps31
  go_wp2
  all_goals (go_ret; refine ⟨?_, up1 _ _⟩)
  all_goals (first
    | (rw [mayN_arg (by omega)]; rfl)
    | (rw [mayN_len (by omega) (by omega)]; rfl)
    | (rw [mayN_ok (by omega) (by omega)]; rfl))
section
variable {w : World} {B : Nat} {P R : Int} {L : List Pk} {v : Value} {n f : Nat} {D : List Pk}
theorem place_raw {k s : Int} {a : Option Addr} {cap : Nat} (h : Box w B (quA P R k s (.slice a n cap) f) 44) (h0 : 0 < n) (hn : n ≤ 4096) (hf : f ≤ 4096) (one : Nat) (h1 : one ≤ 5000) :
    Calls Try.prog 28 #[.pointer (some ⟨B, 0, none⟩), eI one] w fun e w' => e = .returned (eI ((f + one) % n : Nat)) ∧ w.drew = w' := by
  obtain ⟨c0, c1, c2, c3, c4, c5⟩ := h.qu
  clear h
  obtain ⟨r, hr⟩ : ∃ r, (f + one) % n = r := ⟨_, rfl⟩
  have hrl : r < n := by rw [← hr]; exact Nat.mod_lt _ h0
  have e1 : IntKind.i64.wrap ((f : Int) + (one : Int)) = (f : Int) + (one : Int) := i64_id (by omega)
  have e2 : ((f : Int) + (one : Int)).tmod (n : Int) = (r : Int) := by
    rw [← hr, Int.tmod_eq_emod_of_nonneg (by omega)]
    push_cast
    rfl
  have e3 : IntKind.i64.wrap (r : Int) = (r : Int) := i64_id (by omega)
  have e4 : ((n : Int) == 0) = false := by simp only [beq_eq_false_iff_ne]; omega
  rw [hr]
  clear hr hrl h1 hf hn
  go_enter Try.func28, Try.ntmps28
  go_wp2
  go_region
  all_goals go_wp2
  all_goals go_ret
  all_goals exact ⟨rfl, rfl⟩
theorem place_any (h : Qr w B P R L v n f D) (h0 : 0 < n) (one : Nat) (h1 : one ≤ 5000) :
    Calls Try.prog 28 #[.pointer (some ⟨B, 0, none⟩), eI one] w fun e w' => e = .returned (eI ((f + one) % n : Nat)) ∧ Below w.heap.size w w' := by
  obtain ⟨a, cap, rfl, _, _⟩ := h.form
  exact (place_raw h.box h0 h.few h.f_lt one h1).mono fun e w' ⟨x, y⟩ => ⟨x, by rw [← y]; exact (Below.refl _ w).drew⟩
theorem Len_any (h : Qr w B P R L v n f D) : Calls Try.prog 19 #[.pointer (some ⟨B, 0, none⟩)] w fun e w' => e = .returned (eI L.length) ∧ w = w' := by
  have hN := none_any B P R _ _ f v w h.box h.nz
  obtain ⟨c0, c1, c2, c3, c4, c5⟩ := h.box.qu
  clear h
  go_enter Try.func19, Try.ntmps19
  go_wp2_with (go_at_call 24; (with_reducible refine hN.mono ?_); rintro e w1 ⟨rfl, rfl⟩)
  go_ret
  exact ⟨rfl, rfl⟩
theorem Bytes_any (h : Qr w B P R L v n f D) : Calls Try.prog 20 #[.pointer (some ⟨B, 0, none⟩)] w fun e w' => e = .returned (eI (bsum L)) ∧ w = w' := by
  have hN := none_any B P R _ _ f v w h.box h.nz
  obtain ⟨c0, c1, c2, c3, c4, c5⟩ := h.box.qu
  clear h
  go_enter Try.func20, Try.ntmps20
  go_wp2_with (go_at_call 24; (with_reducible refine hN.mono ?_); rintro e w1 ⟨rfl, rfl⟩)
  go_ret
  exact ⟨rfl, rfl⟩
theorem Room_any (h : Qr w B P R L v n f D) : Calls Try.prog 18 #[.pointer (some ⟨B, 0, none⟩)] w fun e w' => e = .returned (.tuple #[eI (P - L.length), eI (R - bsum L)]) ∧ Below w.heap.size w w' := by
  have hN := none_any B P R _ _ f v w h.box h.nz
  obtain ⟨c0, c1, c2, c3, c4, c5⟩ := h.box.qu
  have a := h.hP
  have b := h.hR
  have c := h.fit.many
  have d := h.fit.room
  have g := h.fit.bytes
  have e1 : IntKind.i64.wrap (P - (L.length : Int)) = P - (L.length : Int) := i64_id (by omega)
  have e2 : IntKind.i64.wrap (R - bsum L) = R - bsum L := i64_id (by omega)
  clear h a b c d g
  go_enter Try.func18, Try.ntmps18
  go_wp2_with (go_at_call 24; (with_reducible refine hN.mono ?_); rintro e w1 ⟨rfl, rfl⟩)
  go_quiet (fail)
  all_goals go_wp2
  all_goals go_ret2
  all_goals exact ⟨rfl, by first | exact (Below.refl _ w).drew | exact below_drewN (Below.refl _ w) _⟩
abbrev PkC (w : World) (g o : Nat) (p : Pk) : Prop :=
  w.cell? ⟨g, o, none⟩ = some (.int .u64 p.id) ∧ w.cell? ⟨g, o + 1, none⟩ = some (.int .i64 p.cls) ∧ w.cell? ⟨g, o + 2, none⟩ = some (.int .i64 p.len) ∧ w.cell? ⟨g, o + 3, none⟩ = some (.int .u64 p.tick)
/-- What lies at a place of the ring. -/
theorem Qr.at (h : Qr w B P R L v n f D) (i : Nat) (hi : i < L.length) : ∃ g cap cur, v = .slice (some ⟨g, 0, none⟩) n cap ∧ n ≤ cap ∧ g < w.heap.size ∧ g ≠ B ∧ Box w g cur 31 ∧
    ∀ W', Box W' g cur 31 → PkC W' g ((f + i) % n * 4) L[i] := by
  obtain ⟨g, cap, cur, rfl, _, hg, hc, _, hB, hcell⟩ := own_some h.row (h.pos (by omega))
  refine ⟨g, cap, cur, rfl, hc, hg, box_ne hB h.box (by decide), hB, fun W' hB' => ?_⟩
  have hr := h.ring.2.2 i hi
  rw [h.len, List.getElem?_eq_getElem hi] at hr
  obtain ⟨x0, x1, x2, x3⟩ := own_at (base := 0) (cap := cap) hcell _ _ hr
  have e : ∀ j, W'.cell? ⟨g, j, none⟩ = w.cell? ⟨g, j, none⟩ := fun j => (hB'.cell j).trans (hB.cell j).symm
  exact ⟨(e _).trans x0, (e _).trans x1, (e _).trans x2, (e _).trans x3⟩
abbrev zA : Array Value := #[.int .u64 0, .int .i64 0, .int .i64 0, .int .u64 0]
theorem Head_none (h : Qr w B P R [] v n f D) : Calls Try.prog 17 #[.pointer (some ⟨B, 0, none⟩)] w fun e w' => e = .returned (.tuple #[pkV Pk.zero, .bool false]) ∧ Below w.heap.size w w' := by
  have hL : Calls Try.prog 19 #[.pointer (some ⟨B, 0, none⟩)] (w.alloc (.cells zA 31)) fun e w' => e = .returned (eI 0) ∧ w.alloc (.cells zA 31) = w' := Len_any (h.below (up1 w (.cells zA 31)))
  clear h
  have z := Box.new w 31 zA
  have T := up1 w (.cells zA 31)
  go_enter Try.func17, Try.ntmps17
  go_wp2_with (go_at_call 19; (with_reducible refine hL.mono ?_); rintro e w1 ⟨rfl, rfl⟩)
  refine bodyPost_ret (v := .tuple #[pkV Pk.zero, .bool false]) (by simp [results, Try.results17, go_sem, Pk.zero]) rfl ⟨rfl, ?_⟩
  exact T
theorem Head_some (p : Pk) (h : Qr w B P R (p :: L) v n f D) : Calls Try.prog 17 #[.pointer (some ⟨B, 0, none⟩)] w fun e w' => e = .returned (.tuple #[pkV p, .bool true]) ∧ Below w.heap.size w w' := by
  have T := up1 w (.cells zA 31)
  have hL := Len_any (h.below T)
  have z := Box.new w 31 zA
  have H := h.below T
  have h0 : f < n := h.first (h.pos (by simp))
  obtain ⟨g, cap, cur, rfl, hc, hg, hne, hB, hx⟩ := H.at 0 (by simp)
  obtain ⟨x0, x1, x2, x3⟩ := hx _ hB
  simp only [Nat.add_zero, Nat.mod_eq_of_lt h0, List.getElem_cons_zero] at x0 x1 x2 x3
  obtain ⟨c0, c1, c2, c3, c4, c5⟩ := H.box.qu
  have hk : (((p :: L).length : Int) == 0) = false := by simp only [beq_eq_false_iff_ne, List.length_cons]; omega
  obtain ⟨k, hk'⟩ : ∃ k : Int, ((p :: L).length : Int) = k := ⟨_, rfl⟩
  rw [hk'] at hL hk c2
  have i1 : (f : Int) < (n : Int) := by omega
  have i2 : (0 : Int) ≤ (f : Int) := by omega
  clear h H hk' hB hx
  go_enter Try.func17, Try.ntmps17
  go_wp2_with (go_at_call 19; (with_reducible refine hL.mono ?_); rintro e w1 ⟨rfl, rfl⟩)
  go_region
  all_goals go_wp2
  all_goals refine bodyPost_ret (v := .tuple #[pkV p, .bool true]) (by simp [results, Try.results17, go_sem]) rfl ⟨rfl, ?_⟩
  all_goals exact (up1 _ _).drew
end
end Go.Proofs.Ytlfpaebfpmjclaa
