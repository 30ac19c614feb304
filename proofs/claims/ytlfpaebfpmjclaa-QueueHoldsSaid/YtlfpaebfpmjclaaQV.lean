/- QueueHolds: its walk. No condition. -/
import Derived.Test.YtlfpaebfpmjclaaQU
namespace Go.Proofs.Ytlfpaebfpmjclaa
open Go.RowKit
set_option linter.unusedVariables false
/-- The program's queue and the document's, side by side. -/
def Qp (w0 W : World) (B C : Nat) (P R : Int) (L M : List Pk) : Prop := ∃ χ, Fr w0 χ W ∧ Qu W χ 1 B P R L ∧ Rq W χ 2 C P R M
/-- A copy beside them. -/
def Qc (w0 W : World) (B C D : Nat) (P R : Int) (L M N : List Pk) : Prop := ∃ χ, Fr w0 χ W ∧ Qu W χ 1 B P R L ∧ Rq W χ 2 C P R M ∧ Qu W χ 3 D P R N
/-- A packet's block beside them. -/
def Qb (w0 W : World) (B C : Nat) (P R : Int) (L M : List Pk) (N : Nat) (p : Pk) : Prop := ∃ χ, Fr w0 χ W ∧ Qu W χ 1 B P R L ∧ Rq W χ 2 C P R M ∧ Bx W χ 4 N (pkC p) 31
section
variable {w0 w w' : World} {B C D N : Nat} {P R : Int} {L M K : List Pk} {p : Pk}
theorem Qp.world (h : Qp w0 w B C P R L M) : Below w0.heap.size w0 w := by obtain ⟨χ, h1, h2, h3⟩ := h; exact h1.world
theorem Qp.below (h : Qp w0 w B C P R L M) (k : Below w.heap.size w w') : Qp w0 w' B C P R L M := by obtain ⟨χ, h1, h2, h3⟩ := h; exact ⟨χ, h1.below k, h2.below k, h3.below k⟩
theorem Qp.drew (h : Qp w0 w B C P R L M) : Qp w0 w.drew B C P R L M := h.below (Below.refl _ w).drew
theorem Qc.qp (h : Qc w0 w B C D P R L M K) : Qp w0 w B C P R L M := by obtain ⟨χ, h1, h2, h3, h4⟩ := h; exact ⟨χ, h1, h2, h3⟩
theorem Qc.below (h : Qc w0 w B C D P R L M K) (k : Below w.heap.size w w') : Qc w0 w' B C D P R L M K := by obtain ⟨χ, h1, h2, h3, h4⟩ := h; exact ⟨χ, h1.below k, h2.below k, h3.below k, h4.below k⟩
theorem Qb.qp (h : Qb w0 w B C P R L M N p) : Qp w0 w B C P R L M := by obtain ⟨χ, h1, h2, h3, h4⟩ := h; exact ⟨χ, h1, h2, h3⟩
theorem Qb.below (h : Qb w0 w B C P R L M N p) (k : Below w.heap.size w w') : Qb w0 w' B C P R L M N p := by obtain ⟨χ, h1, h2, h3, h4⟩ := h; exact ⟨χ, h1.below k, h2.below k, h3.below k, h4.below k⟩
theorem Qb.box (h : Qb w0 w B C P R L M N p) : Box w N (pkC p) 31 := by obtain ⟨χ, h1, h2, h3, h4⟩ := h; exact h4.1
theorem Qp.make (h : Qp w0 w B C P R L M) (p : Pk) : Qb w0 (w.alloc (.cells (pkC p) 31)) B C P R L M w.heap.size p := by
  obtain ⟨χ, h1, h2, h3⟩ := h
  have k := up1 w (.cells (pkC p) 31)
  exact ⟨recol χ w.heap.size 4, h1.next (Col.new (c := 1) k 4) (by decide), h2.new k 4, h3.new k 4, Box.new _ _ _, recol_ge (Nat.le_refl _)⟩
theorem qp_new (w : World) (hP : roomy P R) : Calls Try.prog 9 #[eI P, eI R] w fun e w' => ∃ B, e = .returned (.pointer (some ⟨B, 0, none⟩)) ∧ Qu w' (recol (fun _ => 0) w.heap.size 1) 1 B P R [] ∧ Below w.heap.size w w' := qu_new w _ 1 hP
theorem qp_rnew {B : Nat} (w1 : World) (hw : Below w0.heap.size w0 w1) (hP : roomy P R) (h : Qu w1 (recol (fun _ => 0) w0.heap.size 1) 1 B P R []) : Calls Try.prog 10 #[eI P, eI R] w1 fun e w' => ∃ C, e = .returned (.pointer (some ⟨C, 0, none⟩)) ∧ Qp w0 w' B C P R [] [] :=
  (rq_new w1 (recol (fun _ => 0) w0.heap.size 1) 2 hP).mono fun e w' ⟨C, x, y, z⟩ => ⟨C, x, _, ⟨fun k hk => by rw [recol_lt (Nat.lt_of_lt_of_le hk hw.size), recol_lt hk], ups hw z hw.size⟩, h.new z 2, y⟩
theorem qp_push (h : Qp w0 w B C P R L M) (q : Pk) (hok : q.ok) : Calls Try.prog 14 #[.pointer (some ⟨B, 0, none⟩), pkV q] w fun e w' => e = .returned (eI (pushE P R L q)) ∧ Qp w0 w' B C P R (pushL P R L q) M := by
  obtain ⟨χ, h1, h2, h3⟩ := h
  exact (qu_push h2 q hok).mono fun e w' ⟨x, χ', y, z⟩ => ⟨x, χ', h1.next z (by decide), y, h3.other z (by decide)⟩
theorem qp_rpush (h : Qp w0 w B C P R L M) (q : Pk) (hok : q.ok) : Calls Try.prog 16 #[.pointer (some ⟨C, 0, none⟩), pkV q] w fun e w' => e = .returned (eI (pushE P R M q)) ∧ Qp w0 w' B C P R L (pushL P R M q) := by
  obtain ⟨χ, h1, h2, h3⟩ := h
  exact (rq_push h3 q hok).mono fun e w' ⟨x, χ', y, z⟩ => ⟨x, χ', h1.next z (by decide), h2.other z (by decide), y⟩
theorem qp_pop (h : Qp w0 w B C P R L M) : Calls Try.prog 13 #[.pointer (some ⟨B, 0, none⟩)] w fun e w' => e = .returned (.tuple #[pkV (headP L), .bool (headB L)]) ∧ Qp w0 w' B C P R L.tail M := by
  obtain ⟨χ, h1, h2, h3⟩ := h
  exact (qu_pop h2).mono fun e w' ⟨x, χ', y, z⟩ => ⟨x, χ', h1.next z (by decide), y, h3.other z (by decide)⟩
theorem qb_rpop (h : Qb w0 w B C P R L M N p) : Calls Try.prog 15 #[.pointer (some ⟨C, 0, none⟩)] w fun e w' => e = .returned (.tuple #[pkV (headP M), .bool (headB M)]) ∧ Qb w0 w' B C P R L M.tail N p := by
  obtain ⟨χ, h1, h2, h3, h4⟩ := h
  exact (rq_pop h3).mono fun e w' ⟨x, χ', y, z⟩ => ⟨x, χ', h1.next z (by decide), h2.other z (by decide), y, h4.other z (by decide)⟩
theorem qp_same (h : Qp w0 w B C P R L L) : Calls Try.prog 12 #[.pointer (some ⟨B, 0, none⟩), .pointer (some ⟨C, 0, none⟩)] w fun e w' => e = .returned (.bool true) ∧ Below w.heap.size w w' := by
  obtain ⟨χ, h1, h2, v, h3, _⟩ := h
  exact same_any h2 h3
theorem qp_copy (h : Qp w0 w B C P R L M) : Calls Try.prog 11 #[.pointer (some ⟨B, 0, none⟩)] w fun e w' => ∃ D, e = .returned (.pointer (some ⟨D, 0, none⟩)) ∧ Qc w0 w' B C D P R L M L := by
  obtain ⟨χ, h1, h2, h3⟩ := h
  exact (qu_copy h2 3).mono fun e w' ⟨D, x, y, z⟩ => ⟨D, x, _, h1.next (Col.new (c := 1) z 3) (by decide), h2.new z 3, h3.new z 3, y⟩
theorem qc_same (h : Qc w0 w B C D P R L M M) : Calls Try.prog 12 #[.pointer (some ⟨D, 0, none⟩), .pointer (some ⟨C, 0, none⟩)] w fun e w' => e = .returned (.bool true) ∧ Below w.heap.size w w' := by
  obtain ⟨χ, h1, h2, ⟨v, h3, _⟩, h4⟩ := h
  exact same_any h4 h3
theorem qc_push (h : Qc w0 w B C D P R L M K) (q : Pk) (hok : q.ok) : Calls Try.prog 14 #[.pointer (some ⟨D, 0, none⟩), pkV q] w fun e w' => ∃ z K', e = .returned (eI z) ∧ Qc w0 w' B C D P R L M K' := by
  obtain ⟨χ, h1, h2, h3, h4⟩ := h
  exact (qu_push h4 q hok).mono fun e w' ⟨x, χ', y, z⟩ => ⟨_, _, x, χ', h1.next z (by decide), h2.other z (by decide), h3.other z (by decide), y⟩
theorem qc_pop (h : Qc w0 w B C D P R L M K) : Calls Try.prog 13 #[.pointer (some ⟨D, 0, none⟩)] w fun e w' => ∃ p b, e = .returned (.tuple #[pkV p, .bool b]) ∧ Qc w0 w' B C D P R L M K.tail := by
  obtain ⟨χ, h1, h2, h3, h4⟩ := h
  exact (qu_pop h4).mono fun e w' ⟨x, χ', y, z⟩ => ⟨_, _, x, χ', h1.next z (by decide), h2.other z (by decide), h3.other z (by decide), y⟩
end
set_option maxHeartbeats 8000000 in
set_option maxRecDepth 100000 in
theorem QueueHolds_some (P R : Int) (a : Option Addr) (n c : Nat) (xs : Nat → Aq) (at0 : Int) (w0 : World) (hP : roomy P R) (hn : n ≤ 150) (hI : IsActs w0 a n c xs) (hok : ∀ i, (xs i).ok) :
    Calls Try.prog 3 #[eI P, eI R, .slice a n c, eI at0] w0 fun e w' => e = .returned (.bool true) ∧ Below w0.heap.size w0 w' := by
  have hN := qp_new w0 hP
  have j0 : ¬ (150 : Int) < (n : Int) := by omega
  have j1 : (n : Int) ≤ (c : Int) := by have := hI.1; omega
  have hIh := Lib.hid hI
  have hoh := Lib.hid hok
  have hPh := Lib.hid hP
  clear hI hok hP
  go_enter Try.func3, Try.ntmps3
  go_wp2_with (first
    | (go_at_call 9; (with_reducible refine hN.mono ?_); rintro e w1 ⟨B, rfl, HB, T⟩; have hRN := qp_rnew w1 T hPh.out HB)
    | (go_at_call 10; (with_reducible refine hRN.mono ?_); rintro e w2 ⟨C, rfl, H⟩))
  clear hN hRN T HB
  go_loopw [11] (fun s11 wr => ∃ k : Nat, s11 = .int .i64 k ∧ k ≤ n ∧ Qp w0 wr B C P R (runL P R xs [] k) (runL P R xs [] k)) (fun s11 _ => n - (intOf s11).toNat)
  case atStart => exact ⟨0, rfl, by omega, H⟩
  case round =>
    clear H
    obtain ⟨k, rfl, hk, H⟩ := hrel
    by_cases hlt : k < n
    · have i1 : (k : Int) < (n : Int) := by omega
      have i2 : (0 : Int) ≤ (k : Int) := by omega
      have hw1 : IntKind.i64.wrap ((k : Int) + 1) = (k : Int) + 1 := i64_id (by omega)
      obtain ⟨L, hL⟩ : ∃ L, runL P R xs [] k = L := ⟨_, rfl⟩
      rw [hL] at H
      replace hL := Lib.hid hL
      by_cases hat : (k : Int) = at0
      · have hat' : ((k : Int) == at0) = true := by simp [hat]
        clear hat
        have hCp := qp_copy H
        go_wp2_with (first
          | (go_at_call 11; (with_reducible refine hCp.mono ?_); rintro e w3 ⟨D, rfl, H3⟩; have hSc := qc_same H3)
          | (go_at_call 12; (with_reducible refine hSc.mono ?_); rintro e w4 ⟨rfl, hb4⟩; have H4 := H3.below hb4))
        clear hCp hSc H3 hb4 H
        go_loopw [13] (fun s13 wr => ∃ (j : Nat) (K : List Pk), s13 = .int .i64 j ∧ j ≤ n ∧ Qc w0 wr B C D P R L L K) (fun s13 _ => n - (intOf s13).toNat)
        case atStart => exact ⟨k, L, rfl, by omega, H4⟩
        case round =>
          clear H4
          obtain ⟨j, K, rfl, hj, H⟩ := hrel
          by_cases hltj : j < n
          · have i3 : (j : Int) < (n : Int) := by omega
            have i4 : (0 : Int) ≤ (j : Int) := by omega
            have hw2 : IntKind.i64.wrap ((j : Int) + 1) = (j : Int) + 1 := i64_id (by omega)
            obtain ⟨b, o, rfl, hbw, hx⟩ := act_at hIh.out j hltj
            have hpk : (xs j).p.ok := hoh.out j
            generalize (xs j).p = q at *
            generalize (xs j).pop = pp at *
            have hPo := qc_pop H
            replace hx := Lib.hid hx
            go_upto_region 17 with (go_at_call 13; (with_reducible refine hPo.mono ?_); rintro e w5 ⟨p5, b5, rfl, H5⟩)
            obtain ⟨x0, x1, x2, x3, x4⟩ := hx.out _ H5.qp.world
            have hPu := qc_push H5 q hpk
            clear hPo H
            go_wp2_with (go_at_call 14; (with_reducible refine hPu.mono ?_); rintro e w6 ⟨z, K', rfl, H6⟩)
            exact ⟨⟨j + 1, K', rfl, by omega, H6⟩, by simp [intOf]; omega⟩
          · obtain rfl : j = n := by omega
            have i3 : ¬ (j : Int) < (j : Int) := by omega
            replace H := H.qp
            obtain ⟨b, o, rfl, hbw, hx⟩ := act_at hIh.out k hlt
            cases hpop : (xs k).pop with
            | true =>
              have hs : runL P R xs [] (k + 1) = L.tail := by rw [runL_pop hpop, hL.out]
              simp only [hpop] at hx
              obtain ⟨x0, x1, x2, x3, x4⟩ := hx _ H.world
              replace hs := Lib.hid hs
              clear hx hpop
              have hPo := qp_pop H
              have hs' := hs
              generalize hpe : headP L = p at *
              generalize hbe : headB L = b' at *
              go_upto_region 20 with (go_at_call 13; (with_reducible refine hPo.mono ?_); rintro e w3 ⟨rfl, H3⟩; have H4 := H3.make p)
              obtain ⟨W4, hW4⟩ : ∃ x, w3.alloc (.cells (pkC p) 31) = x := ⟨_, rfl⟩
              rw [hW4] at H4 ⊢
              have hRp := qb_rpop H4
              rw [hpe, hbe] at hRp
              clear hW4 hPo H3 H
              go_upto_region 21 with (go_at_call 15; (with_reducible refine hRp.mono ?_); rintro e w5 ⟨rfl, H5⟩; have H6 := H5.below (up1 w5 (.cells (pkC p) 31)); have bx := Box.new w5 31 (pkC p))
              obtain ⟨W6, hW6⟩ : ∃ x, w5.alloc (.cells (pkC p) 31) = x := ⟨_, rfl⟩
              rw [hW6] at H6 bx ⊢
              clear hW6 hRp H4 H5
              obtain ⟨_, _, _, _, _, _, _, _⟩ := H6.box.four
              obtain ⟨_, _, _, _, _, _, _, _⟩ := bx.four
              have hSm := qp_same H6.qp
              go_wp2_with (go_at_call 12; (with_reducible refine hSm.mono ?_); rintro e w7 ⟨rfl, hb7⟩; have H7 := H6.qp.below hb7)
              exact ⟨⟨k + 1, rfl, by omega, by rw [hs'.out]; exact H7⟩, by simp [intOf]; omega⟩
            | false =>
              have hs : runL P R xs [] (k + 1) = pushL P R L (xs k).p := by rw [runL_push hpop, hL.out]
              have hpk : (xs k).p.ok := hoh.out k
              simp only [hpop] at hx
              generalize (xs k).p = q at *
              obtain ⟨x0, x1, x2, x3, x4⟩ := hx _ H.world
              replace hs := Lib.hid hs
              replace hx := Lib.hid hx
              clear hpop
              have hPu := qp_push H.drew q hpk
              generalize hE : pushE P R L q = E at *
              go_upto_region 23 with fail
              go_region_held3 (fun w' => AcC w' b (o + k * 5) q false)
                (first | exact ⟨x0, x1, x2, x3, x4⟩ | exact hx.out _ H3.world | exact hx.out _ H4.world)
                (first
                  | (go_at_call 14; (with_reducible refine hPu.mono ?_); rintro e w3 ⟨rfl, H3⟩; have hRu := qp_rpush H3 q hpk; rw [hE] at hRu)
                  | (go_at_call 16; (with_reducible refine hRu.mono ?_); rintro e w4 ⟨rfl, H4⟩))
              have hSm := qp_same H4
              go_wp2_with (go_at_call 12; (with_reducible refine hSm.mono ?_); rintro e w7 ⟨rfl, hb7⟩; have H7 := H4.below hb7)
              exact ⟨⟨k + 1, rfl, by omega, by rw [hs.out]; exact H7⟩, by simp [intOf]; omega⟩
      · have hat' : ((k : Int) == at0) = false := beq_eq_false_iff_ne.2 hat
        clear hat
        obtain ⟨b, o, rfl, hbw, hx⟩ := act_at hIh.out k hlt
        cases hpop : (xs k).pop with
        | true =>
          have hs : runL P R xs [] (k + 1) = L.tail := by rw [runL_pop hpop, hL.out]
          simp only [hpop] at hx
          obtain ⟨x0, x1, x2, x3, x4⟩ := hx _ H.world
          replace hs := Lib.hid hs
          clear hx hpop
          have hPo := qp_pop H
          have hs' := hs
          generalize hpe : headP L = p at *
          generalize hbe : headB L = b' at *
          go_upto_region 20 with (go_at_call 13; (with_reducible refine hPo.mono ?_); rintro e w3 ⟨rfl, H3⟩; have H4 := H3.make p)
          obtain ⟨W4, hW4⟩ : ∃ x, w3.alloc (.cells (pkC p) 31) = x := ⟨_, rfl⟩
          rw [hW4] at H4 ⊢
          have hRp := qb_rpop H4
          rw [hpe, hbe] at hRp
          clear hW4 hPo H3 H
          go_upto_region 21 with (go_at_call 15; (with_reducible refine hRp.mono ?_); rintro e w5 ⟨rfl, H5⟩; have H6 := H5.below (up1 w5 (.cells (pkC p) 31)); have bx := Box.new w5 31 (pkC p))
          obtain ⟨W6, hW6⟩ : ∃ x, w5.alloc (.cells (pkC p) 31) = x := ⟨_, rfl⟩
          rw [hW6] at H6 bx ⊢
          clear hW6 hRp H4 H5
          obtain ⟨_, _, _, _, _, _, _, _⟩ := H6.box.four
          obtain ⟨_, _, _, _, _, _, _, _⟩ := bx.four
          have hSm := qp_same H6.qp
          go_wp2_with (go_at_call 12; (with_reducible refine hSm.mono ?_); rintro e w7 ⟨rfl, hb7⟩; have H7 := H6.qp.below hb7)
          exact ⟨⟨k + 1, rfl, by omega, by rw [hs'.out]; exact H7⟩, by simp [intOf]; omega⟩
        | false =>
          have hs : runL P R xs [] (k + 1) = pushL P R L (xs k).p := by rw [runL_push hpop, hL.out]
          have hpk : (xs k).p.ok := hoh.out k
          simp only [hpop] at hx
          generalize (xs k).p = q at *
          obtain ⟨x0, x1, x2, x3, x4⟩ := hx _ H.world
          replace hs := Lib.hid hs
          replace hx := Lib.hid hx
          clear hpop
          have hPu := qp_push H.drew q hpk
          generalize hE : pushE P R L q = E at *
          go_upto_region 23 with fail
          go_region_held3 (fun w' => AcC w' b (o + k * 5) q false)
            (first | exact ⟨x0, x1, x2, x3, x4⟩ | exact hx.out _ H3.world | exact hx.out _ H4.world)
            (first
              | (go_at_call 14; (with_reducible refine hPu.mono ?_); rintro e w3 ⟨rfl, H3⟩; have hRu := qp_rpush H3 q hpk; rw [hE] at hRu)
              | (go_at_call 16; (with_reducible refine hRu.mono ?_); rintro e w4 ⟨rfl, H4⟩))
          have hSm := qp_same H4
          go_wp2_with (go_at_call 12; (with_reducible refine hSm.mono ?_); rintro e w7 ⟨rfl, hb7⟩; have H7 := H4.below hb7)
          exact ⟨⟨k + 1, rfl, by omega, by rw [hs.out]; exact H7⟩, by simp [intOf]; omega⟩
    · obtain rfl : k = n := by omega
      have i1 : ¬ (k : Int) < (k : Int) := by omega
      go_wp2
      go_ret
      exact ⟨rfl, H.world⟩
theorem QueueHolds_walk (P R : Int) (a : Option Addr) (n c : Nat) (xs : Nat → Aq) (at0 : Int) (w0 : World) (hI : IsActs w0 a n c xs) (hok : ∀ i, (xs i).ok) (hcm : c ≤ maxLen) (hnn : a = none → n = 0 ∧ c = 0) :
    Calls Try.prog 3 #[eI P, eI R, .slice a n c, eI at0] w0 fun e w' => e = .returned (.bool true) ∧ Below w0.heap.size w0 w' := by
  by_cases hn : n ≤ 150
  · by_cases hP : roomy P R
    · exact QueueHolds_some P R a n c xs at0 w0 hP hn hI hok
    · have hN := New_no P R w0 hP
      have hRN := RNew_no P R w0 hP
      have j0 : ¬ (150 : Int) < (n : Int) := by omega
      clear hI hok hcm hnn
      go_enter Try.func3, Try.ntmps3
      go_wp2_with (first
        | (go_at_call 9; (with_reducible refine hN.mono ?_); rintro e w1 ⟨rfl, rfl⟩)
        | (go_at_call 10; (with_reducible refine hRN.mono ?_); rintro e w2 ⟨rfl, rfl⟩))
      go_ret
      exact ⟨rfl, Below.refl _ _⟩
  · have j0 : (150 : Int) < (n : Int) := by omega
    clear hI hok hcm hnn
    go_enter Try.func3, Try.ntmps3
    go_wp2
    go_ret
    exact ⟨rfl, Below.refl _ _⟩
end Go.Proofs.Ytlfpaebfpmjclaa
