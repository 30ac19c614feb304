/- QueueOrder: its walk. No condition. -/
import Derived.Test.YtlfpaebfpmjclaaQO
namespace Go.Proofs.Ytlfpaebfpmjclaa
open Go.RowKit
set_option linter.unusedVariables false
/-- A row appended onto one that the call owns. -/
theorem wpList_rows {w : World} {ops : Array Oper} {rest : List Oper} {o : Oper} {a : Go.Act} {Q : Exit → Go.Act → World → Prop} (hgd : o.guard = none) (s x : Operand)
    (ho : o.op = .call { callee := .builtin .append, args := #[s, x], argTypes := #[42, 42] })
    (m : Nat) (v u : Value) (X Y : List Pk) (hs : a.eval s = v) (hown : w.ownsRow m 31 4 v X.length (rowV X)) (hx : a.eval x = u) (hu : w.ownsRow 0 31 4 u Y.length (rowV Y)) (hl : X.length + Y.length ≤ 5000) (hbase : m ≤ w.heap.size)
    (h : ∀ v' w', w'.ownsRow m 31 4 v' (X ++ Y).length (rowV (X ++ Y)) → w.grownBy w' v.ownBlock → (v'.ownBlock = v.ownBlock ∨ v'.ownBlock = some w.heap.size) → wpList Try.prog ops Q rest (a.put o.dst v') w') :
    wpList Try.prog ops Q (o :: rest) a w := by
  obtain ⟨i0, hi, hz0, hz1, hz2⟩ := info_parts infoP
  rcases hu.2 with ⟨rfl, h0⟩ | ⟨g, cap, cur, rfl, h1, h2, h3, h4, h5, h6⟩
  · have e : Y = [] := List.eq_nil_of_length_eq_zero h0
    subst e
    rw [List.append_nil] at h
    have hr := run_append_owned_none (P := Try.prog) w m 42 o.type 31 i0 4 Try.underlying42 hi v X.length (rowV X) hown
    refine wpList_plain hgd fun K hK => ?_
    unfold Oper.wp execOp
    simp only [ho, resolve, invoke, builtin, Sem.run_bind, Sem.run_pure, Result.andThen_ok, List.map_toArray, List.map_cons, List.map_nil, hs, hx, hr]
    exact hK _ _ (h v w hown (World.grownBy.refl w _) (.inl rfl))
  · obtain ⟨v', w', hr, k2, k3, k4, k5⟩ := run_append_own_at (P := Try.prog) w m 42 o.type 31 i0 _ 4 32 Try.underlying42 hi hz0 hz1 hz2 rfl (by decide) v X.length (rowV X) hown ⟨g, 0, none⟩ Y.length cap (rowV Y) (rowV_len Y) (fun j z hz => by
      have := cells_of (n := Y.length) (D := Y) h2 h6 j z hz
      rw [add_plain, Nat.zero_add]; exact this) (rowV_one Y) (by unfold maxLen; omega) (by omega) hbase
    rw [← rowV_append] at k2
    refine wpList_plain hgd fun K hK => ?_
    unfold Oper.wp execOp
    simp only [ho, resolve, invoke, builtin, Sem.run_bind, Sem.run_pure, Result.andThen_ok, List.map_toArray, List.map_cons, List.map_nil, hs, hx, hr]
    exact hK _ _ (h v' w' (by rw [List.length_append]; exact k2) k3 k5)
/-- A queue; what was taken; what is gone. -/
def Or (w0 W : World) (B : Nat) (P R : Int) (L : List Pk) (vT : Value) (T : List Pk) (vG : Value) (G : List Pk) : Prop := ∃ χ, Fr w0 χ W ∧ Qu W χ 1 B P R L ∧ Ro W χ 2 vT T ∧ Ro W χ 3 vG G
/-- The same, and what all were. -/
def Ost (w0 W : World) (B : Nat) (P R : Int) (L : List Pk) (vT : Value) (T : List Pk) (vG : Value) (G : List Pk) (u : Value) (X : List Pk) : Prop := ∃ χ, Fr w0 χ W ∧ Qu W χ 1 B P R L ∧ Ro W χ 2 vT T ∧ Ro W χ 3 vG G ∧ Ro W χ 4 u X
section
variable {w0 w w' : World} {B : Nat} {P R : Int} {L T G X : List Pk} {vT vG u : Value}
theorem Or.one (h : Or w0 w B P R L vT T vG G) : On w0 w B P R L := by obtain ⟨χ, h1, h2, h3, h4⟩ := h; exact ⟨χ, h1, h2⟩
theorem Ost.or (h : Ost w0 w B P R L vT T vG G u X) : Or w0 w B P R L vT T vG G := by obtain ⟨χ, h1, h2, h3, h4, h5⟩ := h; exact ⟨χ, h1, h2, h3, h4⟩
theorem Or.below (h : Or w0 w B P R L vT T vG G) (k : Below w.heap.size w w') : Or w0 w' B P R L vT T vG G := by obtain ⟨χ, h1, h2, h3, h4⟩ := h; exact ⟨χ, h1.below k, h2.below k, h3.below k, h4.below k⟩
theorem Ost.below (h : Ost w0 w B P R L vT T vG G u X) (k : Below w.heap.size w w') : Ost w0 w' B P R L vT T vG G u X := by obtain ⟨χ, h1, h2, h3, h4, h5⟩ := h; exact ⟨χ, h1.below k, h2.below k, h3.below k, h4.below k, h5.below k⟩
theorem Or.rows (h : Or w0 w B P R L vT T vG G) : w.ownsRow 0 31 4 vT T.length (rowV T) ∧ w.ownsRow 0 31 4 vG G.length (rowV G) := by obtain ⟨χ, h1, h2, h3, h4⟩ := h; exact ⟨h3.1, h4.1⟩
theorem Ost.row (h : Ost w0 w B P R L vT T vG G u X) : w.ownsRow 0 31 4 u X.length (rowV X) := by obtain ⟨χ, h1, h2, h3, h4, h5⟩ := h; exact h5.1
theorem Or.start (h : On w0 w B P R L) : Or w0 w B P R L (.slice none 0 0) [] (.slice none 0 0) [] := by obtain ⟨χ, h1, h2⟩ := h; exact ⟨χ, h1, h2, Ro.nil _ _ _, Ro.nil _ _ _⟩
theorem or_all (h : Or w0 w B P R L vT T vG G) : Calls Try.prog 21 #[.pointer (some ⟨B, 0, none⟩)] w fun e w' => ∃ v, e = .returned v ∧ w'.ownsRow 0 31 4 v L.length (rowV L) ∧ Below w.heap.size w w' ∧ Ost w0 w' B P R L vT T vG G v L := by
  obtain ⟨χ, h1, h2, h3, h4⟩ := h
  exact (qu_all h2).mono fun e w' ⟨v, x, y, z⟩ => ⟨v, x, own_mono y (Nat.zero_le _), z, _, h1.next (Col.new (c := 1) z 4) (by decide), h2.new z 4, h3.new z 4, h4.new z 4, Ro.made y 4⟩
theorem os_push (h : Ost w0 w B P R L vT T vG G u X) (q : Pk) (hok : q.ok) : Calls Try.prog 14 #[.pointer (some ⟨B, 0, none⟩), pkV q] w fun e w' => e = .returned (eI (pushE P R L q)) ∧ Ost w0 w' B P R (pushL P R L q) vT T vG G u X := by
  obtain ⟨χ, h1, h2, h3, h4, h5⟩ := h
  exact (qu_push h2 q hok).mono fun e w' ⟨x, χ', y, z⟩ => ⟨x, χ', h1.next z (by decide), y, h3.other z (by decide), h4.other z (by decide), h5.other z (by decide)⟩
theorem os_pop (h : Ost w0 w B P R L vT T vG G u X) : Calls Try.prog 13 #[.pointer (some ⟨B, 0, none⟩)] w fun e w' => e = .returned (.tuple #[pkV (headP L), .bool (headB L)]) ∧ Or w0 w' B P R L.tail vT T vG G := by
  obtain ⟨χ, h1, h2, h3, h4, h5⟩ := h
  exact (qu_pop h2).mono fun e w' ⟨x, χ', y, z⟩ => ⟨x, χ', h1.next z (by decide), y, h3.other z (by decide), h4.other z (by decide)⟩
/-- One row has grown. -/
theorem Ro.grown {χ : Nat → Nat} {c : Nat} {v v' : Value} {Y : List Pk} (h : Ro w χ c v X) (hO : w'.ownsRow 0 31 4 v' Y.length (rowV Y)) (hg : w.grownBy w' v.ownBlock) (hat : ∀ g, v'.ownBlock = some g → v.ownBlock = some g ∨ w.heap.size ≤ g) :
    Ro w' (recol χ w.heap.size c) c v' Y ∧ Col χ (recol χ w.heap.size c) c w w' := by
  refine ⟨⟨hO, fun g hg' => ?_⟩, hg.os, hg.tape, hg.output, hg.size, fun k hk => recol_lt hk, fun k hk hn => hg.block k hk (fun e => hn (h.2 k e.symm))⟩
  rcases hat g hg' with e | e
  · exact (recol_lt (h.1.lt g e).2).trans (h.2 g e)
  · exact recol_ge e
theorem or_gone (h : Or w0 w B P R L vT T vG G) {g cap : Nat} {q : Pk} (hO : w'.ownsRow 0 31 4 (.slice (some ⟨g, 0, none⟩) (G.length + 1) cap) (G.length + 1) (rowV (G ++ [q]))) (hg : w.grownBy w' vG.ownBlock) (hat : vG.ownBlock = some g ∨ g = w.heap.size) :
    Or w0 w' B P R L vT T (.slice (some ⟨g, 0, none⟩) (G.length + 1) cap) (G ++ [q]) := by
  obtain ⟨χ, h1, h2, h3, h4⟩ := h
  obtain ⟨a, b⟩ := h4.grown (Y := G ++ [q]) (v' := .slice (some ⟨g, 0, none⟩) (G.length + 1) cap) (by rw [List.length_append]; exact hO) hg (fun g' e => by
    have e' : g = g' := by simpa [Value.ownBlock] using e
    subst e'
    exact hat.imp id (fun e => by omega))
  exact ⟨_, h1.next b (by decide), h2.other b (by decide), h3.other b (by decide), a⟩
theorem or_taken (h : Or w0 w B P R L vT T vG G) {g cap : Nat} {q : Pk} (hO : w'.ownsRow 0 31 4 (.slice (some ⟨g, 0, none⟩) (T.length + 1) cap) (T.length + 1) (rowV (T ++ [q]))) (hg : w.grownBy w' vT.ownBlock) (hat : vT.ownBlock = some g ∨ g = w.heap.size) :
    Or w0 w' B P R L (.slice (some ⟨g, 0, none⟩) (T.length + 1) cap) (T ++ [q]) vG G := by
  obtain ⟨χ, h1, h2, h3, h4⟩ := h
  obtain ⟨a, b⟩ := h3.grown (Y := T ++ [q]) (v' := .slice (some ⟨g, 0, none⟩) (T.length + 1) cap) (by rw [List.length_append]; exact hO) hg (fun g' e => by
    have e' : g = g' := by simpa [Value.ownBlock] using e
    subst e'
    exact hat.imp id (fun e => by omega))
  exact ⟨_, h1.next b (by decide), h2.other b (by decide), a, h4.other b (by decide)⟩
/-- All that went, and all that is left. -/
theorem or_end (h : Or w0 w B P R L vT T vG G) {v' : Value} {Y : List Pk} (hO : w'.ownsRow 0 31 4 v' Y.length (rowV Y)) (hg : w.grownBy w' vG.ownBlock) (hat : v'.ownBlock = vG.ownBlock ∨ v'.ownBlock = some w.heap.size) : Or w0 w' B P R L vT T v' Y := by
  obtain ⟨χ, h1, h2, h3, h4⟩ := h
  obtain ⟨a, b⟩ := h4.grown (Y := Y) (v' := v') hO hg (fun g' e => by
    rcases hat with k | k
    · exact .inl (by rw [← k]; exact e)
    · rw [k] at e; cases e; exact .inr (Nat.le_refl _))
  exact ⟨_, h1.next b (by decide), h2.other b (by decide), h3.other b (by decide), a⟩
end
set_option maxHeartbeats 8000000 in
set_option maxRecDepth 100000 in
theorem QueueOrder_some (P R : Int) (a : Option Addr) (n c : Nat) (xs : Nat → Aq) (w0 : World) (hP : roomy P R) (hn : n ≤ 200) (hI : IsActs w0 a n c xs) (hok : ∀ i, (xs i).ok) :
    Calls Try.prog 5 #[eI P, eI R, .slice a n c] w0 fun e w' => e = .returned (.bool true) ∧ Below w0.heap.size w0 w' := by
  have hA := awake_any w0
  have hN : ∀ w, Below w0.heap.size w0 w → Calls Try.prog 9 #[eI P, eI R] w fun e w' => ∃ C, e = .returned (.pointer (some ⟨C, 0, none⟩)) ∧ On w0 w' C P R [] := fun w hw => on_new hw hP
  have j0 : ¬ (200 : Int) < (n : Int) := by omega
  have j1 : (n : Int) ≤ (c : Int) := by have := hI.1; omega
  have hIh := Lib.hid hI
  have hoh := Lib.hid hok
  have hPh := Lib.hid hP
  clear hI hok hP
  go_enter Try.func5, Try.ntmps5
  go_wp2_with (first
    | (go_at_call 22; (with_reducible refine hA.mono ?_); rintro e w1 ⟨rfl, T⟩; have hN1 := hN _ T)
    | (go_at_call 9; (with_reducible refine hN1.mono ?_); rintro e w2 ⟨B, rfl, H⟩))
  clear hN1 hN hA T
  replace H := Or.start H
  go_loopw [8, 9, 10] (fun s8 s9 s10 wr => ∃ (k : Nat) (T G : List Pk), s10 = .int .i64 k ∧ k ≤ n ∧ Or w0 wr B P R (runL P R xs [] k) s8 T s9 G ∧ G ++ runL P R xs [] k = T ∧ T.length ≤ k) (fun s8 s9 s10 _ => n - (intOf s10).toNat)
  case atStart => exact ⟨0, [], [], rfl, by omega, H, rfl, Nat.le_refl _⟩
  case round =>
    clear H
    obtain ⟨k, T, G, rfl, hk, H, hT, hTl⟩ := hrel
    obtain ⟨L, hL⟩ : ∃ L, runL P R xs [] k = L := ⟨_, rfl⟩
    rw [hL] at H hT
    have hGL : G.length + L.length ≤ 200 := by have := congrArg List.length hT; rw [List.length_append] at this; omega
    replace hT := Lib.hid hT
    by_cases hlt : k < n
    · have i1 : (k : Int) < (n : Int) := by omega
      have i2 : (0 : Int) ≤ (k : Int) := by omega
      have hw1 : IntKind.i64.wrap ((k : Int) + 1) = (k : Int) + 1 := i64_id (by omega)
      obtain ⟨b, o, rfl, hbw, hx⟩ := act_at hIh.out k hlt
      cases hpop : (xs k).pop with
      | true =>
        have hs : runL P R xs [] (k + 1) = L.tail := by rw [runL_pop hpop, hL]
        simp only [hpop] at hx
        replace hx := Lib.hid hx
        replace hs := Lib.hid hs
        clear hL hpop
        go_upto_region 11 with (go_at_call 21; (with_reducible refine (or_all H).mono ?_); rintro e w3 ⟨u, rfl, hO, hb, H3⟩; obtain ⟨ua, uc, rfl, _, _⟩ := own_len hO; clear hO hb)
        clear H
        obtain ⟨x0, x1, x2, x3, x4⟩ := hx.out _ H3.or.one.world
        cases L with
        | nil =>
          have hPo : Calls Try.prog 13 #[.pointer (some ⟨B, 0, none⟩)] w3 fun e w' => e = .returned (.tuple #[.agg #[.int .u64 0, .int .i64 0, .int .i64 0, .int .u64 0], .bool false]) ∧ Or w0 w' B P R [] u8 T u9 G := os_pop H3
          go_upto_region 13 with (go_at_call 13; (with_reducible refine hPo.mono ?_); rintro e w4 ⟨rfl, H4⟩; have H5 := H4.below (up1 w4 (.cells zA 31)))
          go_wp2
          exact ⟨⟨k + 1, T, G, rfl, by omega, by rw [hs.out]; exact H5, by rw [hs.out]; exact hT.out, by omega⟩, by simp [intOf]; omega⟩
        | cons q L =>
          have hPo : Calls Try.prog 13 #[.pointer (some ⟨B, 0, none⟩)] w3 fun e w' => e = .returned (.tuple #[pkV q, .bool true]) ∧ Or w0 w' B P R L u8 T u9 G := os_pop H3
          have hm : 0 < (q :: L).length := by simp
          have hG5 : G.length ≤ 5000 := by omega
          have hTq : G ++ [q] ++ L = T := by rw [List.append_assoc]; exact hT.out
          replace hTq := Lib.hid hTq
          clear hT H3 hGL
          generalize (q :: L).length = m at *
          go_upto_region 13 with (go_at_call 13; (with_reducible refine hPo.mono ?_); rintro e w4 ⟨rfl, H4⟩; have H5 := H4.below (up1 w4 (.cells (pkC q) 31)); have bq := Box.new w4 31 (pkC q))
          obtain ⟨W5, hW5⟩ : ∃ x, w4.alloc (.cells (pkC q) 31) = x := ⟨_, rfl⟩
          rw [hW5] at H5 bq ⊢
          clear hW5 H4 hPo x0 x1 x2 x3 x4
          obtain ⟨_, _, _, _, _, _, _, _⟩ := bq.four
          have hO5 := own_below H5.rows.2 (up1 W5 (.cells (pkC q) 31))
          go_wp2_with (at_builtin; refine wpList_push rfl (.tmp 51) (.tmp 53) rfl 0 u9 G.length G (by rfl) hO5 q _ _ (by rfl) (Box.new _ _ _) hG5 (Nat.zero_le _) ?_; intro g cap w6 hO6 hG6 hat6)
          exact ⟨⟨k + 1, T, G ++ [q], rfl, by omega, by rw [hs.out]; exact or_gone (H5.below (up1 W5 (.cells (pkC q) 31))) hO6 hG6 hat6, by rw [hs.out]; exact hTq.out, by omega⟩, by simp [intOf]; omega⟩
      | false =>
        have hs : runL P R xs [] (k + 1) = pushL P R L (xs k).p := by rw [runL_push hpop, hL]
        have hpk : (xs k).p.ok := hoh.out k
        simp only [hpop] at hx
        generalize (xs k).p = q at *
        have hT5 : T.length ≤ 5000 := by omega
        replace hx := Lib.hid hx
        clear hL hpop
        go_upto_region 11 with (go_at_call 21; (with_reducible refine (or_all H).mono ?_); rintro e w3 ⟨u, rfl, hO, hb, H3⟩; obtain ⟨ua, uc, rfl, _, _⟩ := own_len hO; clear hO hb)
        clear H
        obtain ⟨x0, x1, x2, x3, x4⟩ := hx.out _ H3.or.one.world
        have hPu := os_push H3 q hpk
        by_cases hE : pushE P R L q = 0
        · rw [hE, pushL_ok hE] at hPu
          rw [pushL_ok hE] at hs
          have hTq : G ++ (L ++ [q]) = T ++ [q] := by rw [← List.append_assoc, hT.out]
          replace hTq := Lib.hid hTq
          replace hs := Lib.hid hs
          clear hT hE hpk
          go_upto_region 18 with (go_at_call 14; (with_reducible refine hPu.mono ?_); rintro e w4 ⟨rfl, H4⟩)
          clear H3 hPu x0 x1 x2 x3 x4
          obtain ⟨x0, x1, x2, x3, x4⟩ := hx.out _ H4.or.one.world
          have hO5 := own_below H4.or.rows.1 (up1 w4 (.cells (pkC q) 31))
          go_wp2_with (at_builtin; refine wpList_push rfl (.tmp 64) (.tmp 70) rfl 0 u8 T.length T (by rfl) hO5 q _ _ (by rfl) (Box.new _ _ _) hT5 (Nat.zero_le _) ?_; intro g cap w6 hO6 hG6 hat6)
          exact ⟨⟨k + 1, T ++ [q], G, rfl, by omega, by rw [hs.out]; exact or_taken (H4.or.below (up1 w4 (.cells (pkC q) 31))) hO6 hG6 hat6, by rw [hs.out]; exact hTq.out, by simp; omega⟩, by simp [intOf]; omega⟩
        · rw [pushL_no hE] at hPu
          rw [pushL_no hE] at hs
          have hE' : (pushE P R L q == 0) = false := beq_eq_false_iff_ne.2 hE
          replace hs := Lib.hid hs
          generalize pushE P R L q = E at *
          have hLl : L.length ≤ 5000 := by omega
          clear hE hpk
          go_wp2_with (first
            | (go_at_call 14; (with_reducible refine hPu.mono ?_); rintro e w4 ⟨rfl, H4⟩; have hAl := or_all H4.or)
            | (go_at_call 21; (with_reducible refine hAl.mono ?_); rintro e w5 ⟨v, rfl, hO5, hb5, H5⟩; have hSa := Same_true v _ L _ hLl hO5 (own_below H4.row hb5))
            | (go_at_call 23; (with_reducible refine hSa.mono ?_); rintro e w6 ⟨rfl, hb6⟩; have H6 := H5.or.below hb6))
          exact ⟨⟨k + 1, T, G, rfl, by omega, by rw [hs.out]; exact H6, by rw [hs.out]; exact hT.out, by omega⟩, by simp [intOf]; omega⟩
    · obtain rfl : k = n := by omega
      have i1 : ¬ (k : Int) < (k : Int) := by omega
      have hl5 : T.length ≤ 5000 := by omega
      have hl6 : G.length + L.length ≤ 5000 := by omega
      go_wp2_with (first
        | (go_at_call 21; (with_reducible refine (or_all H).mono ?_); rintro e w3 ⟨u, rfl, hO, hb, H3⟩; obtain ⟨ua, uc, rfl, _, _⟩ := own_len hO)
        | (at_builtin; refine wpList_rows rfl (.tmp 77) (.tmp 79) rfl 0 u9 _ G L (by rfl) H3.or.rows.2 (by rfl) hO hl6 (Nat.zero_le _) ?_; intro v' w4 hO4 hG4 hat4; rw [hT.out] at hO4; have H4 := or_end H3.or hO4 hG4 hat4; obtain ⟨va, vc, rfl, _, _⟩ := own_len hO4; have hSa := Same_true _ u8 T w4 hl5 hO4 H4.rows.1)
        | (go_at_call 23; (with_reducible refine hSa.mono ?_); rintro e w6 ⟨rfl, hb6⟩; have H6 := H4.below hb6))
      go_ret
      exact ⟨rfl, H6.one.world⟩
theorem QueueOrder_walk (P R : Int) (a : Option Addr) (n c : Nat) (xs : Nat → Aq) (w0 : World) (hI : IsActs w0 a n c xs) (hok : ∀ i, (xs i).ok) (hcm : c ≤ maxLen) (hnn : a = none → n = 0 ∧ c = 0) :
    Calls Try.prog 5 #[eI P, eI R, .slice a n c] w0 fun e w' => e = .returned (.bool true) ∧ Below w0.heap.size w0 w' := by
  have hA := awake_any w0
  by_cases hP : roomy P R
  · have hN : ∀ w, Below w0.heap.size w0 w → Calls Try.prog 9 #[eI P, eI R] w fun e w' => ∃ C, e = .returned (.pointer (some ⟨C, 0, none⟩)) ∧ On w0 w' C P R [] := fun w hw => on_new hw hP
    by_cases hn : n ≤ 200
    · exact QueueOrder_some P R a n c xs w0 hP hn hI hok
    · have j0 : (200 : Int) < (n : Int) := by omega
      clear hI hok hcm hnn
      go_enter Try.func5, Try.ntmps5
      go_wp2_with (first
        | (go_at_call 22; (with_reducible refine hA.mono ?_); rintro e w1 ⟨rfl, T⟩; have hN1 := hN _ T)
        | (go_at_call 9; (with_reducible refine hN1.mono ?_); rintro e w2 ⟨B, rfl, H⟩))
      go_ret
      exact ⟨rfl, H.world⟩
  · have hN : ∀ w, Calls Try.prog 9 #[eI P, eI R] w fun e w' => e = .returned (.pointer none) ∧ w = w' := fun w => New_no P R w hP
    clear hI hok hcm hnn
    go_enter Try.func5, Try.ntmps5
    go_wp2_with (first
      | (go_at_call 22; (with_reducible refine hA.mono ?_); rintro e w1 ⟨rfl, T⟩)
      | (go_at_call 9; (with_reducible refine (hN _).mono ?_); rintro e w2 ⟨rfl, rfl⟩))
    go_ret
    exact ⟨rfl, T⟩
end Go.Proofs.Ytlfpaebfpmjclaa
