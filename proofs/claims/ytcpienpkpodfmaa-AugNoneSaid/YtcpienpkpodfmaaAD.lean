/- The tree of ids: Drop and Put, over a row of items. No condition but words, and that there aren't too many. -/
import Derived.Test.YtcpienpkpodfmaaAC
namespace Go.Proofs.Ytcpienpkpodfmaa
open Go.RowKit Go.Shelf Go.Maps
set_option linter.unusedVariables false
theorem Off.trans {S : Nat → Prop} {a b c : World} (h : Off S a b) (k : Off S b c) : Off S a c :=
  ⟨k.os.trans h.os, k.tape.trans h.tape, k.output.trans h.output, Nat.le_trans h.size k.size, fun i hi hn => (k.block i (Nat.lt_of_lt_of_le hi h.size) hn).trans (h.block i hi hn)⟩
theorem Off.ofBut {S : Nat → Prop} {a b : World} {B : Nat} (h : But B a b) (hB : S B) : Off S a b :=
  ⟨h.os, h.tape, h.output, h.size, fun k hk hn => h.block k hk (fun e => hn (by rw [e]; exact hB))⟩
section
variable {w W : World} {m B Bm Bt : Nat} {L : List It}
theorem AugX.more {m' : Nat} (h : AugX w W m B Bm Bt L) (hm : m ≤ m') : AugX w W m' B Bm Bt L := by
  obtain ⟨nn, h1, h2, h3, h4, h5, h6, h7, h8⟩ := h
  exact ⟨nn, h1, h2, h3, h4, by omega, by omega, h7, h8⟩
theorem AugX.rise (h : AugX w W m B Bm Bt L) : Rise L := h.aug.rise
theorem AugX.fine (h : AugX w W m B Bm Bt L) : Fine L := h.aug.fine
set_option maxRecDepth 100000 in
set_option maxHeartbeats 2000000 in
theorem augx_drop (i : Int) (hi : Inte i) (hm : m ≤ 5000) (h : AugX w W m B Bm Bt L) : Calls Try.prog 13 #[.pointer (some ⟨B, 0, none⟩), eI i] W fun e w' => e = .returned (.bool (getA i L).isSome) ∧ AugX w w' m B Bm Bt (dropA i L) ∧ Off (fun k => k = Bm ∨ k = Bt) W w' := by
  have hP := place_at i hi h.aug
  cases hg : getA i L with
  | none =>
    rw [num_none hg] at hP
    rw [dropA_none hg]
    clear hg
    replace hP : Calls Try.prog 40 #[.pointer (some ⟨B, 0, none⟩), eI i] W fun e w' => e = .returned (.tuple #[.agg #[eU 0, eI i], .bool false]) ∧ Below W.heap.size W w' := hP
    go_enter Try.func13, Try.ntmps13
    go_wp2_with (go_at_call 40; (with_reducible refine hP.mono ?_); rintro e w1 ⟨rfl, hb⟩)
    go_ret
    exact ⟨rfl, h.below (upp hb (up1 _ _)), Off.of (upp hb (up1 _ _))⟩
  | some a =>
    have hF := h.fine
    have hr := h.rise
    obtain ⟨ha, hai⟩ := (getA_some hF).1 hg
    have hnum := num_drop (i := i) hF
    have hdel := dropA_del hF hg
    rw [num_some hg] at hP
    obtain ⟨nn, h1, h2, h3, _, h5, h6, h7, h8⟩ := h
    replace hP : Calls Try.prog 40 #[.pointer (some ⟨B, 0, none⟩), eI i] W fun e w' => e = .returned (.tuple #[.agg #[eU a.1.1, eI i], .bool true]) ∧ Below W.heap.size W w' := hP
    generalize a.1.1 = n at *
    go_enter Try.func13, Try.ntmps13
    go_upto_region 4 with (go_at_call 40; (with_reducible refine hP.mono ?_); rintro e w1 ⟨rfl, hb1⟩)
    have T1 := upp hb1 (up1 w1 (.cells #[eU n, eI i] 59))
    have bP := Box.new w1 59 #[eU n, eI i]
    obtain ⟨W1, hW1⟩ : ∃ z, w1.alloc (.cells #[eU n, eI i] 59) = z := ⟨_, rfl⟩
    rw [hW1] at T1 bP ⊢
    clear hW1 hP hb1
    have g1 := h1.below T1
    have g2 := h2.below T1
    have g3 := h3.below T1
    obtain ⟨pt, g4⟩ := g3.box
    have nBm : B ≠ Bm := fun e => by subst e; exact g2.unbox _ _ g1
    have nBt : B ≠ Bt := box_ne g1 g4 (by decide)
    have nPm : w1.heap.size ≠ Bm := fun e => by subst e; exact g2.unbox _ _ bP
    have nmt : Bm ≠ Bt := fun e => by subst e; exact g2.unbox _ _ g4
    have c0 := g1.cell 0
    go_upto_region 5 with (at_delete; refine del_u rfl _ _ rfl g2 rfl i rfl hi ?_; intro w2 hM2 hgr2)
    have hbu := But.of_grown hgr2
    have q1 := hbu.box g1 nBm
    have q3 := g3.turn hbu g2.unbox
    have qP := hbu.box bP nPm
    have T2 := h8.trans ((T1.mono h8.size).trans (hbu.below h7.2.1 (Nat.le_trans h8.size T1.size)))
    have hD : Calls Try.prog 41 #[.pointer (some ⟨Bt, 0, none⟩), .agg #[eU n, eI i]] w2.drew fun e w' => ∃ z : Int, e = .returned (eI z) ∧ Ob w' Bt (dropA i L) ∧ But Bt w2 w' :=
      (ob_drop (n, i) (by omega) (q3.below (Below.refl _ w2).drew)).mono fun e w' ⟨x1, x2, x3⟩ => ⟨_, x1, by rw [← hdel]; exact x2, (But.mk_below (Below.refl _ w2).drew).trans x3⟩
    have c1 := q1.cell 1
    obtain ⟨k0, k1⟩ := kyC (k := (n, i)) qP
    have hz2 := hbu.size
    have hz1 := T1.size
    clear c0 g1 g2 g3 g4 bP h1 h2 h3 hgr2
    have hX : ∀ w', Ob w' Bt (dropA i L) ∧ But Bt w2 w' → AugX w w' m B Bm Bt (dropA i L) ∧ Off (fun k => k = Bm ∨ k = Bt) W w' := fun w' ⟨x1, x2⟩ => by
      obtain ⟨pq, x3⟩ := q3.box
      refine ⟨⟨nn, x2.box q1 nBt, ?_, x1, fine_dropA hF, h5, Nat.le_trans dropA_len h6, h7, T2.trans (x2.below h7.2.2 T2.size)⟩, ((Off.of T1).trans (Off.ofBut hbu (.inl rfl))).trans (Off.ofBut x2 (.inr rfl))⟩
      rw [hnum]
      exact hM2.but x2 nmt
    clear hM2 q1 q3 qP hdel hnum T2 hbu
    go_still_tail 5, (by kernel_rfl)
    change wpList _ _ _ _ _ w2.drew
    generalize w2.drew = W3 at *
    go_wp2_with (go_at_call 41; (with_reducible refine hD.mono ?_); rintro e w4 ⟨z, rfl, hO, hb4⟩)
    go_ret
    exact ⟨rfl, hX _ ⟨hO, hb4⟩⟩
theorem aug_drop {w W : World} {m B : Nat} {L : List It} (i : Int) (hi : Inte i) (hm : m ≤ 5000) (h : Aug w W m B L) : Calls Try.prog 13 #[.pointer (some ⟨B, 0, none⟩), eI i] W fun e w' => e = .returned (.bool (getA i L).isSome) ∧ Aug w w' m B (dropA i L) ∧ W.heap.size ≤ w'.heap.size := by
  obtain ⟨Bm, Bt, h⟩ := h.x
  exact (augx_drop i hi hm h).mono fun e w' ⟨x1, x2, x3⟩ => ⟨x1, x2.aug, x3.size⟩
theorem has_mem {k : Ky} {L : List It} (h : has k L = true) : (k, valL k L) ∈ L := by
  unfold has at h
  rw [List.any_eq_true] at h
  obtain ⟨a, ha, e⟩ := h
  have e : a.1 = k := by simpa using e
  unfold valL
  cases hf : L.find? (fun a => decide (a.1 = k)) with
  | none => have := List.find?_eq_none.1 hf a ha; simp [e] at this
  | some b =>
    have h1 := List.mem_of_find?_eq_some hf
    have h2 : b.1 = k := by have := List.find?_some hf; simpa using this
    show (k, b.2) ∈ L
    rw [← h2]
    exact h1
theorem box_at {W : World} {B : Nat} {vs : Array Value} {t : TypeId} {i : Nat} {v : Value} (h : Box W B vs t) (e : vs[i]? = some v) : W.cell? ⟨B, i, none⟩ = some v := (h.cell i).trans e
set_option maxRecDepth 100000 in
set_option maxHeartbeats 4000000 in
theorem augx_put (x : It) (hx : Word x.1.1 ∧ Inte x.1.2 ∧ Word x.2) (hm : m ≤ 4000) (h : AugX w W m B Bm Bt L) : Calls Try.prog 12 #[.pointer (some ⟨B, 0, none⟩), eI x.1.2, eU x.1.1, eU x.2] W fun e w' => e = .returned (.tuple #[]) ∧ AugX w w' (m + 1) B Bm Bt (putA x L) ∧ Off (fun k => k = Bm ∨ k = Bt) W w' := by
  have hF := h.fine
  have hr := h.rise
  have hlt : Bm < W.heap.size ∧ Bt < W.heap.size := by obtain ⟨nn, h1, h2, h3, _⟩ := h; exact ⟨h2.lt, h3.lt⟩
  have hrow := fun w1 (hb : Below W.heap.size W w1) => (show Calls Try.prog 37 #[.pointer (some ⟨B, 0, none⟩)] w1 fun e w' => e = .returned (.pointer (some ⟨Bt, 0, none⟩)) ∧ w1 = w' from by
    obtain ⟨nn, h1, _⟩ := h
    exact row_at B Bt w1 ((h1.below hb).cell 1))
  have hrow := hrow W (Below.refl _ _)
  have hG := fun w1 (hb : Below W.heap.size W w1) => (show Calls Try.prog 38 #[.pointer (some ⟨Bt, 0, none⟩), ky x.1] w1 fun e w' => e = .returned (.tuple #[mV (mkV x.1 L), .bool (has x.1 L)]) ∧ Below w1.heap.size w1 w' from by
    obtain ⟨nn, h1, h2, h3, _⟩ := h
    exact ob_get x.1 (h3.below hb))
  obtain ⟨g, hg⟩ : ∃ g, mkV x.1 L = g := ⟨_, rfl⟩
  obtain ⟨s, hs⟩ : ∃ s, has x.1 L = s := ⟨_, rfl⟩
  rw [hg, hs] at hG
  have hsame : s = true → g = (x.2, x.1.2) → putA x L = L := fun e1 e2 => by
    subst e1
    have := has_mem hs
    have e3 : valL x.1 L = x.2 := by
      have e4 : mkV x.1 L = (valL x.1 L, x.1.2) := by unfold mkV; rw [hs]; rfl
      rw [hg, e2] at e4
      exact (congrArg Prod.fst e4).symm
    rw [e3] at this
    exact putA_same hr hF this
  have hid : s = true → g.2 = x.1.2 := fun e1 => by
    subst e1
    rw [← hg]; unfold mkV; rw [hs]; rfl
  have T0 := up2 W (.cells #[eU x.1.1, eI x.1.2] 59) (.cells #[eU x.2, eI x.1.2] 61)
  have b1 := (Box.new W 59 #[eU x.1.1, eI x.1.2]).alloc (.cells #[eU x.2, eI x.1.2] 61)
  have b2 := Box.new (W.alloc (.cells #[eU x.1.1, eI x.1.2] 59)) 61 #[eU x.2, eI x.1.2]
  simp only [World.size_alloc] at b2
  obtain ⟨W0, hW0⟩ : ∃ v, (W.alloc (.cells #[eU x.1.1, eI x.1.2] 59)).alloc (.cells #[eU x.2, eI x.1.2] 61) = v := ⟨_, rfl⟩
  rw [hW0] at T0 b1 b2
  have hG := hG W0 T0
  obtain ⟨k0, k1⟩ := kyC b1
  obtain ⟨m0, m1⟩ := mkC (s := mkO x) b2
  clear hg hs
  go_enter Try.func12, Try.ntmps12
  go_upto_region 4 with (first
    | (go_at_call 37; (with_reducible refine hrow.mono ?_); rintro e w1 ⟨rfl, rfl⟩)
    | (go_at_call 38; (with_reducible refine hG.mono ?_); rintro e w2 ⟨rfl, hb2⟩))
  have T2 := (upp T0 hb2).alloc (upp T0 hb2).size (.cells #[eU g.1, eI g.2] 61)
  have q1 := (b1.below hb2).alloc (.cells #[eU g.1, eI g.2] 61)
  have q2 := (b2.below hb2).alloc (.cells #[eU g.1, eI g.2] 61)
  have q3 := Box.new w2 61 #[eU g.1, eI g.2]
  obtain ⟨W2, hW2⟩ : ∃ v, w2.alloc (.cells #[eU g.1, eI g.2] 61) = v := ⟨_, rfl⟩
  rw [hW2] at T2 q1 q2 q3 ⊢
  clear hW2 hW0 hrow hG b1 b2 k0 k1 m0 m1 hb2 T0
  obtain ⟨g0, g1⟩ := mkC q3
  obtain ⟨m0, m1⟩ := mkC (s := mkO x) q2
  have hx1 := h.below T2
  clear h
  go_cut [34] (fun s34 wx => ∃ t : Bool, s34 = .bool t ∧ W2 = wx ∧ (t = true → putA x L = L))
  case first =>
    cases s with
    | false =>
      go_wp2
      go_meet
      exact ⟨false, rfl, rfl, fun e => by cases e⟩
    | true =>
      have e2 : (g.2 == x.1.2) = true := by simpa using hid rfl
      by_cases hv : g.1 = x.2
      · have e1 : (g.1 == x.2) = true := by simpa using hv
        have hP := hsame rfl (Prod.ext hv (hid rfl))
        clear hsame hid hv
        go_wp2
        go_meet
        exact ⟨true, rfl, rfl, fun _ => hP⟩
      · have e1 : (g.1 == x.2) = false := by simpa using hv
        clear hsame hid hv
        go_wp2
        go_meet
        exact ⟨false, rfl, rfl, fun e => by cases e⟩
  case rest =>
    obtain ⟨t, rfl, rfl, ht⟩ := hcut
    clear hsame hid g0 g1 q3
    cases t with
    | true =>
      have hsq := Lib.hid (ht rfl)
      clear ht
      go_wp2
      exact bodyPost_ret (v := .tuple #[]) (results_none rfl _ _ _) rfl ⟨rfl, by rw [hsq.out]; exact hx1.more (Nat.le_succ _), Off.of T2⟩
    | false =>
      clear ht m0 m1
      have hD := augx_drop x.1.2 hx.2.1 (by omega) hx1
      have hltm : Bm < W.heap.size ∧ Bt < W.heap.size := hlt
      go_upto_region 6 with (go_at_call 13; (with_reducible refine hD.mono ?_); rintro e w3 ⟨rfl, hx3, hO3⟩)
      have p1 := hO3.box q1 (by omega)
      have p2 := hO3.box q2 (by omega)
      clear hD hx1 q1 q2
      have hF3 := hx3.fine
      have hr3 := hx3.rise
      have hput := num_put hx hF
      obtain ⟨nn, h1, h2, h3, h4, h5, h6, h7, h8⟩ := hx3
      obtain ⟨pt, g4⟩ := h3.box
      have nBm : B ≠ Bm := fun e => by subst e; exact h2.unbox _ _ h1
      have nmt : Bm ≠ Bt := fun e => by subst e; exact h2.unbox _ _ g4
      have nBt : B ≠ Bt := box_ne h1 g4 (by decide)
      have c0 := h1.cell 0
      have hi := hx.2.1
      have hk := hx.1
      go_upto_region 7 with (at_mapUpdate; refine upd_u rfl _ _ _ rfl h2 (by omega) rfl x.1.2 x.1.1 rfl hi rfl hk ?_; intro w4 hM4 hgr4)
      have hbu := But.of_grown hgr4
      have o1 := hbu.box h1 nBm
      have o3 := h3.turn hbu h2.unbox
      have r1 := hbu.box p1 (by omega)
      have r2 := hbu.box p2 (by omega)
      have T4 := h8.trans (hbu.below h7.2.1 h8.size)
      have hno : has x.1 (dropA x.1.2 L) = false := by
        cases e : has x.1 (dropA x.1.2 L) with
        | false => rfl
        | true => obtain ⟨v, hv⟩ := has_iff.1 e; exact absurd rfl (not_mem_dropA _ hv)
      have hPut : Calls Try.prog 39 #[.pointer (some ⟨Bt, 0, none⟩), ky x.1, mV (mkO x)] w4 fun e w' => ∃ z : Int, e = .returned (eI z) ∧ Ob w' Bt (putA x L) ∧ But Bt w4 w' :=
        (ob_put x hx (by omega) o3).mono fun e w' ⟨x1, x2, x3⟩ => ⟨_, x1, by unfold putL at x2; rw [hno] at x2; exact x2, x3⟩
      obtain ⟨k0, k1⟩ := kyC r1
      obtain ⟨m0, m1⟩ := mkC (s := mkO x) r2
      have hlen : (putA x L).length ≤ m + 1 := by unfold putA; rw [ins_len]; omega
      have hfin : ∀ w', Ob w' Bt (putA x L) ∧ But Bt w4 w' → AugX w w' (m + 1) B Bm Bt (putA x L) ∧ Off (fun k => k = Bm ∨ k = Bt) W w' := fun w' ⟨x1, x2⟩ => by
        refine ⟨⟨nn + 1, x2.box o1 nBt, ?_, x1, fine_putA hx hF, by omega, hlen, h7, T4.trans (x2.below h7.2.2 T4.size)⟩, (((Off.of T2).trans hO3).trans (Off.ofBut hbu (.inl rfl))).trans (Off.ofBut x2 (.inr rfl))⟩
        rw [hput]
        exact hM4.but x2 nmt
      clear hM4 hgr4 hput o1 o3 r1 r2 p1 p2 h1 h2 h3 T4 c0 hO3 T2 hbu hno
      go_wp2_with (go_at_call 39; (with_reducible refine hPut.mono ?_); rintro e w5 ⟨z, rfl, hO5, hb5⟩)
      go_end0
      exact ⟨rfl, hfin _ ⟨hO5, hb5⟩⟩
theorem aug_put {w W : World} {m B : Nat} {L : List It} (x : It) (hx : Word x.1.1 ∧ Inte x.1.2 ∧ Word x.2) (hm : m ≤ 4000) (h : Aug w W m B L) : Calls Try.prog 12 #[.pointer (some ⟨B, 0, none⟩), eI x.1.2, eU x.1.1, eU x.2] W fun e w' => e = .returned (.tuple #[]) ∧ Aug w w' (m + 1) B (putA x L) ∧ W.heap.size ≤ w'.heap.size := by
  obtain ⟨Bm, Bt, h⟩ := h.x
  exact (augx_put x hx hm h).mono fun e w' ⟨x1, x2, x3⟩ => ⟨x1, x2.aug, x3.size⟩
end
end Go.Proofs.Ytcpienpkpodfmaa
