/- A tree of ids and the document's row side by side, and a copy; acts, all six cells. No condition but words. -/
import Derived.Test.YtcpienpkpodfmaaRF
namespace Go.Proofs.Ytcpienpkpodfmaa
open Go.ChangeShapes Go.WideShapes Go.Deep Go.RowKit Go.Joins Go.Shelf Go.Maps
set_option linter.unusedVariables false
abbrev AcCS (w : World) (b o : Nat) (a : Ac) : Prop :=
  w.cell? ⟨b, o, none⟩ = some (.int .i64 a.i) ∧ w.cell? ⟨b, o + 1, none⟩ = some (.int .u64 a.k) ∧ w.cell? ⟨b, o + 2, none⟩ = some (.int .u64 a.v) ∧ w.cell? ⟨b, o + 3, none⟩ = some (.bool a.d) ∧ w.cell? ⟨b, o + 4, none⟩ = some (.int .u64 a.q) ∧ w.cell? ⟨b, o + 5, none⟩ = some (.int .u64 a.y)
/-- So many acts lie in a row. -/
def AcRowS (w : World) (b o n : Nat) (xs : Nat → Ac) : Prop := b < w.heap.size ∧ ∀ i, i < n → AcCS w b (o + i * 6) (xs i)
theorem AcRowS.below {W w : World} {b o n : Nat} {xs : Nat → Ac} (h : AcRowS W b o n xs) (hb : Below W.heap.size W w) : AcRowS w b o n xs :=
  ⟨Nat.lt_of_lt_of_le h.1 hb.size, fun i hi => by
    obtain ⟨a, b', c, d, e, f⟩ := h.2 i hi
    exact ⟨(hb.cell (p := ⟨b, _, none⟩) h.1).trans a, (hb.cell (p := ⟨b, _, none⟩) h.1).trans b', (hb.cell (p := ⟨b, _, none⟩) h.1).trans c, (hb.cell (p := ⟨b, _, none⟩) h.1).trans d, (hb.cell (p := ⟨b, _, none⟩) h.1).trans e, (hb.cell (p := ⟨b, _, none⟩) h.1).trans f⟩⟩
/-- A slice of acts: nil, empty, or a row in memory. -/
def IsAcsS (w : World) (a : Option Addr) (n c : Nat) (xs : Nat → Ac) : Prop := n ≤ c ∧ (n = 0 ∨ ∃ b o, a = some ⟨b, o, none⟩ ∧ AcRowS w b o n xs)
theorem IsAcsS.below {W w : World} {a : Option Addr} {n c : Nat} {xs : Nat → Ac} (h : IsAcsS W a n c xs) (hb : Below W.heap.size W w) : IsAcsS w a n c xs := by
  obtain ⟨h2, h3⟩ := h
  refine ⟨h2, ?_⟩
  rcases h3 with h3 | ⟨b, o, e, h3⟩
  · exact .inl h3
  · exact .inr ⟨b, o, e, h3.below hb⟩
section
variable {H : Type} {enc : TypeId × Value → H} {P : Program} {w : World} {base : Nat} {spare : Nat → Bool} {held : Bool}
/-- The slice: acts, all of words. -/
theorem open_acsS {t e : TypeId} {f0 f1 f2 f3 f4 f5 : Field} {fuel : Nat} {cs : List Value} {x : DataW H × List MemPlace} (ht : P.underlying t = some (.slice e)) (he : P.underlying e = some (.struct #[f0, f1, f2, f3, f4, f5]))
    (u0 : P.underlying f0.type = some (.int .i64)) (u1 : P.underlying f1.type = some (.int .u64)) (u2 : P.underlying f2.type = some (.int .u64)) (u3 : P.underlying f3.type = some .bool) (u4 : P.underlying f4.type = some (.int .u64)) (u5 : P.underlying f5.type = some (.int .u64))
    (o0 : f0.offset = 0 ∧ P.cellsOf f0.type = 1) (o1 : f1.offset = 1 ∧ P.cellsOf f1.type = 1) (o2 : f2.offset = 2 ∧ P.cellsOf f2.type = 1) (o3 : f3.offset = 3 ∧ P.cellsOf f3.type = 1) (o4 : f4.offset = 4 ∧ P.cellsOf f4.type = 1) (o5 : f5.offset = 5 ∧ P.cellsOf f5.type = 1)
    (hC : P.cellsOf e = 6) (h : DataW.trod enc P w base spare held fuel t cs = some x) :
    ∃ (a : Option Addr) (n c : Nat) (xs : Nat → Ac), cs = [.slice a n c] ∧ IsAcsS w a n c xs ∧ (∀ i, (xs i).word) ∧ c ≤ maxLen ∧ (a = none → n = 0 ∧ c = 0) := by
  have z : Ac.word ⟨0, 0, 0, false, 0, 0⟩ := ⟨⟨⟨by decide, by decide⟩, ⟨by decide, by decide⟩, ⟨by decide, by decide⟩⟩, ⟨by decide, by decide⟩, ⟨by decide, by decide⟩⟩
  rcases open_slice ht h with ⟨h0, _⟩ | ⟨a, len, cap, m, n, D, Pl, hcs, hb, hl, hm, hmm, hx, hi⟩
  · exact ⟨none, 0, 0, fun _ => ⟨0, 0, 0, false, 0, 0⟩, h0, ⟨Nat.le_refl _, .inl rfl⟩, fun _ => z, by decide, fun _ => ⟨rfl, rfl⟩⟩
  · have hlm : len ≤ m := by rw [hmm]; split <;> omega
    have key : ∀ i, i < len → ∃ v : Ac, v.word ∧ w.cell? (a.add (i * 6)) = some (.int .i64 v.i) ∧ w.cell? (a.add (i * 6 + 1)) = some (.int .u64 v.k) ∧ w.cell? (a.add (i * 6 + 2)) = some (.int .u64 v.v) ∧ w.cell? (a.add (i * 6 + 3)) = some (.bool v.d) ∧ w.cell? (a.add (i * 6 + 4)) = some (.int .u64 v.q) ∧ w.cell? (a.add (i * 6 + 5)) = some (.int .u64 v.y) := by
      intro i hil
      obtain ⟨cs', hc, ht'⟩ := hi i (by omega)
      rw [hC] at hc
      obtain ⟨_, hl', hat⟩ := World.cells?_some hc
      obtain ⟨v, hv, rfl⟩ := open_ac6 he u0 u1 u2 u3 u4 u5 o0 o1 o2 o3 o4 o5 hl' ht'
      have r0 := hat 0 (by omega)
      have r1 := hat 1 (by omega)
      have r2 := hat 2 (by omega)
      have r3 := hat 3 (by omega)
      have r4 := hat 4 (by omega)
      have r5 := hat 5 (by omega)
      rw [add_add] at r0 r1 r2 r3 r4 r5
      exact ⟨v, hv, r0, r1, r2, r3, r4, r5⟩
    obtain ⟨F, hF⟩ : ∃ F : Nat → Ac, ∀ i, (F i).word ∧ (i < len → w.cell? (a.add (i * 6)) = some (.int .i64 (F i).i) ∧ w.cell? (a.add (i * 6 + 1)) = some (.int .u64 (F i).k) ∧ w.cell? (a.add (i * 6 + 2)) = some (.int .u64 (F i).v) ∧ w.cell? (a.add (i * 6 + 3)) = some (.bool (F i).d) ∧ w.cell? (a.add (i * 6 + 4)) = some (.int .u64 (F i).q) ∧ w.cell? (a.add (i * 6 + 5)) = some (.int .u64 (F i).y)) := by
      refine ⟨fun i => if q : i < len then Classical.choose (key i q) else ⟨0, 0, 0, false, 0, 0⟩, fun i => ?_⟩
      by_cases hil : i < len
      · simp only [hil, dif_pos]
        have h := Classical.choose_spec (key i hil)
        exact ⟨h.1, fun _ => h.2⟩
      · simp only [hil, dif_neg, not_false_eq_true]
        exact ⟨z, fun h => absurd h (by simp)⟩
    refine ⟨some a, len, cap, F, hcs, ⟨hl, ?_⟩, fun i => (hF i).1, hm, fun q => by cases q⟩
    by_cases hz : len = 0
    · exact .inl hz
    · have c0 := ((hF 0).2 (by omega)).1
      obtain ⟨b, off, spot⟩ := a
      have hspot : spot = none := by simpa [Addr.add] using World.cell?_spot c0
      subst hspot
      have hadd : ∀ j, (⟨b, off, none⟩ : Addr).add j = ⟨b, off + j, none⟩ := fun j => by unfold Addr.add; split <;> simp_all
      rw [hadd] at c0
      refine .inr ⟨b, off, rfl, World.block_lt_of_cell? w _ c0, fun i hil => ?_⟩
      obtain ⟨r0, r1, r2, r3, r4, r5⟩ := (hF i).2 hil
      rw [hadd] at r0 r1 r2 r3 r4 r5
      exact ⟨r0, r1, r2, r3, r4, r5⟩
end
/-- Boxes of acts stay. -/
def Kp (w w' : World) : Prop := ∀ P vs, Box w P vs 31 → Box w' P vs 31
theorem Kp.of {w w' : World} (h : Below w.heap.size w w') : Kp w w' := fun P vs b => b.below h
theorem Off.kp {S : Nat → Prop} {W W' : World} (h : Off S W W') (hS : ∀ k, S k → ∀ vs, ¬ Box W k vs 31) : Kp W W' := fun P vs b => h.box b (fun hp => hS P hp _ b)
theorem RwO.off {S : Nat → Prop} {W W' : World} {m R : Nat} {L : List It} (h : RwO W m R L) (hO : Off S W W') (hS1 : ∀ k, S k → ∀ vs, ¬ Box W k vs 28) (hS2 : ∀ k, S k → ∀ vs, ¬ Box W k vs 76) : RwO W' m R L := by
  obtain ⟨hm, v, hB, hown⟩ := h
  refine ⟨hm, v, hO.box hB (fun h => hS1 R h _ hB), hown.1, ?_⟩
  rcases hown.2 with h | ⟨g, cap, cur, e, h1, h2, h3⟩
  · exact .inl h
  · have hb : Box W g cur 76 := h2
    exact .inr ⟨g, cap, cur, e, h1, hO.box hb (fun h => hS2 g h _ hb), h3⟩
theorem AugX.offS {S : Nat → Prop} {w W W' : World} {m B Bm Bt : Nat} {L : List It} (h : AugX w W m B Bm Bt L) (hO : Off S W W') (hlow : ∀ k, S k → w.heap.size ≤ k)
    (h39 : ∀ k, S k → ∀ vs, ¬ Box W k vs 39) (h87 : ∀ k, S k → ∀ vs, ¬ Box W k vs 87) (h91 : ∀ k, S k → ∀ vs, ¬ Box W k vs 91) (hM : ¬ S Bm) : AugX w W' m B Bm Bt L := by
  obtain ⟨nn, h1, h2, h3, h4, h5, h6, h7, h8⟩ := h
  obtain ⟨pb, hb⟩ := h3.box
  exact ⟨nn, hO.box h1 (fun h => h39 B h _ h1), h2.move (hO.block _ h2.lt hM), h3.off hO h91 (fun h => h87 Bt h _ hb), h4, h5, h6, h7, h8.trans (hO.below hlow h8.size)⟩
theorem RS.no {W : World} {m R : Nat} {vR : Array Value} (hR : Box W R vR 28) {t : TypeId} (h1 : t ≠ 28) (h2 : t ≠ 76) : ∀ k, RS W m R k → ∀ vs, ¬ Box W k vs t := by
  rintro k ⟨_, rfl | ⟨cur, hc⟩⟩ vs hx
  · exact box_ne hx hR h1 rfl
  · exact box_ne hx hc h2 rfl
theorem mt_no {W : World} {M T : Nat} {p : Pt} {nT : Int} (hM : ∀ vs t, ¬ Box W M vs t) (hT : Box W T (tree p nT) 87) {t : TypeId} (h1 : t ≠ 87) : ∀ k, (k = M ∨ k = T) → ∀ vs, ¬ Box W k vs t := by
  rintro k (rfl | rfl) vs hx
  · exact hM _ _ hx
  · exact box_ne hx hT h1 rfl
/-- A tree of ids and a row. -/
def Duo (w W : World) (n B R : Nat) (L L' : List It) : Prop := ∃ M T : Nat, AugX w W n B M T L ∧ RwO W w.heap.size R L' ∧ (Rise L' ∧ Fine L') ∧ L'.length ≤ n
/-- And a copy of the tree. -/
def Trio (w W : World) (n B R : Nat) (L L' : List It) (m C : Nat) (L2 : List It) : Prop := ∃ M T M2 T2 : Nat, AugX w W n B M T L ∧ (RwO W w.heap.size R L' ∧ (Rise L' ∧ Fine L') ∧ L'.length ≤ n) ∧ AugX w W m C M2 T2 L2 ∧ M ≠ M2 ∧ T ≠ T2
section
variable {w W W' : World} {n B R m C : Nat} {L L' L2 : List It}
theorem Duo.aug (h : Duo w W n B R L L') : Aug w W n B L := by obtain ⟨M, T, h1, _⟩ := h; exact h1.aug
theorem Duo.world (h : Duo w W n B R L L') : Below w.heap.size w W := h.aug.world
theorem RwO.below {W W' : World} {m R : Nat} {L : List It} (h : RwO W m R L) (hb : Below W.heap.size W W') : RwO W' m R L := by
  obtain ⟨hm, v, hB, hown⟩ := h
  exact ⟨hm, v, hB.below hb, owns_below hown hb⟩
theorem Duo.below (h : Duo w W n B R L L') (hb : Below W.heap.size W W') : Duo w W' n B R L L' := by
  obtain ⟨M, T, h1, h2, h3⟩ := h
  exact ⟨M, T, h1.below hb, h2.below hb, h3⟩
theorem Duo.rw (h : Duo w W n B R L L') : Rw W R L' := by obtain ⟨M, T, h1, h2, h3⟩ := h; exact h2.rw
theorem AugX.parts {B M T : Nat} (h : AugX w W n B M T L) : (∀ vs t, ¬ Box W M vs t) ∧ ∃ p nT, Box W T (tree p nT) 87 := by
  obtain ⟨nn, h1, h2, h3, _⟩ := h
  obtain ⟨p, hp⟩ := h3.box
  exact ⟨h2.unbox, p, _, hp⟩
theorem duo_put (x : It) (hx : Word x.1.1 ∧ Inte x.1.2 ∧ Word x.2) (hm : n ≤ 4000) (h : Duo w W n B R L L') : Calls Try.prog 12 #[.pointer (some ⟨B, 0, none⟩), eI x.1.2, eU x.1.1, eU x.2] W fun e w' => e = .returned (.tuple #[]) ∧ Duo w w' (n + 1) B R (putA x L) L' ∧ Kp W w' := by
  obtain ⟨M, T, h1, h2, h3, h4⟩ := h
  obtain ⟨hM, p, nT, hT⟩ := h1.parts
  exact (augx_put x hx hm h1).mono fun e w' ⟨x1, x2, x3⟩ => ⟨x1, ⟨M, T, x2, h2.off x3 (mt_no hM hT (by decide)) (mt_no hM hT (by decide)), h3, by omega⟩, x3.kp (mt_no hM hT (by decide))⟩
theorem duo_drop (i : Int) (hi : Inte i) (hm : n ≤ 4000) (h : Duo w W n B R L L') : Calls Try.prog 13 #[.pointer (some ⟨B, 0, none⟩), eI i] W fun e w' => e = .returned (.bool (getA i L).isSome) ∧ Duo w w' n B R (dropA i L) L' ∧ Kp W w' := by
  obtain ⟨M, T, h1, h2, h3, h4⟩ := h
  obtain ⟨hM, p, nT, hT⟩ := h1.parts
  exact (augx_drop i hi (by omega) h1).mono fun e w' ⟨x1, x2, x3⟩ => ⟨x1, ⟨M, T, x2, h2.off x3 (mt_no hM hT (by decide)) (mt_no hM hT (by decide)), h3, by omega⟩, x3.kp (mt_no hM hT (by decide))⟩
theorem duo_rs {Bm Bt : Nat} (h1 : AugX w W n B Bm Bt L) {L1 : List It} (h2 : RwO W w.heap.size R L1) (hO : Off (RS W w.heap.size R) W W') : AugX w W' n B Bm Bt L ∧ Kp W W' := by
  obtain ⟨_, v, hB, _⟩ := h2
  obtain ⟨hM, _⟩ := h1.parts
  refine ⟨h1.offS hO (fun k hk => hk.1) (RS.no hB (by decide) (by decide)) (RS.no hB (by decide) (by decide)) (RS.no hB (by decide) (by decide)) ?_, hO.kp (RS.no hB (by decide) (by decide))⟩
  rintro ⟨_, rfl | ⟨cur, hc⟩⟩
  · exact hM _ _ hB
  · exact hM _ _ hc
theorem duo_rput (x : It) (hx : Word x.1.1 ∧ Inte x.1.2 ∧ Word x.2) (hm : n ≤ 400) (h : Duo w W n B R L L') : Calls Try.prog 15 #[.pointer (some ⟨R, 0, none⟩), eI x.1.2, eU x.1.1, eU x.2] W fun e w' => e = .returned (.tuple #[]) ∧ Duo w w' (n + 1) B R L (putA x L') ∧ Kp W w' := by
  obtain ⟨M, T, h1, h2, h3, h4⟩ := h
  exact (rwo_put x hx h3.1 h3.2 (by omega) h2).mono fun e w' ⟨x1, x2, x3⟩ => ⟨x1, ⟨M, T, (duo_rs h1 h2 x3).1.more (Nat.le_succ _), x2, ⟨rise_putA h3.1, fine_putA hx h3.2⟩, Nat.le_trans putA_len (by omega)⟩, (duo_rs h1 h2 x3).2⟩
theorem duo_rdrop (i : Int) (hm : n ≤ 400) (h : Duo w W n B R L L') : Calls Try.prog 14 #[.pointer (some ⟨R, 0, none⟩), eI i] W fun e w' => e = .returned (.bool (getA i L').isSome) ∧ Duo w w' n B R L (dropA i L') ∧ Kp W w' := by
  obtain ⟨M, T, h1, h2, h3, h4⟩ := h
  exact (rwo_drop i h3.1 h3.2 (by omega) h2).mono fun e w' ⟨x1, x2, x3⟩ => ⟨x1, ⟨M, T, (duo_rs h1 h2 x3).1, x2, ⟨rise_dropA h3.1, fine_dropA h3.2⟩, Nat.le_trans dropA_len h4⟩, (duo_rs h1 h2 x3).2⟩
theorem duo_copy (h : Duo w W n B R L L') : Calls Try.prog 10 #[.pointer (some ⟨B, 0, none⟩)] W fun e w' => ∃ C : Nat, e = .returned (.pointer (some ⟨C, 0, none⟩)) ∧ Trio w w' n B R L L' n C L ∧ Below W.heap.size W w' := by
  obtain ⟨M, T, h1, h2, h3⟩ := h
  exact (augx_copy h1).mono fun e w' ⟨C, M2, T2, x1, x2, ⟨x3, x4⟩, x5⟩ => ⟨C, x1, ⟨M, T, M2, T2, h1.below x5, ⟨h2.below x5, h3⟩, x2, by have := h1.lt; omega, by have := h1.lt; omega⟩, x5⟩
theorem Trio.duo (h : Trio w W n B R L L' m C L2) : Duo w W n B R L L' := by obtain ⟨M, T, M2, T2, h1, ⟨h2, h3⟩, _⟩ := h; exact ⟨M, T, h1, h2, h3⟩
theorem Trio.world (h : Trio w W n B R L L' m C L2) : Below w.heap.size w W := h.duo.world
theorem Trio.aug2 (h : Trio w W n B R L L' m C L2) : Aug w W m C L2 := by obtain ⟨M, T, M2, T2, h1, h2, h3, _⟩ := h; exact h3.aug
theorem Trio.below (h : Trio w W n B R L L' m C L2) (hb : Below W.heap.size W W') : Trio w W' n B R L L' m C L2 := by
  obtain ⟨M, T, M2, T2, h1, ⟨h2, h3⟩, h4, h5⟩ := h
  exact ⟨M, T, M2, T2, h1.below hb, ⟨h2.below hb, h3⟩, h4.below hb, h5⟩
theorem trio_put (x : It) (hx : Word x.1.1 ∧ Inte x.1.2 ∧ Word x.2) (hm : m ≤ 4000) (h : Trio w W n B R L L' m C L2) : Calls Try.prog 12 #[.pointer (some ⟨C, 0, none⟩), eI x.1.2, eU x.1.1, eU x.2] W fun e w' => e = .returned (.tuple #[]) ∧ (∃ L3, Trio w w' n B R L L' (m + 1) C L3) ∧ Kp W w' := by
  obtain ⟨M, T, M2, T2, h1, ⟨h2, h3⟩, h4, h5, h6⟩ := h
  obtain ⟨hM, p, nT, hT⟩ := h4.parts
  exact (augx_put x hx hm h4).mono fun e w' ⟨x1, x2, x3⟩ => ⟨x1, ⟨_, M, T, M2, T2, h1.off h4 h5 h6 x3, ⟨h2.off x3 (mt_no hM hT (by decide)) (mt_no hM hT (by decide)), h3⟩, x2, h5, h6⟩, x3.kp (mt_no hM hT (by decide))⟩
theorem trio_drop (i : Int) (hi : Inte i) (hm : m ≤ 4000) (h : Trio w W n B R L L' m C L2) : Calls Try.prog 13 #[.pointer (some ⟨C, 0, none⟩), eI i] W fun e w' => (∃ z : Bool, e = .returned (.bool z)) ∧ (∃ L3, Trio w w' n B R L L' m C L3) ∧ Kp W w' := by
  obtain ⟨M, T, M2, T2, h1, ⟨h2, h3⟩, h4, h5, h6⟩ := h
  obtain ⟨hM, p, nT, hT⟩ := h4.parts
  exact (augx_drop i hi (by omega) h4).mono fun e w' ⟨x1, x2, x3⟩ => ⟨⟨_, x1⟩, ⟨_, M, T, M2, T2, h1.off h4 h5 h6 x3, ⟨h2.off x3 (mt_no hM hT (by decide)) (mt_no hM hT (by decide)), h3⟩, x2, h5, h6⟩, x3.kp (mt_no hM hT (by decide))⟩
/-- The law's same, of a tree and a row that hold the same. -/
theorem same_aug (x : Ac) (hx : Inte x.i) {m' C' : Nat} {L : List It} (hm : m' ≤ 1000) (hA : Aug w W m' C' L) (hR : Rw W R L) : Calls Try.prog 11 #[.pointer (some ⟨C', 0, none⟩), .pointer (some ⟨R, 0, none⟩), .agg #[eI x.i, eU x.k, eU x.v, .bool x.d, eU x.q, eU x.y]] W fun e w' => e = .returned (.bool true) ∧ Below W.heap.size W w' :=
  same_of (some ⟨C', 0, none⟩) R L x W (by have := hA.len; omega) hR (fun w1 hb => aug_get x.i hx (hA.below hb)) (fun w1 hb => aug_first (hA.below hb)) (fun w1 hb => aug_least x.q (hA.below hb)) (fun w1 hb => aug_within x.y (hA.below hb)) (fun w1 hb => aug_lowest (hA.below hb)) (fun w1 hb => aug_len (hA.below hb))
    (fun w1 hb => (aug_ids hm (hA.below hb)).mono fun e w' ⟨v, x1, x2, x3⟩ => ⟨v, x1, IntS.of_owns x2, x3⟩)
end
end Go.Proofs.Ytcpienpkpodfmaa
