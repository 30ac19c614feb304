/- Two or three trees of ids side by side: what is done to one leaves the others. No condition but words. -/
import Derived.Test.YtcpienpkpodfmaaAP
namespace Go.Proofs.Ytcpienpkpodfmaa
open Go.RowKit Go.Shelf Go.Maps
set_option linter.unusedVariables false
section
variable {w W W' : World} {m B Bm Bt B0 B1 B2 M0 T0 M1 T1 M2 T2 : Nat} {L L0 L1 L2 : List It}
theorem AugX.rebase {w0 : World} (h : AugX w W m B Bm Bt L) (hb : Below w0.heap.size w0 w) : AugX w0 W m B Bm Bt L := by
  obtain ⟨nn, h1, h2, h3, h4, h5, h6, ⟨h7, h7', h7''⟩, h8⟩ := h
  have := hb.size
  exact ⟨nn, h1, h2, h3, h4, h5, h6, ⟨by omega, by omega, by omega⟩, upp hb h8⟩
theorem AugX.lt (h : AugX w W m B Bm Bt L) : B < W.heap.size ∧ Bm < W.heap.size ∧ Bt < W.heap.size := by
  obtain ⟨nn, h1, h2, h3, _⟩ := h
  exact ⟨h1.lt, h2.lt, h3.lt⟩
theorem AugX.world (h : AugX w W m B Bm Bt L) : Below w.heap.size w W := by
  obtain ⟨nn, h1, h2, h3, h4, h5, h6, h7, h8⟩ := h
  exact h8
/-- What is done to another tree leaves this one. -/
theorem AugX.off {m2 : Nat} (h : AugX w W m B Bm Bt L) (hC : AugX w W m2 B1 M1 T1 L1) (n1 : Bm ≠ M1) (n2 : Bt ≠ T1) (hO : Off (fun k => k = M1 ∨ k = T1) W W') : AugX w W' m B Bm Bt L := by
  obtain ⟨nn, h1, h2, h3, h4, h5, h6, h7, h8⟩ := h
  obtain ⟨nc, c1, c2, c3, c4, c5, c6, c7, c8⟩ := hC
  obtain ⟨pc, cb⟩ := c3.box
  obtain ⟨pb, hb⟩ := h3.box
  have b1 : B ≠ M1 := fun e => by subst e; exact c2.unbox _ _ h1
  have b2 : B ≠ T1 := box_ne h1 cb (by decide)
  have b3 : Bm ≠ T1 := fun e => by subst e; exact h2.unbox _ _ cb
  have b4 : Bt ≠ M1 := fun e => by subst e; exact c2.unbox _ _ hb
  refine ⟨nn, hO.box h1 (by omega), h2.move (hO.block _ h2.lt (by omega)), h3.off hO ?_ (by omega), h4, h5, h6, h7, h8.trans (hO.below ?_ h8.size)⟩
  · rintro k (rfl | rfl) vs hx
    · exact c2.unbox _ _ hx
    · exact box_ne hx cb (by decide) rfl
  · rintro k (rfl | rfl)
    · exact c7.2.1
    · exact c7.2.2
theorem augx_copy (h : AugX w W m B Bm Bt L) : Calls Try.prog 10 #[.pointer (some ⟨B, 0, none⟩)] W fun e w' => ∃ B' Bm' Bt' : Nat, e = .returned (.pointer (some ⟨B', 0, none⟩)) ∧ AugX w w' m B' Bm' Bt' L ∧ (W.heap.size ≤ Bm' ∧ W.heap.size ≤ Bt') ∧ Below W.heap.size W w' := by
  obtain ⟨nn, h1, h2, h3, h4, h5, h6, h7, h8⟩ := h
  have hz := h8.size
  exact (copy_at nn h1 h2 h3).mono fun e w' ⟨v, e1, B', Bm', Bt', e2, x1, x2, x3, ⟨l1, l2, l3⟩, x5⟩ =>
    ⟨B', Bm', Bt', by rw [e1, e2], ⟨nn, x1, x2, x3, h4, h5, h6, ⟨by omega, by omega, by omega⟩, upp h8 x5⟩, ⟨l2, l3⟩, x5⟩
/-- Two trees side by side. -/
def Two (w W : World) (m B0 B1 : Nat) (L0 L1 : List It) : Prop := ∃ M0 T0 M1 T1 : Nat, AugX w W m B0 M0 T0 L0 ∧ AugX w W m B1 M1 T1 L1 ∧ M0 ≠ M1 ∧ T0 ≠ T1
/-- Three trees side by side. -/
def Tri (w W : World) (m B0 B1 B2 : Nat) (L0 L1 L2 : List It) : Prop := ∃ M0 T0 M1 T1 M2 T2 : Nat, AugX w W m B0 M0 T0 L0 ∧ AugX w W m B1 M1 T1 L1 ∧ AugX w W m B2 M2 T2 L2 ∧ (M0 ≠ M1 ∧ T0 ≠ T1) ∧ (M0 ≠ M2 ∧ T0 ≠ T2) ∧ (M1 ≠ M2 ∧ T1 ≠ T2)
theorem Two.swap (h : Two w W m B0 B1 L0 L1) : Two w W m B1 B0 L1 L0 := by
  obtain ⟨M0, T0, M1, T1, h1, h2, h3, h4⟩ := h; exact ⟨M1, T1, M0, T0, h2, h1, h3.symm, h4.symm⟩
theorem Two.below (h : Two w W m B0 B1 L0 L1) (hb : Below W.heap.size W W') : Two w W' m B0 B1 L0 L1 := by
  obtain ⟨M0, T0, M1, T1, h1, h2, h3⟩ := h; exact ⟨M0, T0, M1, T1, h1.below hb, h2.below hb, h3⟩
theorem Two.a0 (h : Two w W m B0 B1 L0 L1) : Aug w W m B0 L0 := by obtain ⟨M0, T0, M1, T1, h1, _⟩ := h; exact h1.aug
theorem Two.a1 (h : Two w W m B0 B1 L0 L1) : Aug w W m B1 L1 := h.swap.a0
theorem Two.world (h : Two w W m B0 B1 L0 L1) : Below w.heap.size w W := h.a0.world
theorem Tri.swap (h : Tri w W m B0 B1 B2 L0 L1 L2) : Tri w W m B0 B2 B1 L0 L2 L1 := by
  obtain ⟨M0, T0, M1, T1, M2, T2, h1, h2, h3, h4, h5, h6⟩ := h
  exact ⟨M0, T0, M2, T2, M1, T1, h1, h3, h2, h5, h4, ⟨h6.1.symm, h6.2.symm⟩⟩
theorem Tri.below (h : Tri w W m B0 B1 B2 L0 L1 L2) (hb : Below W.heap.size W W') : Tri w W' m B0 B1 B2 L0 L1 L2 := by
  obtain ⟨M0, T0, M1, T1, M2, T2, h1, h2, h3, h4⟩ := h; exact ⟨M0, T0, M1, T1, M2, T2, h1.below hb, h2.below hb, h3.below hb, h4⟩
theorem Tri.a0 (h : Tri w W m B0 B1 B2 L0 L1 L2) : Aug w W m B0 L0 := by obtain ⟨M0, T0, M1, T1, M2, T2, h1, _⟩ := h; exact h1.aug
theorem Tri.a1 (h : Tri w W m B0 B1 B2 L0 L1 L2) : Aug w W m B1 L1 := by obtain ⟨M0, T0, M1, T1, M2, T2, h1, h2, _⟩ := h; exact h2.aug
theorem Tri.a2 (h : Tri w W m B0 B1 B2 L0 L1 L2) : Aug w W m B2 L2 := h.swap.a1
theorem Tri.world (h : Tri w W m B0 B1 B2 L0 L1 L2) : Below w.heap.size w W := h.a0.world
theorem one_copy (h : Aug w W m B L) : Calls Try.prog 10 #[.pointer (some ⟨B, 0, none⟩)] W fun e w' => ∃ B' : Nat, e = .returned (.pointer (some ⟨B', 0, none⟩)) ∧ Two w w' m B B' L L := by
  obtain ⟨Bm, Bt, h⟩ := h.x
  exact (augx_copy h).mono fun e w' ⟨B', Bm', Bt', x1, x2, ⟨x3, x4⟩, x5⟩ => ⟨B', x1, Bm, Bt, Bm', Bt', h.below x5, x2, by have := h.lt; omega, by have := h.lt; omega⟩
theorem two_copy (h : Two w W m B0 B1 L0 L1) : Calls Try.prog 10 #[.pointer (some ⟨B0, 0, none⟩)] W fun e w' => ∃ B' : Nat, e = .returned (.pointer (some ⟨B', 0, none⟩)) ∧ Tri w w' m B0 B1 B' L0 L1 L0 := by
  obtain ⟨M0, T0, M1, T1, h1, h2, h3, h4⟩ := h
  exact (augx_copy h1).mono fun e w' ⟨B', Bm', Bt', x1, x2, ⟨x3, x4⟩, x5⟩ => ⟨B', x1, M0, T0, M1, T1, Bm', Bt', h1.below x5, h2.below x5, x2, ⟨h3, h4⟩, ⟨by have := h1.lt; omega, by have := h1.lt; omega⟩, ⟨by have := h2.lt; omega, by have := h2.lt; omega⟩⟩
/-- A copy of the first; of the others only the last is looked at further. -/
theorem tri_copy (h : Tri w W m B0 B1 B2 L0 L1 L2) : Calls Try.prog 10 #[.pointer (some ⟨B0, 0, none⟩)] W fun e w' => ∃ B' : Nat, e = .returned (.pointer (some ⟨B', 0, none⟩)) ∧ Two w w' m B' B2 L0 L2 := by
  obtain ⟨M0, T0, M1, T1, M2, T2, h1, h2, h3, h4, h5, h6⟩ := h
  exact (augx_copy h1).mono fun e w' ⟨B', Bm', Bt', x1, x2, ⟨x3, x4⟩, x5⟩ => ⟨B', x1, Bm', Bt', M2, T2, x2, h3.below x5, by have := h3.lt; omega, by have := h3.lt; omega⟩
theorem tri_put1 (x : It) (hx : Word x.1.1 ∧ Inte x.1.2 ∧ Word x.2) (hm : m ≤ 4000) (h : Tri w W m B0 B1 B2 L0 L1 L2) : Calls Try.prog 12 #[.pointer (some ⟨B1, 0, none⟩), eI x.1.2, eU x.1.1, eU x.2] W fun e w' => e = .returned (.tuple #[]) ∧ Tri w w' (m + 1) B0 B1 B2 L0 (putA x L1) L2 := by
  obtain ⟨M0, T0, M1, T1, M2, T2, h1, h2, h3, h4, h5, h6⟩ := h
  exact (augx_put x hx hm h2).mono fun e w' ⟨x1, x2, x3⟩ => ⟨x1, M0, T0, M1, T1, M2, T2, (h1.off h2 h4.1 h4.2 x3).more (Nat.le_succ _), x2, (h3.off h2 h6.1.symm h6.2.symm x3).more (Nat.le_succ _), h4, h5, h6⟩
theorem tri_put2 (x : It) (hx : Word x.1.1 ∧ Inte x.1.2 ∧ Word x.2) (hm : m ≤ 4000) (h : Tri w W m B0 B1 B2 L0 L1 L2) : Calls Try.prog 12 #[.pointer (some ⟨B2, 0, none⟩), eI x.1.2, eU x.1.1, eU x.2] W fun e w' => e = .returned (.tuple #[]) ∧ Tri w w' (m + 1) B0 B1 B2 L0 L1 (putA x L2) :=
  (tri_put1 x hx hm h.swap).mono fun e w' ⟨x1, x2⟩ => ⟨x1, x2.swap⟩
theorem two_drop0 (i : Int) (hi : Inte i) (hm : m ≤ 5000) (h : Two w W m B0 B1 L0 L1) : Calls Try.prog 13 #[.pointer (some ⟨B0, 0, none⟩), eI i] W fun e w' => e = .returned (.bool (getA i L0).isSome) ∧ Two w w' m B0 B1 (dropA i L0) L1 := by
  obtain ⟨M0, T0, M1, T1, h1, h2, h3, h4⟩ := h
  exact (augx_drop i hi hm h1).mono fun e w' ⟨x1, x2, x3⟩ => ⟨x1, M0, T0, M1, T1, x2, h2.off h1 h3.symm h4.symm x3, h3, h4⟩
theorem two_drop1 (i : Int) (hi : Inte i) (hm : m ≤ 5000) (h : Two w W m B0 B1 L0 L1) : Calls Try.prog 13 #[.pointer (some ⟨B1, 0, none⟩), eI i] W fun e w' => e = .returned (.bool (getA i L1).isSome) ∧ Two w w' m B0 B1 L0 (dropA i L1) :=
  (two_drop0 i hi hm h.swap).mono fun e w' ⟨x1, x2⟩ => ⟨x1, x2.swap⟩
theorem two_put0 (x : It) (hx : Word x.1.1 ∧ Inte x.1.2 ∧ Word x.2) (hm : m ≤ 4000) (h : Two w W m B0 B1 L0 L1) : Calls Try.prog 12 #[.pointer (some ⟨B0, 0, none⟩), eI x.1.2, eU x.1.1, eU x.2] W fun e w' => e = .returned (.tuple #[]) ∧ Two w w' (m + 1) B0 B1 (putA x L0) L1 := by
  obtain ⟨M0, T0, M1, T1, h1, h2, h3, h4⟩ := h
  exact (augx_put x hx hm h1).mono fun e w' ⟨x1, x2, x3⟩ => ⟨x1, M0, T0, M1, T1, x2, (h2.off h1 h3.symm h4.symm x3).more (Nat.le_succ _), h3, h4⟩
theorem two_put1 (x : It) (hx : Word x.1.1 ∧ Inte x.1.2 ∧ Word x.2) (hm : m ≤ 4000) (h : Two w W m B0 B1 L0 L1) : Calls Try.prog 12 #[.pointer (some ⟨B1, 0, none⟩), eI x.1.2, eU x.1.1, eU x.2] W fun e w' => e = .returned (.tuple #[]) ∧ Two w w' (m + 1) B0 B1 L0 (putA x L1) :=
  (two_put0 x hx hm h.swap).mono fun e w' ⟨x1, x2⟩ => ⟨x1, x2.swap⟩
end
theorem dropA_put {x : It} {L : List It} (hr : Rise L) (hF : Fine L) : dropA x.1.2 (putA x L) = dropA x.1.2 L := by
  refine rise_ext (rise_dropA (rise_putA hr)) (rise_dropA hr) fun a => ?_
  unfold putA
  rw [mem_dropA, mem_dropA, mem_ins, mem_dropA]
  constructor
  · rintro ⟨rfl | h, h2⟩
    · exact absurd rfl h2
    · exact ⟨h.1, h2⟩
  · rintro ⟨h1, h2⟩
    exact ⟨.inr ⟨h1, h2⟩, h2⟩
theorem putA_put {x y : It} {L : List It} (hr : Rise L) (hF : Fine L) (h : y.1.2 = x.1.2) : putA y (putA x L) = putA y L := by
  unfold putA
  rw [h]
  have := dropA_put (x := x) hr hF
  unfold putA at this
  rw [this]
theorem dropA_twice {i : Int} {L : List It} : dropA i (dropA i L) = dropA i L := by
  unfold dropA
  rw [List.filter_filter]
  simp
theorem getA_put {x : It} {L : List It} (hx : Word x.1.1 ∧ Inte x.1.2 ∧ Word x.2) (hF : Fine L) : getA x.1.2 (putA x L) = some x := (getA_some (fine_putA hx hF)).2 ⟨mem_ins.2 (.inl rfl), rfl⟩
theorem getA_drop {i : Int} {L : List It} : getA i (dropA i L) = none := getA_none.2 fun a ha => (mem_dropA.1 ha).2
/-- An act in a box. -/
abbrev ActC (W : World) (P : Nat) (x : Ac) : Prop := W.cell? ⟨P, 0, none⟩ = some (.int .i64 x.i) ∧ W.cell? ⟨P, 1, none⟩ = some (.int .u64 x.k) ∧ W.cell? ⟨P, 2, none⟩ = some (.int .u64 x.v) ∧ W.cell? ⟨P, 3, none⟩ = some (.bool x.d) ∧ W.cell? ⟨P, 4, none⟩ = some (.int .u64 x.q) ∧ W.cell? ⟨P, 5, none⟩ = some (.int .u64 x.y)
theorem actC {W : World} {P : Nat} {x : Ac} (h : Box W P #[eI x.i, eU x.k, eU x.v, .bool x.d, eU x.q, eU x.y] 31) : ActC W P x := ⟨h.cell 0, h.cell 1, h.cell 2, h.cell 3, h.cell 4, h.cell 5⟩
end Go.Proofs.Ytcpienpkpodfmaa
