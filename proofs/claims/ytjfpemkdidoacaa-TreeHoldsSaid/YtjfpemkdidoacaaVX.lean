/- A tree and the document's row side by side: what is done to one leaves the other. No condition but words. -/
import Derived.Test.YtjfpemkdidoacaaVW
namespace Go.Proofs.Ytjfpemkdidoacaa
open Go.RowKit Go.Shelf
set_option linter.unusedVariables false
theorem IsTr.off {n : Nat} {W W' : World} {S : Nat → Prop} (hO : Off S W W') (hS : ∀ k, S k → ∀ vs, ¬ Box W k vs 80) : ∀ {p : Pt} {t : Tr}, IsTr n W p t → IsTr n W' p t
  | _, .nil, h => h
  | _, .nd m r a b, ⟨C, pl, pr, e, hC, hx, hw, hl, hr⟩ =>
    ⟨C, pl, pr, e, hC, hO.box hx (fun h => hS C h _ hx), hw, IsTr.off hO hS hl, IsTr.off hO hS hr⟩
theorem Ob.off {B : Nat} {W W' : World} {S : Nat → Prop} {L : List It} (h : Ob W B L) (hO : Off S W W') (hS : ∀ k, S k → ∀ vs, ¬ Box W k vs 80) (hB : ¬ S B) : Ob W' B L := by
  obtain ⟨p, t, k, h1, h2, h3⟩ := h
  exact ⟨p, t, k, hO.box h1 hB, (IsTr.off hO hS h2).mono hO.size, h3⟩
theorem Ob.box {W : World} {B : Nat} {L : List It} (h : Ob W B L) : ∃ p, Box W B (tree p (L.length : Int)) 57 := by obtain ⟨p, t, k, h1, _⟩ := h; exact ⟨p, h1⟩
theorem IsTr.words {n : Nat} {W : World} : ∀ {p : Pt} {t : Tr}, IsTr n W p t → ∀ a ∈ t.items, Word a.1.1 ∧ Inte a.1.2 ∧ Word a.2
  | _, .nil, _, a, ha => by cases ha
  | _, .nd m r x y, ⟨C, pl, pr, e, hC, hx, hw, hl, hr⟩, a, ha => by
    rcases List.mem_append.1 (show a ∈ x.items ++ m :: y.items from ha) with h | h
    · exact IsTr.words hl a h
    · rcases List.mem_cons.1 h with rfl | h
      · exact hw
      · exact IsTr.words hr a h
theorem Ob.words {W : World} {B : Nat} {L : List It} (h : Ob W B L) : ∀ a ∈ L, Word a.1.1 ∧ Inte a.1.2 ∧ Word a.2 := by
  obtain ⟨p, t, k, h1, h2, _, _, rfl, _⟩ := h
  exact IsTr.words h2
theorem upto_all {L : List It} (hF : ∀ a ∈ L, Word a.1.1 ∧ Inte a.1.2 ∧ Word a.2) : upto 18446744073709551615 L = L := by
  unfold upto
  rw [List.filter_eq_self]
  intro x hx
  have := (hF x hx).1
  unfold Word at this
  simp; omega
theorem Off.ofBut {S : Nat → Prop} {a b : World} {B : Nat} (h : But B a b) (hB : S B) : Off S a b :=
  ⟨h.os, h.tape, h.output, h.size, fun k hk hn => h.block k hk (fun e => hn (by rw [e]; exact hB))⟩
theorem RwP.off {S : Nat → Prop} {W W' : World} {m R : Nat} {L : List It} (h : RwP W m R L) (hO : Off S W W') (hS1 : ∀ k, S k → ∀ vs, ¬ Box W k vs 28) (hS2 : ∀ k, S k → ∀ vs, ¬ Box W k vs 43) : RwP W' m R L := by
  obtain ⟨hm, v, hB, hown⟩ := h
  refine ⟨hm, v, hO.box hB (fun h => hS1 R h _ hB), hown.1, ?_⟩
  rcases hown.2 with h | ⟨g, cap, cur, e, h1, h2, h3⟩
  · exact .inl h
  · have hb : Box W g cur 43 := h2
    exact .inr ⟨g, cap, cur, e, h1, hO.box hb (fun h => hS2 g h _ hb), h3⟩
theorem RS.no {W : World} {m R : Nat} {vR : Array Value} (hR : Box W R vR 28) {t : TypeId} (h1 : t ≠ 28) (h2 : t ≠ 43) : ∀ k, RS W m R k → ∀ vs, ¬ Box W k vs t := by
  rintro k ⟨_, rfl | ⟨cur, hc⟩⟩ vs hx
  · exact box_ne hx hR h1 rfl
  · exact box_ne hx hc h2 rfl
/-- Boxes of acts stay. -/
def Kp (w w' : World) : Prop := ∀ P vs, Box w P vs 34 → Box w' P vs 34
theorem Kp.of {w w' : World} (h : Below w.heap.size w w') : Kp w w' := fun P vs b => b.below h
/-- A tree and a row. -/
def Duo (w W : World) (B R : Nat) (L L' : List It) : Prop := OW w W B L ∧ RwP W w.heap.size R L' ∧ Rise L'
section
variable {w W W' : World} {B R : Nat} {L L' : List It}
theorem Duo.world (h : Duo w W B R L L') : Below w.heap.size w W := h.1.2.2
theorem Duo.below (h : Duo w W B R L L') (hb : Below W.heap.size W W') : Duo w W' B R L L' := ⟨h.1.below hb, h.2.1.below hb, h.2.2⟩
theorem Duo.rw (h : Duo w W B R L L') : Rw W R L' := h.2.1.rw
theorem but_no {p : Pt} {nT : Int} (hT : Box W B (tree p nT) 57) {t : TypeId} (h1 : t ≠ 57) : ∀ k, k = B → ∀ vs, ¬ Box W k vs t := by
  rintro k rfl vs hx
  exact box_ne hx hT h1 rfl
theorem duo_but (h : Duo w W B R L L') {L1 : List It} (h1 : OW w W' B L1) (hb : But B W W') : Duo w W' B R L1 L' ∧ Kp W W' := by
  obtain ⟨p, hT⟩ := h.1.1.box
  have hO := Off.ofBut (S := fun k => k = B) hb rfl
  exact ⟨⟨h1, h.2.1.off hO (but_no hT (by decide)) (but_no hT (by decide)), h.2.2⟩, fun P vs b => hO.box b (fun e => but_no hT (by decide) P e _ b)⟩
theorem duo_put (x : It) (hx : Word x.1.1 ∧ Inte x.1.2 ∧ Word x.2) (hl : L.length ≤ 100000) (h : Duo w W B R L L') :
    Calls Try.prog 13 #[.pointer (some ⟨B, 0, none⟩), ky x.1, eU x.2] W fun e w' => e = .returned (eI (if has x.1 L then 80 else 0)) ∧ Duo w w' B R (putL x L) L' ∧ Kp W w' :=
  (ow_put h.1 x hx hl).mono fun e w' ⟨e1, e2, e3⟩ => ⟨e1, duo_but h e2 e3⟩
theorem duo_drop (k : Ky) (hl : L.length ≤ 100000) (h : Duo w W B R L L') :
    Calls Try.prog 14 #[.pointer (some ⟨B, 0, none⟩), ky k] W fun e w' => e = .returned (eI (if has k L then 0 else 81)) ∧ Duo w w' B R (del k L) L' ∧ Kp W w' :=
  (ow_drop h.1 k hl).mono fun e w' ⟨e1, e2, e3⟩ => ⟨e1, duo_but h e2 e3⟩
theorem duo_rs (h : Duo w W B R L L') {L1 : List It} (hr : Rise L1) (h1 : RwP W' w.heap.size R L1) (hO : Off (RS W w.heap.size R) W W') : Duo w W' B R L L1 ∧ Kp W W' := by
  obtain ⟨⟨h2, h3, h4⟩, ⟨_, v, hB, _⟩, _⟩ := h
  obtain ⟨p, hT⟩ := h2.box
  refine ⟨⟨⟨h2.off hO (RS.no hB (by decide) (by decide)) (fun hs => RS.no hB (by decide) (by decide) B hs _ hT), h3, h4.trans (hO.below (fun k hk => hk.1) h4.size)⟩, h1, hr⟩, fun P vs b => hO.box b (fun hs => RS.no hB (by decide) (by decide) P hs _ b)⟩
theorem rise_putL {x : It} {L : List It} (h : Rise L) : Rise (putL x L) := by
  unfold putL
  cases hh : has x.1 L with
  | true => exact h
  | false => exact rise_ins h (has_not hh)
theorem duo_rput (x : It) (hx : Word x.1.1 ∧ Inte x.1.2 ∧ Word x.2) (hl : L'.length ≤ 500) (h : Duo w W B R L L') :
    Calls Try.prog 16 #[.pointer (some ⟨R, 0, none⟩), ky x.1, eU x.2] W fun e w' => e = .returned (eI (if has x.1 L' then 80 else 0)) ∧ Duo w w' B R L (putL x L') ∧ Kp W w' :=
  (rwp_put x hx h.2.2 hl h.2.1).mono fun e w' ⟨e1, e2, e3⟩ => ⟨e1, duo_rs h (rise_putL h.2.2) e2 e3⟩
theorem duo_rdrop (k : Ky) (hl : L'.length ≤ 1000) (h : Duo w W B R L L') :
    Calls Try.prog 15 #[.pointer (some ⟨R, 0, none⟩), ky k] W fun e w' => e = .returned (eI (if has k L' then 0 else 81)) ∧ Duo w w' B R L (del k L') ∧ Kp W w' :=
  (rwp_drop k h.2.2 hl h.2.1).mono fun e w' ⟨e1, e2, e3⟩ => ⟨e1, duo_rs h (rise_del h.2.2) e2 e3⟩
end
def kG (o : Option It) : Ky := match o with | none => (0, 0) | some m => m.1
theorem fstV_kG (o : Option It) : fstV o = .tuple #[.agg #[eU (kG o).1, eI (kG o).2], .bool o.isSome] := by cases o <;> rfl
end Go.Proofs.Ytjfpemkdidoacaa
