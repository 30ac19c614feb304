/- The tree as a row of items in order: what its calls answer and do. No condition but words, and that there aren't too many. -/
import Derived.Test.YtjfpemkdidoacaaUD
namespace Go.Proofs.Ytjfpemkdidoacaa
open Go.RowKit Go.Shelf
set_option linter.unusedVariables false
/-- Block B holds a tree of the items L. -/
def Ob (W : World) (B : Nat) (L : List It) : Prop := ∃ (p : Pt) (t : Tr) (h : Nat), Box W B (tree p (L.length : Int)) 57 ∧ Tre W p t ∧ t.LL h ∧ t.isRed = false ∧ t.items = L ∧ Rise L
theorem Ob.lt {W : World} {B : Nat} {L : List It} (h : Ob W B L) : B < W.heap.size := by obtain ⟨p, t, k, h1, _⟩ := h; exact h1.lt
theorem Ob.rise {W : World} {B : Nat} {L : List It} (h : Ob W B L) : Rise L := by obtain ⟨p, t, k, _, _, _, _, _, hr⟩ := h; exact hr
theorem Ob.below {W w : World} {B : Nat} {L : List It} (h : Ob W B L) (hb : Below W.heap.size W w) : Ob w B L := by
  obtain ⟨p, t, k, h1, h2, h3⟩ := h
  exact ⟨p, t, k, h1.below hb, h2.below hb, h3⟩
theorem Ob.but {W w : World} {B B' : Nat} {L : List It} (h : Ob W B L) (hb : But B' W w) (hne : B ≠ B') {vs : Array Value} {ty : TypeId} (hB : Box W B' vs ty) (hty : ty ≠ 80) : Ob w B L := by
  obtain ⟨p, t, k, h1, h2, h3⟩ := h
  exact ⟨p, t, k, hb.box h1 hne, h2.but hb hB hty, h3⟩
theorem Ob.other {W w : World} {B B' : Nat} {L L' : List It} (h : Ob W B L) (hb : But B' W w) (hne : B ≠ B') (h' : Ob W B' L') : Ob w B L := by
  obtain ⟨p, t, k, h1, _⟩ := h'
  exact h.but hb hne h1 (by decide)
def has (k : Ky) (L : List It) : Bool := L.any fun a => decide (a.1 = k)
def valL (k : Ky) (L : List It) : Int := ((L.find? fun a => decide (a.1 = k)).map Prod.snd).getD 0
def putL (x : It) (L : List It) : List It := if has x.1 L then L else ins x L
theorem has_iff {k : Ky} {L : List It} : has k L = true ↔ ∃ v, (k, v) ∈ L := by
  unfold has
  rw [List.any_eq_true]
  constructor
  · rintro ⟨⟨a, v⟩, ha, e⟩
    have e : a = k := by simpa using e
    exact ⟨v, e ▸ ha⟩
  · rintro ⟨v, hv⟩
    exact ⟨_, hv, by simp⟩
theorem has_not {k : Ky} {L : List It} (h : has k L = false) : ∀ a ∈ L, a.1 ≠ k := fun a ha e => by
  have : has k L = true := has_iff.2 ⟨a.2, by rw [← e]; exact ha⟩
  rw [h] at this; cases this
theorem get_row {k : Ky} {t : Tr} (hr : Rise t.items) : t.get k = (t.items.find? fun a => decide (a.1 = k)).map Prod.snd := by
  cases hf : t.items.find? (fun a => decide (a.1 = k)) with
  | none =>
    have hn := List.find?_eq_none.1 hf
    cases hg : t.get k with
    | none => rfl
    | some v =>
      have := hn _ ((Tr.get_spec hr).1 hg)
      simp at this
  | some a =>
    have h1 := List.mem_of_find?_eq_some hf
    have h2 : a.1 = k := by have := List.find?_some hf; simpa using this
    exact (Tr.get_spec hr).2 (by rw [← h2]; exact h1)
theorem get_has {k : Ky} {t : Tr} (hr : Rise t.items) : (t.get k).isSome = has k t.items := by
  rw [Bool.eq_iff_iff, has_iff, Option.isSome_iff_exists]
  exact ⟨fun ⟨v, hv⟩ => ⟨v, (Tr.get_spec hr).1 hv⟩, fun ⟨v, hv⟩ => ⟨v, (Tr.get_spec hr).2 hv⟩⟩
theorem del_len {k : Ky} {L : List It} (hr : Rise L) (h : has k L = true) : (del k L).length + 1 = L.length := by
  induction L with
  | nil => cases h
  | cons a L ih =>
    have hr' : Rise ([] ++ a :: L) := hr
    obtain ⟨_, h2, _, h4⟩ := rise_node.1 hr'
    by_cases e : a.1 = k
    · have : del k (a :: L) = L := by rw [← e]; exact del_here (A := []) (fun z hz => by cases hz) h4
      rw [this]; rfl
    · have h5 : has k L = true := by
        obtain ⟨v, hv⟩ := has_iff.1 h
        rcases List.mem_cons.1 hv with hv | hv
        · exact absurd (by rw [← hv]) e
        · exact has_iff.2 ⟨v, hv⟩
      have : del k (a :: L) = a :: del k L := by unfold del; rw [List.filter_cons, if_pos (by simpa using e)]
      rw [this]
      simp only [List.length_cons]
      rw [ih h2 h5]
section
variable {B : Nat} {L : List It} {w : World}
theorem ob_new (w : World) : Calls Try.prog 10 #[] w fun e w' => ∃ B : Nat, e = .returned (.pointer (some ⟨B, 0, none⟩)) ∧ w.heap.size ≤ B ∧ Ob w' B [] ∧ Below w.heap.size w w' :=
  (numbers_any w).mono fun e w' ⟨B, h1, h2, h3, h4⟩ => ⟨B, h1, h2, ⟨none, .nil, 0, h3, rfl, rfl, rfl, rfl, List.Pairwise.nil⟩, h4⟩
theorem ob_top (h : Ob w B L) : ∃ p, ∀ w1, Below w.heap.size w w1 → Calls Try.prog 45 #[.pointer (some ⟨B, 0, none⟩)] w1 fun e w' => e = .returned (.pointer p) ∧ w1 = w' := by
  obtain ⟨p, t, k, h1, _⟩ := h
  exact ⟨p, fun w1 hb => top_any B p _ w1 (h1.below hb)⟩
theorem ob_len (h : Ob w B L) : Calls Try.prog 27 #[.pointer (some ⟨B, 0, none⟩)] w fun e w' => e = .returned (eI (L.length : Int)) ∧ w = w' := by
  obtain ⟨p, t, k, h1, _⟩ := h
  exact len_any B p _ w h1
theorem ob_get (k : Ky) (h : Ob w B L) : Calls Try.prog 17 #[.pointer (some ⟨B, 0, none⟩), ky k] w fun e w' => e = .returned (.tuple #[eU (valL k L), .bool (has k L)]) ∧ Below w.heap.size w w' := by
  obtain ⟨p, t, j, h1, h2, _, _, rfl, hr⟩ := h
  have := getw_any B p _ t k w h1 h2
  rw [get_has hr, get_row hr] at this
  exact this
theorem ob_first (h : Ob w B L) : Calls Try.prog 25 #[.pointer (some ⟨B, 0, none⟩)] w fun e w' => e = .returned (fstV L.head?) ∧ Below w.heap.size w w' := by
  obtain ⟨p, t, j, h1, h2, _, _, rfl, hr⟩ := h
  have := firstT_any (.pointer (some ⟨B, 0, none⟩)) p t w (fun w1 hb => top_any B p _ w1 (h1.below hb)) h2
  rw [Tr.fst_items] at this
  exact this
theorem ob_all (h : Ob w B L) : Calls Try.prog 21 #[.pointer (some ⟨B, 0, none⟩)] w fun e w' => e = .returned (.tuple #[eU (low L), .bool (decide (L ≠ []))]) ∧ w = w' := by
  obtain ⟨p, t, j, h1, h2, _, _, rfl, hr⟩ := h
  have := all_some (.pointer (some ⟨B, 0, none⟩)) p t w (top_any B p _ w h1) h2
  rw [Tr.sum_low, Tr.isNil_items] at this
  exact this
theorem ob_upto (q : Int) (h : Ob w B L) : Calls Try.prog 19 #[.pointer (some ⟨B, 0, none⟩), eU q] w fun e w' => e = .returned (.tuple #[eU (low (upto q L)), .bool (decide (upto q L ≠ []))]) ∧ Below w.heap.size w w' := by
  obtain ⟨p, t, j, h1, h2, _, _, rfl, hr⟩ := h
  have := uptoT_any (some ⟨B, 0, none⟩) p q (t.upt q).1 (t.upt q).2 w (fun w1 hb => top_any B p _ w1 (h1.below hb)) (fun w1 hb => upto_any B p _ q t p w1 (h1.below hb) (h2.below hb))
  rw [Tr.upt_spec q hr] at this
  exact this
theorem ob_find (y : Int) (h : Ob w B L) : Calls Try.prog 22 #[.pointer (some ⟨B, 0, none⟩), okV y] w fun e w' => e = .returned (fstV (fnd y L)) ∧ Below w.heap.size w w' := by
  obtain ⟨p, t, j, h1, h2, _, _, rfl, hr⟩ := h
  have := findT_any (some ⟨B, 0, none⟩) p y (t.fndT y) w (fun w1 hb => top_any B p _ w1 (h1.below hb)) (fun w1 hb => find_any B p _ y t p w1 (h1.below hb) (h2.below hb))
  rw [Tr.fndT_spec] at this
  exact this
theorem ll_small {t : Tr} {h : Nat} (H : t.LL h) (hl : t.items.length ≤ 100000) : h < 100001 := by
  have h1 := H.many
  have h2 : h < 2 ^ h := Nat.lt_two_pow_self
  omega
theorem ob_height (hl : L.length ≤ 100000) (h : Ob w B L) : Calls Try.prog 28 #[.pointer (some ⟨B, 0, none⟩)] w fun e w' => ∃ H : Nat, e = .returned (eI (H : Int)) ∧ (2 ^ (H / 2) ≤ L.length + 1 ∧ (H = 0 ↔ L = []) ∧ H ≤ 200003) ∧ Below w.heap.size w w' := by
  obtain ⟨p, t, j, h1, h2, h3, h4, rfl, hr⟩ := h
  have hj := ll_small h3 hl
  have hh := h3.high
  rw [h4] at hh
  have hh' : t.hgt ≤ 2 * j := hh
  refine (heightT_any (.pointer (some ⟨B, 0, none⟩)) p t w (top_any B p _ w h1) (by omega) h2).mono fun e w' ⟨e1, e2⟩ => ⟨t.hgt, e1, ⟨high h3.many hh', ?_, by omega⟩, e2⟩
  cases t with
  | nil => exact ⟨fun _ => rfl, fun _ => rfl⟩
  | nd m r a b => exact ⟨fun e => by simp [Tr.hgt] at e, fun e => absurd e (Tr.nd_items_ne _ _ _ _)⟩
theorem ob_well (hl : L.length ≤ 100000) (h : Ob w B L) : Calls Try.prog 29 #[.pointer (some ⟨B, 0, none⟩), eqV] w fun e w' => e = .returned (.bool true) ∧ Below w.heap.size w w' := by
  obtain ⟨p, t, j, h1, h2, h3, h4, rfl, hr⟩ := h
  have hj := ll_small h3 hl
  exact well_any B p _ t j w h1 h2 h4 (fun w1 hb => leans_any B p _ t j p w1 h3 (by omega) (h1.below hb) (h2.below hb)) (fun w1 hb => rises_any B p t w1 (h1.below hb) (h2.below hb) hr (by omega))
theorem tint_LL {t : Tr} {h : Nat} (H : t.LL h) : ∃ g, (t.tint false).LL g ∧ (t.tint false).isRed = false := by
  cases t with
  | nil => exact ⟨h, H, rfl⟩
  | nd m r a b =>
    cases r with
    | false => exact ⟨h, H, rfl⟩
    | true => obtain ⟨k1, k2, k3, k4⟩ := H.red; exact ⟨h + 1, Tr.LL.mkBlack k1 k2 k3, rfl⟩
theorem ob_put (x : It) (hx : Word x.1.1 ∧ Inte x.1.2 ∧ Word x.2) (hl : L.length ≤ 100000) (h : Ob w B L) :
    Calls Try.prog 13 #[.pointer (some ⟨B, 0, none⟩), ky x.1, eU x.2] w fun e w' => e = .returned (eI (if has x.1 L then 80 else 0)) ∧ Ob w' B (putL x L) ∧ But B w w' := by
  have h' := h
  obtain ⟨p, t, j, h1, h2, h3, h4, rfl, hr⟩ := h
  unfold putL
  cases hh : has x.1 t.items with
  | true =>
    have := put_twice B p _ t x w h1 h2 (by rw [get_has hr]; exact hh)
    exact this.mono fun e w' ⟨e1, e2⟩ => ⟨e1, h'.below e2, But.mk_below e2⟩
  | false =>
    have hn := has_not hh
    refine (put_new B p _ t x hx w h1 h2 (by rw [get_has hr]; exact hh) (wrap_id (by omega) (by omega))).mono fun e w' ⟨e1, p', e2, e3, e4⟩ => ⟨e1, ?_, e4⟩
    have hi := Tr.put_items hr hn
    obtain ⟨g, k1, k2⟩ := tint_LL ((Tr.put_LL x h3).1 h4)
    have hlen : ((ins x t.items).length : Int) = (t.items.length : Int) + 1 := by rw [ins_len]; simp
    refine ⟨p', _, g, ?_, e3, k1, k2, by rw [Tr.tint_items, hi]; rfl, rise_ins hr hn⟩
    show Box w' B (tree p' ((ins x t.items).length : Int)) 57
    rw [hlen]; exact e2
theorem ob_drop (k : Ky) (hl : L.length ≤ 100000) (h : Ob w B L) :
    Calls Try.prog 14 #[.pointer (some ⟨B, 0, none⟩), ky k] w fun e w' => e = .returned (eI (if has k L then 0 else 81)) ∧ Ob w' B (del k L) ∧ But B w w' := by
  have h' := h
  obtain ⟨p, t, j, h1, h2, h3, h4, rfl, hr⟩ := h
  cases hh : has k t.items with
  | false =>
    have := drop_absent B p _ t k w h1 h2 (by rw [get_has hr]; exact hh)
    rw [del_none (has_not hh)]
    exact this.mono fun e w' ⟨e1, e2⟩ => ⟨e1, h'.below e2, But.mk_below e2⟩
  | true =>
    have hm := Tr.may_of h3 hr (has_iff.1 hh)
    refine (drop_here B p _ t k hm w h1 h2 (by rw [get_has hr]; exact hh) (wrap_id (by omega) (by omega))).mono fun e w' ⟨e1, p', e2, e3, e4⟩ => ⟨e1, ?_, e4⟩
    have hi := Tr.rem_items hr hm
    have hR := Tr.rem_LL h3 hm
    have hg : ∃ g, ((t.rem k).1).LL g := by
      cases hs : (t.rem k).2 with
      | false => exact ⟨_, (hR.1 hs).1⟩
      | true => obtain ⟨g, _, h, _⟩ := hR.2 hs; exact ⟨g, h⟩
    obtain ⟨g, hg⟩ := hg
    obtain ⟨g', k1, k2⟩ := tint_LL hg
    have hlen : ((del k t.items).length : Int) = (t.items.length : Int) - 1 := by have := del_len hr hh; omega
    refine ⟨p', _, g', ?_, e3, k1, k2, by rw [Tr.tint_items, hi], rise_del hr⟩
    rw [hlen]; exact e2
/-- What a loop over the tree's items goes over. -/
theorem ob_each (n Cb n₀ : Nat) (w0 : World) (hn : n₀ ≤ w0.heap.size) (h6 : 6 ≤ n) (hw : w.heap.size ≤ n₀) (h : Ob w B L) (hb : Below w.heap.size w w0) (hC : Box w0 Cb #[.pointer (some ⟨B, 0, none⟩)] 23) :
    SeqC n 52 #[.pointer (some ⟨Cb, 0, none⟩)] (fun m : It => #[ky m.1, eU m.2]) w.heap.size (fun ys => ys = L) (fun pre => pre ≠ [] ∧ pre <+: L) (fun pre x => pre ++ [x] <+: L) w0 := by
  obtain ⟨p, t, j, h1, h2, h3, h4, rfl, hr⟩ := h
  exact each1T_seq n Cb w.heap.size (some ⟨B, 0, none⟩) p t w0 hb.size h6 hC (fun w1 k => top_any B p _ w1 (h1.below (upp hb k))) (IsTr.below hb h2)
end
theorem putL_len {x : It} {L : List It} : (putL x L).length ≤ L.length + 1 := by
  unfold putL; split
  · omega
  · rw [ins_len]; omega
theorem del_len_le {k : Ky} {L : List It} : (del k L).length ≤ L.length := List.length_filter_le _ _
end Go.Proofs.Ytjfpemkdidoacaa
