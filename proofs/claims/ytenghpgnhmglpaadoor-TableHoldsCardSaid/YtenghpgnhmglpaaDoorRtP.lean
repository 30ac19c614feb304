/- Plain: what a put and a drop leave; a row of which all is dropped; two tables of the call's own. -/
import Derived.Test.YtenghpgnhmglpaaDoorTbT
import Derived.Test.YtenghpgnhmglpaaDoorRtN
import Derived.Test.YtenghpgnhmglpaaDoorRtI
namespace Go.Proofs.YtenghpgnhmglpaaDoor
open Go.RowKit Go.Shelf
set_option linter.unusedVariables false
set_option linter.unusedSimpArgs false
theorem del_fresh {k : Int} {L : List Im} (h : hasI k L = false) : delI k L = L := by
  unfold delI
  rw [List.filter_eq_self]
  intro a ha
  simpa using hasI_no.1 h a ha
theorem del_ins {k x : Int} : ∀ {L : List Im}, hasI k L = false → delI k (insI ⟨k, x⟩ L) = L
  | [], _ => by simp [insI, delI]
  | a :: L, h => by
    have ha : a.id ≠ k := hasI_no.1 h a (by simp)
    have hL : hasI k L = false := hasI_no.2 fun b hb => hasI_no.1 h b (by simp [hb])
    unfold insI
    split
    · have := del_fresh h
      unfold delI at this ⊢
      rw [List.filter_cons_of_neg (by simp), this]
    · have := del_ins (x := x) hL
      unfold delI at this ⊢
      rw [List.filter_cons_of_pos (by simpa using ha), this]
/-- What is put in and dropped again leaves the row as it was. -/
theorem undo {k v : Int} {L : List Im} (h : putE k L = 0) : askE k (putI k v L) = 0 ∧ dropT k (putI k v L) = L := by
  have hm : mayI k = true := by
    cases hm : mayI k with
    | true => rfl
    | false => rw [putE_arg hm] at h; cases h
  have hh : hasI k L = false := by
    cases hh : hasI k L with
    | false => rfl
    | true => rw [putE_twice hm hh] at h; cases h
  have e := askE_ok hm (has_ins k v L)
  rw [putI_ok h]
  exact ⟨e, by rw [dropT_ok e, del_ins hh]⟩
theorem drop_next {L : List Im} (hg : Good L) {k : Nat} (hk : k < L.length) : askE L[k].id (L.drop k) = 0 ∧ dropT L[k].id (L.drop k) = L.drop (k + 1) ∧ askE L[k].id (L.drop (k + 1)) = 81 ∧ dropT L[k].id (L.drop (k + 1)) = L.drop (k + 1) := by
  have hm : mayI L[k].id = true := mayI_iff.2 (hg.each _ (List.getElem_mem hk)).1
  have hs := (rise_split hg.rise k hk).2
  have hn : hasI L[k].id (L.drop (k + 1)) = false := hasI_no.2 fun a ha e => by have := hs a ha; omega
  have hd : L.drop k = L[k] :: L.drop (k + 1) := List.drop_eq_getElem_cons hk
  have hy : hasI L[k].id (L.drop k) = true := hasI_iff.2 ⟨L[k], by rw [hd]; exact List.mem_cons_self, rfl⟩
  have e := askE_ok hm hy
  have e2 := askE_no hm hn
  refine ⟨e, ?_, e2, dropT_no (by rw [e2]; decide)⟩
  rw [dropT_ok e, hd]
  unfold delI
  rw [List.filter_cons_of_neg (by simp)]
  exact del_fresh hn
section
variable {w0 w w' : World} {χ χ' : Nat → Nat} {c d B C : Nat} {L M : List Im}
/-- A table whose blocks have the colour 1, and all others the colour 0. -/
theorem Tb.fresh (h : Tb w χ c B L) : ∃ χ1, Tb w χ1 1 B L ∧ ∀ k, χ1 k ≤ 1 := by
  have hc := h.col0
  refine ⟨fun k => if χ k = c then 1 else 0, h.paint (fun k _ e => if_pos e) (if_neg (by rw [hc.1]; exact fun e => hc.2 e.symm)) (by decide), fun k => ?_⟩
  show (if χ k = c then 1 else 0) ≤ 1
  split <;> omega
/-- A copy, alone: what lay ahead of it lies as it lay. -/
theorem own1_copy (h : Tb w χ c B L) (hl : L.length ≤ 1000) : Calls Tryd.prog 10 #[.pointer (some ⟨B, 0, none⟩), Value.nilFunc] w fun e w' => ∃ B', e = .returned (.pointer (some ⟨B', 0, none⟩)) ∧ Own1 Tb w w' B' L := by
  obtain ⟨χ1, h1, hle⟩ := h.fresh
  have ht := h.tab
  refine (tb_copy 5 h1 hl (by decide)).mono fun e w' ⟨B', y1, y2, y3⟩ => ⟨B', y1, recol (fun _ => 0) w.heap.size 1, (Fr.start w).next (Col.new y3 1 (c := 1)) (by decide), y2.paint (fun k _ hk => ?_) (recol_lt ht.1) (by decide)⟩
  rcases Nat.lt_or_ge k w.heap.size with g | g
  · rw [recol_lt g] at hk
    have := hle k
    omega
  · exact recol_ge g
/-- Two tables of the call's own, and the cell of the first. -/
def Duo (w0 w : World) (B : Nat) (L : List Im) (C : Nat) (M : List Im) (T : Nat) : Prop := ∃ χ, Fr w0 χ w ∧ Tb w χ 1 B L ∧ Tb w χ 2 C M ∧ Bx w χ 3 T #[.pointer (some ⟨B, 0, none⟩)] 23
variable {T : Nat}
theorem Duo.world (h : Duo w0 w B L C M T) : Below w0.heap.size w0 w := by
  obtain ⟨χ, h1, _⟩ := h
  exact h1.world
theorem Duo.box (h : Duo w0 w B L C M T) : Box w T #[.pointer (some ⟨B, 0, none⟩)] 23 := by
  obtain ⟨χ, _, _, _, h1, _⟩ := h
  exact h1
theorem Duo.tells1 (h : Duo w0 w B L C M T) (hl : L.length ≤ 1000) : Tells w (.pointer (some ⟨B, 0, none⟩)) L := by
  obtain ⟨χ, _, h1, _⟩ := h
  exact h1.tells hl
theorem Duo.tells2 (h : Duo w0 w B L C M T) (hl : M.length ≤ 1000) : Tells w (.pointer (some ⟨C, 0, none⟩)) M := by
  obtain ⟨χ, _, _, h1, _⟩ := h
  exact h1.tells hl
theorem Duo.below (h : Duo w0 w B L C M T) (k : Below w.heap.size w w') : Duo w0 w' B L C M T := by
  obtain ⟨χ, h1, h2, h3, h4⟩ := h
  exact ⟨χ, h1.below k, h2.below k, h3.below k, h4.below k⟩
theorem duo_copy (h : Own1 Tb w0 w B L) (hl : L.length ≤ 1000) : Calls Tryd.prog 10 #[.pointer (some ⟨B, 0, none⟩), Value.nilFunc] (w.alloc (.cells #[.pointer (some ⟨B, 0, none⟩)] 23)) fun e w' => ∃ C, e = .returned (.pointer (some ⟨C, 0, none⟩)) ∧ Duo w0 w' B L C L w.heap.size := by
  obtain ⟨χ, h1, h2⟩ := h
  have k : Col χ (recol χ w.heap.size 3) 3 w (w.alloc (.cells #[.pointer (some ⟨B, 0, none⟩)] 23)) := Col.new (up1 w _) 3
  have f1 := h1.next k (by decide)
  have f2 := h2.other k (by decide) (by decide)
  have f3 : Bx (w.alloc (.cells #[.pointer (some ⟨B, 0, none⟩)] 23)) (recol χ w.heap.size 3) 3 w.heap.size #[.pointer (some ⟨B, 0, none⟩)] 23 := ⟨Box.new _ _ _, recol_ge (Nat.le_refl _)⟩
  refine (tb_copy 2 f2 hl (by decide)).mono fun e w' ⟨B', y1, y2, y3⟩ => ⟨B', y1, _, f1.next (Col.new y3 2 (c := 2)) (by decide), f2.other (Col.new y3 2 (c := 2)) (by decide) (by decide), y2, f3.other (Col.new y3 2 (c := 2)) (by decide)⟩
theorem duo_put1 (k x : Int) {E : Int} {K : List Im} (hx : Wd x) (h : Duo w0 w B L C M T) (hl : L.length ≤ 1000) (hE : putE k L = E) (hM : putI k x L = K) : Calls Tryd.prog 16 #[.pointer (some ⟨B, 0, none⟩), eI k, eU x] w fun e w' => e = .returned (eI E) ∧ Duo w0 w' B K C M T := by
  obtain ⟨χ, h1, h2, h3, h4⟩ := h
  subst hE hM
  exact (tb_put k x h2 hx hl).mono fun e w' ⟨y1, χ', y2, y3⟩ => ⟨y1, χ', h1.next y2 (by decide), y3, h3.other y2 (by decide) (by decide), h4.other y2 (by decide)⟩
theorem duo_drop1 (k : Int) {E : Int} {K : List Im} (h : Duo w0 w B L C M T) (hl : L.length ≤ 1000) (hE : askE k L = E) (hM : dropT k L = K) : Calls Tryd.prog 17 #[.pointer (some ⟨B, 0, none⟩), eI k] w fun e w' => e = .returned (eI E) ∧ Duo w0 w' B K C M T := by
  obtain ⟨χ, h1, h2, h3, h4⟩ := h
  subst hE hM
  exact (tb_drop k h2 hl).mono fun e w' ⟨y1, χ', y2, y3⟩ => ⟨y1, χ', h1.next y2 (by decide), y3, h3.other y2 (by decide) (by decide), h4.other y2 (by decide)⟩
/-- Two tables, the first one's cell, a row of numbers, and a deferred mark, all of the call's own. -/
def Gn (w0 w : World) (B : Nat) (L : List Im) (C : Nat) (M : List Im) (T base : Nat) (v : Value) (n : Nat) (xs : List Value) (D : Nat) : Prop :=
  ∃ χ, Fr w0 χ w ∧ Tb w χ 1 B L ∧ Tb w χ 2 C M ∧ Bx w χ 3 T #[.pointer (some ⟨B, 0, none⟩)] 23 ∧ (w.ownsRow base 3 1 v n xs ∧ ∀ g, v.ownBlock = some g → χ g = 3) ∧ (w.heap[D]? = some (.deferred (some [])) ∧ χ D = 3)
variable {base n D : Nat} {v : Value} {xs : List Value}
theorem Gn.duo (h : Gn w0 w B L C M T base v n xs D) : Duo w0 w B L C M T := by
  obtain ⟨χ, h1, h2, h3, h4, _⟩ := h
  exact ⟨χ, h1, h2, h3, h4⟩
theorem Gn.row (h : Gn w0 w B L C M T base v n xs D) : w.ownsRow base 3 1 v n xs := by
  obtain ⟨χ, h1, h2, h3, _, h4, _⟩ := h
  exact h4.1
theorem Gn.mark (h : Gn w0 w B L C M T base v n xs D) : w.heap[D]? = some (.deferred (some [])) := by
  obtain ⟨χ, h1, h2, h3, _, _, h4⟩ := h
  exact h4.1
theorem Gn.below (h : Gn w0 w B L C M T base v n xs D) (k : Below w.heap.size w w') : Gn w0 w' B L C M T base v n xs D := by
  obtain ⟨χ, h1, h2, h3, hb, h4, h5⟩ := h
  exact ⟨χ, h1.below k, h2.below k, h3.below k, hb.below k, ⟨own_below h4.1 k, h4.2⟩, (k.block D (Array.getElem?_eq_some_iff.1 h5.1).1).trans h5.1, h5.2⟩
theorem Gn.drew (h : Gn w0 w B L C M T base v n xs D) : Gn w0 w.drew B L C M T base v n xs D := h.below (Below.refl _ w).drew
theorem gn_drop1 (k : Int) {E : Int} {K : List Im} (h : Gn w0 w B L C M T base v n xs D) (hl : L.length ≤ 1000) (hE : askE k L = E) (hM : dropT k L = K) : Calls Tryd.prog 17 #[.pointer (some ⟨B, 0, none⟩), eI k] w fun e w' => e = .returned (eI E) ∧ Gn w0 w' B K C M T base v n xs D := by
  obtain ⟨χ, h1, h2, h3, hb, ⟨h4, h5⟩, h6, h7⟩ := h
  subst hE hM
  have hD := (Array.getElem?_eq_some_iff.1 h6).1
  exact (tb_drop k h2 hl).mono fun e w' ⟨y1, χ', y2, y3⟩ => ⟨y1, χ', h1.next y2 (by decide), y3, h3.other y2 (by decide) (by decide), hb.other y2 (by decide), ⟨y2.asOff.owns h4 (fun g e => by rw [h5 g e]; decide), fun g e => (y2.col g (h4.lt g e).2).trans (h5 g e)⟩, (y2.block D hD (by rw [h7]; decide)).trans h6, (y2.col D hD).trans h7⟩
/-- The ids that a table of two told, and a mark made ahead of them. -/
theorem Duo.gn {X : World} (h : Duo w0 w B L C M T) (hX : Below w.heap.size w X) (hv : X.ownsRow base 3 1 v n xs) (hb : w.heap.size ≤ base) (hD : X.heap[D]? = some (.deferred (some []))) (hDw : w.heap.size ≤ D) : Gn w0 X B L C M T base v n xs D := by
  obtain ⟨χ, h1, h2, h3, h4⟩ := h
  have k : Col χ (recol χ w.heap.size 3) 2 w X := Col.new hX 3
  have k1 : Col χ (recol χ w.heap.size 3) 3 w X := Col.new hX 3
  have k4 : Col χ (recol χ w.heap.size 3) 5 w X := Col.new hX 3
  exact ⟨recol χ w.heap.size 3, h1.next k1 (by decide), h2.other k1 (by decide) (by decide), h3.other k1 (by decide) (by decide), h4.other k4 (by decide), ⟨hv, fun g e => recol_ge (Nat.le_trans hb (hv.lt g e).1)⟩, hD, recol_ge hDw⟩
end
end Go.Proofs.YtenghpgnhmglpaaDoor
