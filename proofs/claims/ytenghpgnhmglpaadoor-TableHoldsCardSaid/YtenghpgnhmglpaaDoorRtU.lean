/- The document's row with its blocks' colour; what a table must keep, as laws; a table and a row side by side. No condition but that they aren't long. -/
import Derived.Test.YtenghpgnhmglpaaDoorTbZ
namespace Go.Proofs.YtenghpgnhmglpaaDoor
open Go.RowKit Go.Shelf
set_option linter.unusedVariables false
def Wd (x : Int) : Prop := 0 ≤ x ∧ x < 18446744073709551616
/-- A row of ids, all of whose blocks have the colour c. -/
def RtC (w : World) (χ : Nat → Nat) (c R : Nat) (L : List Im) : Prop := ∃ v, Rt w R L v ∧ χ R = c ∧ ∀ g, v.ownBlock = some g → χ g = c
section
variable {w0 w w' : World} {χ χ' : Nat → Nat} {c d R : Nat} {L M : List Im} {v : Value}
theorem Col.asOff (k : Col χ χ' d w w') : Off (fun b => χ b = d) w w' := ⟨k.os, k.tape, k.output, k.size, fun i hi hn => k.block i hi hn⟩
theorem RtC.other (h : RtC w χ c R L) (k : Col χ χ' d w w') (hd : c ≠ d) : RtC w' χ' c R L := by
  obtain ⟨v, h1, h2, h3⟩ := h
  refine ⟨v, h1.off k.asOff (by rw [h2]; exact hd) (fun g e => by rw [h3 g e]; exact hd), (k.col R h1.box.lt).trans h2, fun g e => (k.col g (h1.row.lt g e).2).trans (h3 g e)⟩
theorem RtC.below (h : RtC w χ c R L) (k : Below w.heap.size w w') : RtC w' χ c R L := by
  obtain ⟨v, h1, h2, h3⟩ := h
  exact ⟨v, h1.below k, h2, h3⟩
theorem RtC.left (h : Rt w R L v) (hc : χ R = c) (hg : ∀ g, v.ownBlock = some g → χ g = c) (hL : RtLeft w w' R M v) : ∃ χ', Col χ χ' c w w' ∧ RtC w' χ' c R M := by
  obtain ⟨⟨v', h1, h2⟩, h3⟩ := hL
  refine ⟨recol χ w.heap.size c, Col.off h3 (fun k hk => ?_), v', h1, by rw [recol_lt h.box.lt, hc], fun g e => ?_⟩
  · rcases hk with rfl | hk
    · exact hc
    · exact hg k hk
  · rcases h2 g e with e1 | e1
    · rw [recol_lt (h.row.lt g e1).2, hg g e1]
    · exact recol_ge e1
theorem rtc_put (k x : Int) (h : RtC w χ c R L) (hg : Good L) (hl : L.length ≤ 100000) : Calls Tryd.prog 19 #[.pointer (some ⟨R, 0, none⟩), eI k, eU x] w fun e w' => e = .returned (eI (putE k L)) ∧ ∃ χ', Col χ χ' c w w' ∧ RtC w' χ' c R (putI k x L) := by
  obtain ⟨v, h1, h2, h3⟩ := h
  exact (rput_any k x h1 hg hl).mono fun e w' ⟨y1, y2⟩ => ⟨y1, RtC.left h1 h2 h3 y2⟩
theorem rtc_set (k x : Int) (h : RtC w χ c R L) (hg : Good L) (hl : L.length ≤ 100000) : Calls Tryd.prog 20 #[.pointer (some ⟨R, 0, none⟩), eI k, eU x] w fun e w' => e = .returned (eI (askE k L)) ∧ ∃ χ', Col χ χ' c w w' ∧ RtC w' χ' c R (setT k x L) := by
  obtain ⟨v, h1, h2, h3⟩ := h
  exact (rset_any k x h1 hg hl).mono fun e w' ⟨y1, y2⟩ => ⟨y1, RtC.left h1 h2 h3 y2⟩
theorem rtc_drop (k : Int) (h : RtC w χ c R L) (hg : Good L) (hl : L.length ≤ 100000) : Calls Tryd.prog 21 #[.pointer (some ⟨R, 0, none⟩), eI k] w fun e w' => e = .returned (eI (askE k L)) ∧ ∃ χ', Col χ χ' c w w' ∧ RtC w' χ' c R (dropT k L) := by
  obtain ⟨v, h1, h2, h3⟩ := h
  exact (rdrop_any k h1 hg hl).mono fun e w' ⟨y1, y2⟩ => ⟨y1, RtC.left h1 h2 h3 y2⟩
/-- A row that was made now, empty. -/
theorem rtc_new (w : World) (χ : Nat → Nat) (c : Nat) : RtC (w.alloc (.cells #[.slice none 0 0] 29)) (recol χ w.heap.size c) c w.heap.size [] :=
  ⟨.slice none 0 0, ⟨Box.new _ _ _, by simp [rowC], .inl ⟨rfl, rfl⟩⟩, recol_ge (Nat.le_refl _), fun g e => by cases e⟩
end
/-- What a table keeps: Tb says that such a row stands in it, in blocks of one colour. -/
structure TbLaws (Tb : World → (Nat → Nat) → Nat → Nat → List Im → Prop) : Prop where
  tells : ∀ {w χ c B L}, Tb w χ c B L → L.length ≤ 1000 → Tells w (.pointer (some ⟨B, 0, none⟩)) L
  good : ∀ {w χ c B L}, Tb w χ c B L → Good L
  other : ∀ {w w' : World} {χ χ' : Nat → Nat} {c d B : Nat} {L : List Im}, Tb w χ c B L → Col χ χ' d w w' → c ≠ d → d ≠ 0 → Tb w' χ' c B L
  tab : ∀ {w χ c B L}, Tb w χ c B L → Tab w
  below : ∀ {w w' : World} {χ : Nat → Nat} {c B : Nat} {L : List Im}, Tb w χ c B L → Below w.heap.size w w' → Tb w' χ c B L
  make : ∀ (w : World) (χ : Nat → Nat) (c : Nat), Tab w → χ 0 = 0 → c ≠ 0 → Calls Tryd.prog 9 #[] w fun e w' => ∃ B, e = .returned (.pointer (some ⟨B, 0, none⟩)) ∧ Tb w' (recol χ w.heap.size c) c B [] ∧ Below w.heap.size w w'
  put : ∀ {w χ c B L} (k x : Int), Tb w χ c B L → Inte k → Wd x → L.length ≤ 1000 → Calls Tryd.prog 16 #[.pointer (some ⟨B, 0, none⟩), eI k, eU x] w fun e w' => e = .returned (eI (putE k L)) ∧ ∃ χ', Col χ χ' c w w' ∧ Tb w' χ' c B (putI k x L)
  set : ∀ {w χ c B L} (k x : Int), Tb w χ c B L → Inte k → Wd x → L.length ≤ 1000 → Calls Tryd.prog 18 #[.pointer (some ⟨B, 0, none⟩), eI k, eU x] w fun e w' => e = .returned (eI (askE k L)) ∧ ∃ χ', Col χ χ' c w w' ∧ Tb w' χ' c B (setT k x L)
  drop : ∀ {w χ c B L} (k : Int), Tb w χ c B L → Inte k → L.length ≤ 1000 → Calls Tryd.prog 17 #[.pointer (some ⟨B, 0, none⟩), eI k] w fun e w' => e = .returned (eI (askE k L)) ∧ ∃ χ', Col χ χ' c w w' ∧ Tb w' χ' c B (dropT k L)
  copy : ∀ {w χ c B L} (d : Nat), Tb w χ c B L → L.length ≤ 1000 → d ≠ 0 → Calls Tryd.prog 10 #[.pointer (some ⟨B, 0, none⟩), Value.nilFunc] w fun e w' => ∃ B', e = .returned (.pointer (some ⟨B', 0, none⟩)) ∧ Tb w' (recol χ w.heap.size d) d B' L ∧ Below w.heap.size w w'
  own : ∀ {w χ c B L} (d : Nat), Tb w χ c B L → L.length ≤ 1000 → d ≠ 0 → Calls Tryd.prog 10 #[.pointer (some ⟨B, 0, none⟩), .func (.func 11) #[] #[]] w fun e w' => ∃ B', e = .returned (.pointer (some ⟨B', 0, none⟩)) ∧ Tb w' (recol χ w.heap.size d) d B' (oneMore L) ∧ Below w.heap.size w w'
/-- A table and a row side by side, apart from all that lay ahead. -/
structure Two (Tb : World → (Nat → Nat) → Nat → Nat → List Im → Prop) (w0 w : World) (χ : Nat → Nat) (B R : Nat) (L M : List Im) : Prop where
  fr : Fr w0 χ w
  tb : Tb w χ 1 B L
  rt : RtC w χ 2 R M
  good : Good M
section
variable {Tb : World → (Nat → Nat) → Nat → Nat → List Im → Prop} (hT : TbLaws Tb) {w0 w w' : World} {χ χ' : Nat → Nat} {B R d : Nat} {L M : List Im}
include hT
theorem Two.other (h : Two Tb w0 w χ B R L M) (k : Col χ χ' d w w') (hd : 2 < d) : Two Tb w0 w' χ' B R L M :=
  ⟨h.fr.next k (by omega), hT.other h.tb k (by omega) (by omega), h.rt.other k (by omega), h.good⟩
theorem Two.below (h : Two Tb w0 w χ B R L M) (k : Below w.heap.size w w') : Two Tb w0 w' χ B R L M :=
  ⟨h.fr.below k, hT.below h.tb k, h.rt.below k, h.good⟩
theorem two_put (k x : Int) (hk : Inte k) (hx : Wd x) (h : Two Tb w0 w χ B R L M) (hl : L.length ≤ 1000) : Calls Tryd.prog 16 #[.pointer (some ⟨B, 0, none⟩), eI k, eU x] w fun e w' => e = .returned (eI (putE k L)) ∧ ∃ χ', Col χ χ' 1 w w' ∧ Two Tb w0 w' χ' B R (putI k x L) M :=
  (hT.put k x h.tb hk hx hl).mono fun e w' ⟨y1, χ', y2, y3⟩ => ⟨y1, χ', y2, h.fr.next y2 (by decide), y3, h.rt.other y2 (by decide), h.good⟩
theorem two_set (k x : Int) (hk : Inte k) (hx : Wd x) (h : Two Tb w0 w χ B R L M) (hl : L.length ≤ 1000) : Calls Tryd.prog 18 #[.pointer (some ⟨B, 0, none⟩), eI k, eU x] w fun e w' => e = .returned (eI (askE k L)) ∧ ∃ χ', Col χ χ' 1 w w' ∧ Two Tb w0 w' χ' B R (setT k x L) M :=
  (hT.set k x h.tb hk hx hl).mono fun e w' ⟨y1, χ', y2, y3⟩ => ⟨y1, χ', y2, h.fr.next y2 (by decide), y3, h.rt.other y2 (by decide), h.good⟩
theorem two_drop (k : Int) (hk : Inte k) (h : Two Tb w0 w χ B R L M) (hl : L.length ≤ 1000) : Calls Tryd.prog 17 #[.pointer (some ⟨B, 0, none⟩), eI k] w fun e w' => e = .returned (eI (askE k L)) ∧ ∃ χ', Col χ χ' 1 w w' ∧ Two Tb w0 w' χ' B R (dropT k L) M :=
  (hT.drop k h.tb hk hl).mono fun e w' ⟨y1, χ', y2, y3⟩ => ⟨y1, χ', y2, h.fr.next y2 (by decide), y3, h.rt.other y2 (by decide), h.good⟩
theorem two_rput (k x : Int) (hx : Wd x) (h : Two Tb w0 w χ B R L M) (hl : M.length ≤ 1000) : Calls Tryd.prog 19 #[.pointer (some ⟨R, 0, none⟩), eI k, eU x] w fun e w' => e = .returned (eI (putE k M)) ∧ ∃ χ', Col χ χ' 2 w w' ∧ Two Tb w0 w' χ' B R L (putI k x M) :=
  (rtc_put k x h.rt h.good (by omega)).mono fun e w' ⟨y1, χ', y2, y3⟩ => ⟨y1, χ', y2, h.fr.next y2 (by decide), hT.other h.tb y2 (by decide) (by decide), y3, h.good.put hx⟩
theorem two_rset (k x : Int) (hx : Wd x) (h : Two Tb w0 w χ B R L M) (hl : M.length ≤ 1000) : Calls Tryd.prog 20 #[.pointer (some ⟨R, 0, none⟩), eI k, eU x] w fun e w' => e = .returned (eI (askE k M)) ∧ ∃ χ', Col χ χ' 2 w w' ∧ Two Tb w0 w' χ' B R L (setT k x M) :=
  (rtc_set k x h.rt h.good (by omega)).mono fun e w' ⟨y1, χ', y2, y3⟩ => ⟨y1, χ', y2, h.fr.next y2 (by decide), hT.other h.tb y2 (by decide) (by decide), y3, h.good.set hx⟩
theorem two_rdrop (k : Int) (h : Two Tb w0 w χ B R L M) (hl : M.length ≤ 1000) : Calls Tryd.prog 21 #[.pointer (some ⟨R, 0, none⟩), eI k] w fun e w' => e = .returned (eI (askE k M)) ∧ ∃ χ', Col χ χ' 2 w w' ∧ Two Tb w0 w' χ' B R L (dropT k M) :=
  (rtc_drop k h.rt h.good (by omega)).mono fun e w' ⟨y1, χ', y2, y3⟩ => ⟨y1, χ', y2, h.fr.next y2 (by decide), hT.other h.tb y2 (by decide) (by decide), y3, h.good.drop⟩
theorem two_same (ask : Int) (ha : Inte ask) (h : Two Tb w0 w χ B R L L) (hl : L.length ≤ 1000) : Calls Tryd.prog 12 #[.pointer (some ⟨B, 0, none⟩), .pointer (some ⟨R, 0, none⟩), eI ask] w fun e w' => e = .returned (.bool true) ∧ Below w.heap.size w w' := by
  obtain ⟨v, h1, _⟩ := h.rt
  exact same_any _ R L v ask w (hT.tells h.tb hl) h1 (by omega) ha
end
end Go.Proofs.YtenghpgnhmglpaaDoor
