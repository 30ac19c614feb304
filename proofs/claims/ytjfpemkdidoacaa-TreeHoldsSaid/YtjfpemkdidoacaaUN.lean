/- A tree that leans stays so, whatever is put in and dropped; how high it is; its summaries are its items'. In plain words. No condition but that keys rise. -/
import Derived.Test.YtjfpemkdidoacaaUM
namespace Go.Proofs.Ytjfpemkdidoacaa
open Go.RowKit Go.Shelf
set_option linter.unusedVariables false
namespace Tr
theorem LL.red {h : Nat} {m : It} {a b : Tr} (H : LL h (nd m true a b)) : LL h a ∧ LL h b ∧ b.isRed = false ∧ a.isRed = false := by
  obtain ⟨g, e, h1, h2, h3, h4⟩ := H
  obtain rfl : h = g := by simpa using e
  exact ⟨h1, h2, h3, h4 rfl⟩
theorem LL.black {h : Nat} {m : It} {a b : Tr} (H : LL h (nd m false a b)) : ∃ g, h = g + 1 ∧ LL g a ∧ LL g b ∧ b.isRed = false := by
  obtain ⟨g, e, h1, h2, h3, h4⟩ := H
  exact ⟨g, by simpa using e, h1, h2, h3⟩
theorem LL.mkRed {h : Nat} {m : It} {a b : Tr} (h1 : LL h a) (h2 : LL h b) (h3 : b.isRed = false) (h4 : a.isRed = false) : LL h (nd m true a b) := ⟨h, by simp, h1, h2, h3, fun _ => h4⟩
theorem LL.mkBlack {h : Nat} {m : It} {a b : Tr} (h1 : LL h a) (h2 : LL h b) (h3 : b.isRed = false) : LL (h + 1) (nd m false a b) := ⟨h, by simp, h1, h2, h3, fun e => by cases e⟩
theorem isRed_ex {t : Tr} (h : t.isRed = true) : ∃ m a b, t = nd m true a b := by
  cases t with
  | nil => cases h
  | nd m r a b => obtain rfl : r = true := h; exact ⟨m, a, b, rfl⟩
theorem black_ex {t : Tr} {g : Nat} (h : t.isRed = false) (H : LL (g + 1) t) : ∃ m a b, t = nd m false a b := by
  cases t with
  | nil => cases H
  | nd m r a b => obtain rfl : r = false := h; exact ⟨m, a, b, rfl⟩
theorem LL.lft {h : Nat} {t : Tr} (H : LL h t) : (t.isRed && t.lft.isRed) = false := by
  cases t with
  | nil => rfl
  | nd m r a b =>
    cases r with
    | false => rfl
    | true => show (true && a.isRed) = false; rw [H.red.2.2.2]; rfl
theorem mend_b {m : It} {c : Bool} {a b : Tr} (h : b.isRed = false) : mend m c a b = m2 m c a b := mend_no (by simp [h])
theorem m2_l {m : It} {c : Bool} {a b : Tr} {h : Nat} (H : LL h a) : m2 m c a b = m3 m c a b := m2_no H.lft
theorem m3_b {m : It} {c : Bool} {a b : Tr} (h : b.isRed = false) : m3 m c a b = nd m c a b := m3_no (by simp [h])
theorem m2_bb {m : It} {c : Bool} {a b : Tr} (h : a.isRed = false) : m2 m c a b = m3 m c a b := m2_no (by simp [h])
/-- A node, two black ones below, no work. -/
theorem mend_bb {m : It} {c : Bool} {a b : Tr} (ha : a.isRed = false) (hb : b.isRed = false) : mend m c a b = nd m c a b := by rw [mend_b hb, m2_bb ha, m3_b hb]
/-- A red one at the right goes above. -/
theorem mend_rr {m mb : It} {c : Bool} {a x y : Tr} (ha : a.isRed = false) (hx : x.isRed = false) (hy : y.isRed = false) : mend m c a (nd mb true x y) = nd mb c (nd m true a x) y := by
  rw [mend_red ha, mend_bb ha hx, m2_no (by show (true && a.isRed) = false; rw [ha]; rfl), m3_b hy]
/-- A red one with a red one left of it. -/
def Al (h : Nat) (t : Tr) : Prop := ∃ m a b, t = nd m true a b ∧ a.isRed = true ∧ b.isRed = false ∧ LL h a ∧ LL h b
theorem put_LL (x : It) : ∀ {t : Tr} {h : Nat}, LL h t → (t.isRed = false → LL h (put x t)) ∧ (t.isRed = true → LL h (put x t) ∨ Al h (put x t))
  | nil, h, H => by
    obtain rfl : h = 0 := H
    exact ⟨fun _ => LL.mkRed rfl rfl rfl rfl, fun e => by cases e⟩
  | nd m r a b, h, H => by
    by_cases hk : kLt x.1 m.1
    · have e : put x (nd m r a b) = mend m r (put x a) b := if_pos hk
      rw [e]
      cases r with
      | true =>
        obtain ⟨h1, h2, h3, h4⟩ := H.red
        have hp := (put_LL x h1).1 h4
        refine ⟨fun e => (by cases e), fun _ => ?_⟩
        rw [mend_b h3, m2_l hp, m3_b h3]
        cases hr : (put x a).isRed with
        | false => exact .inl (LL.mkRed hp h2 h3 hr)
        | true => exact .inr ⟨m, _, _, rfl, hr, h3, hp, h2⟩
      | false =>
        obtain ⟨g, rfl, h1, h2, h3⟩ := H.black
        refine ⟨fun _ => ?_, fun e => by cases e⟩
        have hh : LL g (put x a) ∨ Al g (put x a) := by
          cases hr : a.isRed with
          | false => exact .inl ((put_LL x h1).1 hr)
          | true => exact (put_LL x h1).2 hr
        rw [mend_b h3]
        rcases hh with hp | ⟨ma, p, z, ep, hr, hz, hlp, hlz⟩
        · rw [m2_l hp, m3_b h3]; exact LL.mkBlack hp h2 h3
        · obtain ⟨mb, u, v, rfl⟩ := isRed_ex hr
          obtain ⟨k1, k2, k3, k4⟩ := hlp.red
          rw [ep]
          show LL (g + 1) (m3 ma false (nd mb true u v) (nd m true z b))
          rw [m3_yes rfl]
          exact LL.mkRed (LL.mkBlack k1 k2 k3) (LL.mkBlack hlz h2 h3) rfl rfl
    · have e : put x (nd m r a b) = mend m r a (put x b) := if_neg hk
      rw [e]
      cases r with
      | true =>
        obtain ⟨h1, h2, h3, h4⟩ := H.red
        have hp := (put_LL x h2).1 h3
        refine ⟨fun e => (by cases e), fun _ => ?_⟩
        cases hr : (put x b).isRed with
        | false => rw [mend_bb h4 hr]; exact .inl (LL.mkRed h1 hp hr h4)
        | true =>
          obtain ⟨mb, u, v, eb⟩ := isRed_ex hr
          rw [eb] at hp ⊢
          obtain ⟨k1, k2, k3, k4⟩ := hp.red
          rw [mend_rr h4 k4 k3]
          exact .inr ⟨mb, _, _, rfl, rfl, k3, LL.mkRed h1 k1 k4 h4, k2⟩
      | false =>
        obtain ⟨g, rfl, h1, h2, h3⟩ := H.black
        have hp := (put_LL x h2).1 h3
        refine ⟨fun _ => ?_, fun e => by cases e⟩
        cases hr : (put x b).isRed with
        | false => rw [mend_b hr, m2_l h1, m3_b hr]; exact LL.mkBlack h1 hp hr
        | true =>
          obtain ⟨mb, u, v, eb⟩ := isRed_ex hr
          rw [eb] at hp ⊢
          obtain ⟨k1, k2, k3, k4⟩ := hp.red
          cases ha : a.isRed with
          | false => rw [mend_rr ha k4 k3]; exact LL.mkBlack (LL.mkRed h1 k1 k4 ha) k2 k3
          | true =>
            obtain ⟨ma, p, q, rfl⟩ := isRed_ex ha
            obtain ⟨j1, j2, j3, j4⟩ := h1.red
            rw [mend_no (by simp [isRed]), m2_l h1, m3_yes rfl]
            exact LL.mkRed (LL.mkBlack j1 j2 j3) (LL.mkBlack k1 k2 k3) rfl rfl
/-- What a part is that came in place of one, short or not. -/
def Rem (h : Nat) (red : Bool) (R : Tr × Bool) : Prop :=
  (R.2 = false → LL h R.1 ∧ (red = false → R.1.isRed = false)) ∧ (R.2 = true → ∃ g, h = g + 1 ∧ LL g R.1 ∧ R.1.isRed = false ∧ red = false)
theorem evn_black {g : Nat} {r : Bool} {P : Tr} (H : LL (g + 1) P) (hP : P.isRed = false) : Rem (if r then g + 1 else g + 2) r (evn r P) := by
  obtain ⟨m, a, b, rfl⟩ := black_ex hP H
  cases r with
  | true => exact ⟨fun _ => ⟨H, fun e => by cases e⟩, fun e => by cases e⟩
  | false => exact ⟨fun e => (by cases e), fun _ => ⟨g + 1, rfl, H, rfl, rfl⟩⟩
theorem evn_red {g : Nat} {r : Bool} {m : It} {a b : Tr} (H : LL (g + 1) (nd m true a b)) : Rem (if r then g + 1 else g + 2) r (evn r (nd m true a b)) := by
  obtain ⟨k1, k2, k3, k4⟩ := H.red
  cases r with
  | true => exact ⟨fun _ => ⟨H, fun e => by cases e⟩, fun e => by cases e⟩
  | false => exact ⟨fun _ => ⟨LL.mkBlack k1 k2 k3, fun _ => rfl⟩, fun e => by cases e⟩
theorem shl_LL {g : Nat} {m : It} {r : Bool} {A b : Tr} (hA : LL g A) (hA2 : A.isRed = false) (hb : LL (g + 1) b) (hb2 : b.isRed = false) : Rem (if r then g + 1 else g + 2) r (shl m r A b) := by
  obtain ⟨mb, x, y, rfl⟩ := black_ex hb2 hb
  obtain ⟨g', e, hx, hy, hy2⟩ := hb.black
  obtain rfl : g = g' := by omega
  unfold shl
  show Rem _ _ (evn r (mend m false A (nd mb true x y)))
  cases hxr : x.isRed with
  | false =>
    rw [mend_rr hA2 hxr hy2]
    exact evn_black (LL.mkBlack (LL.mkRed hA hx hxr hA2) hy hy2) rfl
  | true =>
    obtain ⟨mx, p, q, rfl⟩ := isRed_ex hxr
    obtain ⟨k1, k2, k3, k4⟩ := hx.red
    rw [mend_red hA2, mend_rr hA2 k4 k3]
    show Rem _ _ (evn r (m3 mx false (nd m true A p) (nd mb true q y)))
    rw [m3_yes rfl]
    exact evn_red (LL.mkRed (LL.mkBlack hA k1 k4) (LL.mkBlack k2 hy hy2) rfl rfl)
theorem shr_LL {g : Nat} {m : It} {r : Bool} {B a : Tr} (hB : LL g B) (hB2 : B.isRed = false) (ha : LL (g + 1) a) (ha2 : a.isRed = false) : Rem (if r then g + 1 else g + 2) r (shr m r B a) := by
  rw [shr_no ha2]
  obtain ⟨ma, x, y, rfl⟩ := black_ex ha2 ha
  obtain ⟨g', e, hx, hy, hy2⟩ := ha.black
  obtain rfl : g = g' := by omega
  show Rem _ _ (evn r (mend m false (nd ma true x y) B))
  rw [mend_b hB2]
  cases hxr : x.isRed with
  | false =>
    rw [m2_no (by show (true && x.isRed) = false; rw [hxr]; rfl), m3_b hB2]
    exact evn_black (LL.mkBlack (LL.mkRed hx hy hy2 hxr) hB hB2) rfl
  | true =>
    obtain ⟨mx, p, q, rfl⟩ := isRed_ex hxr
    obtain ⟨k1, k2, k3, k4⟩ := hx.red
    show Rem _ _ (evn r (m3 ma false (nd mx true p q) (nd m true y B)))
    rw [m3_yes rfl]
    exact evn_red (LL.mkRed (LL.mkBlack k1 k2 k3) (LL.mkBlack hy hB hB2) rfl rfl)
theorem shr_LL2 {g : Nat} {m : It} {B a : Tr} (hB : LL g B) (hB2 : B.isRed = false) (ha : LL (g + 1) a) (ha2 : a.isRed = true) : Rem (g + 2) false (shr m false B a) := by
  obtain ⟨ml, x, y, rfl⟩ := isRed_ex ha2
  obtain ⟨hx, hy, hy2, hx2⟩ := ha.red
  show Rem _ _ (mend ml false x (shr m true B y).1, false)
  have hR : LL (g + 1) (shr m true B y).1 := by
    have h := shr_LL (m := m) (r := true) hB hB2 hy hy2
    cases hs : (shr m true B y).2 with
    | false => exact (h.1 hs).1
    | true => obtain ⟨_, _, _, _, e⟩ := h.2 hs; cases e
  refine ⟨fun _ => ?_, fun e => by cases e⟩
  dsimp only
  generalize (shr m true B y).1 = R at hR
  cases hr : R.isRed with
  | false => rw [mend_bb hx2 hr]; exact ⟨LL.mkBlack hx hR hr, fun _ => rfl⟩
  | true =>
    obtain ⟨mr, u, v, rfl⟩ := isRed_ex hr
    obtain ⟨k1, k2, k3, k4⟩ := hR.red
    rw [mend_rr hx2 k4 k3]
    exact ⟨LL.mkBlack (LL.mkRed hx k1 k4 hx2) k2 k3, fun _ => rfl⟩
/-- A part is dropped from at the right. -/
theorem right_LL {g : Nat} {m : It} {r : Bool} {a b : Tr} {R : Tr × Bool} (ha : LL g a) (hra : r = true → a.isRed = false) (hR : Rem g false R) :
    Rem (if r then g else g + 1) r (if R.2 then shr m r R.1 a else (nd m r a R.1, false)) := by
  cases hs : R.2 with
  | false =>
    obtain ⟨h1, h2⟩ := hR.1 hs
    refine ⟨fun _ => ?_, fun e => by cases e⟩
    cases r with
    | true => exact ⟨LL.mkRed ha h1 (h2 rfl) (hra rfl), fun e => by cases e⟩
    | false => exact ⟨LL.mkBlack ha h1 (h2 rfl), fun _ => rfl⟩
  | true =>
    obtain ⟨g', rfl, h1, h2, _⟩ := hR.2 hs
    show Rem _ _ (shr m r R.1 a)
    cases har : a.isRed with
    | false => exact shr_LL h1 h2 ha har
    | true =>
      cases r with
      | true => exact absurd (hra rfl) (by simp [har])
      | false => exact shr_LL2 h1 h2 ha har
theorem left_LL {g : Nat} {m : It} {r : Bool} {a b : Tr} {R : Tr × Bool} (hb : LL g b) (hb2 : b.isRed = false) (har : r = true → a.isRed = false) (hR : Rem g a.isRed R) :
    Rem (if r then g else g + 1) r (if R.2 then shl m r R.1 b else (nd m r R.1 b, false)) := by
  cases hs : R.2 with
  | false =>
    obtain ⟨h1, h2⟩ := hR.1 hs
    refine ⟨fun _ => ?_, fun e => by cases e⟩
    cases r with
    | true => exact ⟨LL.mkRed h1 hb hb2 (h2 (har rfl)), fun e => by cases e⟩
    | false => exact ⟨LL.mkBlack h1 hb hb2, fun _ => rfl⟩
  | true =>
    obtain ⟨g', rfl, h1, h2, _⟩ := hR.2 hs
    exact shl_LL h1 h2 hb hb2
theorem rem_LL {k : Ky} : ∀ {t : Tr} {h : Nat}, LL h t → t.may k → Rem h t.isRed (rem k t) := by
  intro t
  induction t generalizing k with
  | nil => exact fun _ h => h.elim
  | nd m r a b iha ihb =>
    intro h H hm
    obtain ⟨g, rfl, h1, h2, h3, h4⟩ := H
    by_cases hlt : kLt k m.1
    · have hma : a.may k := by simpa only [may, if_pos hlt] using hm
      have e : (rem k (nd m r a b)) = if (a.rem k).2 then shl m r (a.rem k).1 b else (nd m r (a.rem k).1 b, false) := if_pos hlt
      rw [e]
      exact left_LL h2 h3 h4 (iha h1 hma)
    · by_cases hk : k = m.1
      · cases hf : b.fst with
        | none =>
          obtain rfl := fst_none hf
          have e : (rem k (nd m r a nil)) = (a.tint false, !r && a.isNil) := by simp only [rem, if_neg hlt, if_pos hk, hf]
          rw [e]
          obtain rfl : g = 0 := h2
          cases a with
          | nil => cases r with
            | true => exact ⟨fun _ => ⟨rfl, fun _ => rfl⟩, fun e => by cases e⟩
            | false => exact ⟨fun e => (by cases e), fun _ => ⟨0, rfl, rfl, rfl, rfl⟩⟩
          | nd ma ra x y =>
            cases ra with
            | false => obtain ⟨_, e, _⟩ := h1.black; omega
            | true =>
              obtain ⟨k1, k2, k3, k4⟩ := h1.red
              cases r with
              | true => exact absurd (h4 rfl) (by simp [isRed])
              | false => exact ⟨fun _ => ⟨LL.mkBlack k1 k2 k3, fun _ => rfl⟩, fun e => by cases e⟩
        | some x =>
          have hmb : b.may x.1 := by simpa only [may, if_neg hlt, if_pos hk, hf] using hm
          have e : (rem k (nd m r a b)) = if (b.rem x.1).2 then shr x r (b.rem x.1).1 a else (nd x r a (b.rem x.1).1, false) := by simp only [rem, if_neg hlt, if_pos hk, hf]
          rw [e]
          have := ihb h2 hmb
          rw [h3] at this
          exact right_LL (b := b) h1 h4 this
      · have hmb : b.may k := by simpa only [may, if_neg hlt, if_neg hk] using hm
        have e : (rem k (nd m r a b)) = if (b.rem k).2 then shr m r (b.rem k).1 a else (nd m r a (b.rem k).1, false) := by simp only [rem, if_neg hlt, if_neg hk]
        rw [e]
        have := ihb h2 hmb
        rw [h3] at this
        exact right_LL (b := b) h1 h4 this
/-- What is there may be dropped. -/
theorem may_of {k : Ky} : ∀ {t : Tr} {h : Nat}, LL h t → Rise t.items → (∃ v, (k, v) ∈ t.items) → t.may k := by
  intro t
  induction t generalizing k with
  | nil => rintro _ _ _ ⟨v, hv⟩; cases hv
  | nd m r a b iha ihb =>
    rintro h ⟨g, rfl, h1, h2, h3, h4⟩ hr ⟨v, hv⟩
    obtain ⟨ha, hb, hl, hh⟩ := rise_node.1 hr
    have hv : (k, v) ∈ a.items ∨ (k, v) = m ∨ (k, v) ∈ b.items := by simpa [items] using hv
    by_cases hlt : kLt k m.1
    · simp only [may, if_pos hlt]
      rcases hv with hv | hv | hv
      · exact iha h1 ha ⟨v, hv⟩
      · exact absurd (by rw [← hv]) (kLt_ne hlt)
      · exact absurd hlt (kLt_asym (hh _ hv))
    · by_cases hk : k = m.1
      · cases hf : b.fst with
        | none => simp only [may, if_neg hlt, if_pos hk, hf]; exact h4
        | some x =>
          simp only [may, if_neg hlt, if_pos hk, hf]
          obtain ⟨L, hL⟩ := fst_items' hf
          exact ihb h2 hb ⟨x.2, by rw [hL]; simp⟩
      · simp only [may, if_neg hlt, if_neg hk]
        rcases hv with hv | hv | hv
        · exact absurd (hl _ hv) hlt
        · exact absurd (by rw [← hv]) hk
        · exact ihb h2 hb ⟨v, hv⟩
/-- How high it is; how many there are. -/
theorem LL.high : ∀ {t : Tr} {h : Nat}, LL h t → t.hgt ≤ 2 * h + (if t.isRed then 1 else 0)
  | nil, h, H => by simp [hgt]
  | nd m r a b, h, H => by
    obtain ⟨g, rfl, h1, h2, h3, h4⟩ := H
    have i1 := LL.high h1
    have i2 := LL.high h2
    rw [h3] at i2
    cases r with
    | true =>
      rw [h4 rfl] at i1
      have e1 : a.hgt ≤ 2 * g := i1
      have e2 : b.hgt ≤ 2 * g := i2
      show 1 + max a.hgt b.hgt ≤ 2 * g + 1
      omega
    | false =>
      have e1 : (if a.isRed = true then 1 else 0 : Nat) ≤ 1 := by split <;> omega
      have e2 : b.hgt ≤ 2 * g := i2
      show 1 + max a.hgt b.hgt ≤ 2 * (g + 1) + 0
      omega
theorem LL.many : ∀ {t : Tr} {h : Nat}, LL h t → 2 ^ h ≤ t.items.length + 1
  | nil, h, H => by obtain rfl : h = 0 := H; simp [items]
  | nd m r a b, h, H => by
    obtain ⟨g, rfl, h1, h2, h3, h4⟩ := H
    have i1 := LL.many h1
    have i2 := LL.many h2
    simp only [items, List.length_append, List.length_cons]
    cases r with
    | true => simp; omega
    | false => simp; rw [Nat.pow_succ]; omega
end Tr
end Go.Proofs.Ytjfpemkdidoacaa
