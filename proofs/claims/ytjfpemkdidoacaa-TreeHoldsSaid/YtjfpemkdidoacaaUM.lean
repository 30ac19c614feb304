/- What put and dropped items make of a tree, in plain words: its items, its colours, its height, its summaries. No condition but that keys rise. -/
import Derived.Test.YtjfpemkdidoacaaTX
import Derived.Test.YtjfpemkdidoacaaUB
namespace Go.Proofs.Ytjfpemkdidoacaa
open Go.RowKit Go.Shelf
set_option linter.unusedVariables false
namespace Tr
theorem tint_items (c : Bool) (t : Tr) : (t.tint c).items = t.items := by cases t <;> rfl
theorem m3_items (m : It) (c : Bool) (a b : Tr) : (m3 m c a b).items = a.items ++ m :: b.items := by
  unfold m3
  split
  · simp [items, tint_items]
  · rfl
theorem m2_items (m : It) (c : Bool) (a b : Tr) : (m2 m c a b).items = a.items ++ m :: b.items := by
  unfold m2
  split
  · rw [m3_items]; simp [items]
  · rw [m3_items]
theorem mend_items (m : It) (c : Bool) (a b : Tr) : (mend m c a b).items = a.items ++ m :: b.items := by
  induction b generalizing m c with
  | nil => exact m2_items ..
  | nd mb rb x y ihx _ =>
    cases rb with
    | false => exact m2_items ..
    | true =>
      show (if a.isRed then _ else _ : Tr).items = _
      split
      · rw [m2_items]
      · rw [m2_items, ihx]; simp [items]
theorem evn_items (r : Bool) (p : Tr) : (evn r p).1.items = p.items := by
  unfold evn
  split
  · rfl
  · exact tint_items ..
theorem shl_items (m : It) (r : Bool) (a b : Tr) : (shl m r a b).1.items = a.items ++ m :: b.items := by
  unfold shl
  rw [evn_items, mend_items, tint_items]
theorem shr_items (m : It) (r : Bool) (b a : Tr) : (shr m r b a).1.items = a.items ++ m :: b.items := by
  induction a generalizing m r with
  | nil => show (evn _ _).1.items = _; rw [evn_items, mend_items, tint_items]
  | nd ml rl x y _ ihy =>
    cases rl with
    | false => show (evn _ _).1.items = _; rw [evn_items, mend_items, tint_items]
    | true =>
      show (mend ml false x (shr m true b y).1).items = _
      rw [mend_items, ihy]; simp [items]
theorem put_items {x : It} : ∀ {t : Tr}, Rise t.items → (∀ a ∈ t.items, a.1 ≠ x.1) → (put x t).items = ins x t.items
  | nil, _, _ => rfl
  | nd m r a b, h, hx => by
    obtain ⟨ha, hb, hl, hh⟩ := rise_node.1 h
    by_cases hk : kLt x.1 m.1
    · show (if _ then _ else _ : Tr).items = _
      rw [if_pos hk, mend_items, put_items ha fun z hz => hx z (by simp [items, hz])]
      exact (ins_left hk).symm
    · have hk2 : kLt m.1 x.1 := by
        rcases kLt_tri x.1 m.1 with g | g | g
        · exact absurd g hk
        · exact absurd g.symm (hx m (by simp [items]))
        · exact g
      show (if _ then _ else _ : Tr).items = _
      rw [if_neg hk, mend_items, put_items hb fun z hz => hx z (by simp [items, hz])]
      exact (ins_right hk2 hl).symm
theorem fst_items' {t : Tr} {x : It} (h : t.fst = some x) : ∃ L, t.items = x :: L := by
  have := Tr.fst_items t
  rw [h] at this
  cases hL : t.items with
  | nil => rw [hL] at this; cases this
  | cons y L => rw [hL] at this; cases this; exact ⟨L, rfl⟩
theorem rem_items {k : Ky} : ∀ {t : Tr}, Rise t.items → t.may k → (rem k t).1.items = del k t.items := by
  intro t
  induction t generalizing k with
  | nil => exact fun _ h => h.elim
  | nd m r a b iha ihb =>
    intro h hm
    obtain ⟨ha, hb, hl, hh⟩ := rise_node.1 h
    by_cases hlt : kLt k m.1
    · have hma : a.may k := by simpa only [may, if_pos hlt] using hm
      have e : (rem k (nd m r a b)) = if (a.rem k).2 then shl m r (a.rem k).1 b else (nd m r (a.rem k).1 b, false) := if_pos hlt
      rw [e]
      show _ = del k (a.items ++ m :: b.items)
      rw [del_left hlt hh, ← iha ha hma]
      split
      · exact shl_items ..
      · rfl
    · by_cases hk : k = m.1
      · cases hf : b.fst with
        | none =>
          obtain rfl := fst_none hf
          have e : (rem k (nd m r a nil)) = (a.tint false, !r && a.isNil) := by simp only [rem, if_neg hlt, if_pos hk, hf]
          rw [e]
          show (a.tint false).items = del k (a.items ++ m :: [])
          rw [tint_items, hk, del_here hl (fun z hz => by cases hz)]
          simp
        | some x =>
          have hmb : b.may x.1 := by simpa only [may, if_neg hlt, if_pos hk, hf] using hm
          have e : (rem k (nd m r a b)) = if (b.rem x.1).2 then shr x r (b.rem x.1).1 a else (nd x r a (b.rem x.1).1, false) := by simp only [rem, if_neg hlt, if_pos hk, hf]
          have eb := ihb hb hmb
          obtain ⟨L, hL⟩ := fst_items' hf
          have hx : Hi x.1 L := by
            have : Rise ([] ++ x :: L) := by rw [hL] at hb; exact hb
            exact (rise_node.1 this).2.2.2
          have ed : del x.1 (x :: L) = L := del_here (A := []) (fun z hz => by cases hz) hx
          rw [hL, ed] at eb
          rw [e]
          show _ = del k (a.items ++ m :: b.items)
          rw [hk, del_here hl hh, hL]
          split
          · rw [shr_items, eb]
          · show a.items ++ x :: _ = _
            rw [eb]
      · have hk2 : kLt m.1 k := by
          rcases kLt_tri k m.1 with g | g | g
          · exact absurd g hlt
          · exact absurd g hk
          · exact g
        have hmb : b.may k := by simpa only [may, if_neg hlt, if_neg hk] using hm
        have e : (rem k (nd m r a b)) = if (b.rem k).2 then shr m r (b.rem k).1 a else (nd m r a (b.rem k).1, false) := by simp only [rem, if_neg hlt, if_neg hk]
        rw [e]
        show _ = del k (a.items ++ m :: b.items)
        rw [del_right hk2 hl, ← ihb hb hmb]
        split
        · exact shr_items ..
        · rfl
theorem get_spec {k : Ky} {v : Int} : ∀ {t : Tr}, Rise t.items → (t.get k = some v ↔ (k, v) ∈ t.items)
  | nil, _ => by simp [get, items]
  | nd m r a b, h => by
    obtain ⟨ha, hb, hl, hh⟩ := rise_node.1 h
    by_cases hk : k = m.1
    · have e : (nd m r a b).get k = some m.2 := if_pos hk
      rw [e]
      simp only [items, List.mem_append, List.mem_cons, Option.some.injEq]
      constructor
      · rintro rfl; exact .inr (.inl (by rw [hk]))
      · rintro (g | g | g)
        · exact absurd hk (kLt_ne (hl _ g))
        · rw [← g]
        · exact absurd hk.symm (kLt_ne (hh _ g))
    · by_cases hlt : kLt k m.1
      · have e : (nd m r a b).get k = a.get k := by simp only [get, if_neg hk, if_pos hlt]
        rw [e, get_spec ha]
        simp only [items, List.mem_append, List.mem_cons]
        constructor
        · exact .inl
        · rintro (g | g | g)
          · exact g
          · exact absurd (by rw [← g]) hk
          · exact absurd hlt (kLt_asym (hh _ g))
      · have e : (nd m r a b).get k = b.get k := by simp only [get, if_neg hk, if_neg hlt]
        rw [e, get_spec hb]
        simp only [items, List.mem_append, List.mem_cons]
        constructor
        · exact fun g => .inr (.inr g)
        · rintro (g | g | g)
          · exact absurd (hl _ g) hlt
          · exact absurd (by rw [← g]) hk
          · exact g
end Tr
end Go.Proofs.Ytjfpemkdidoacaa
