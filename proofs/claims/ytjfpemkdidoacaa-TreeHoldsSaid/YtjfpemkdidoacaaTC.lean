/- What the tree's calls answer that make one node: tinted, total, over. No condition. -/
import Derived.Test.YtjfpemkdidoacaaTB
namespace Go.Proofs.Ytjfpemkdidoacaa
open Go.RowKit Go.Shelf
set_option linter.unusedVariables false
abbrev NodC (w : World) (B : Nat) (m : It) (r : Bool) (pl pr : Pt) (s : Int) : Prop :=
  w.cell? ⟨B, 0, none⟩ = some (.int .u64 m.1.1) ∧ w.cell? ⟨B, 1, none⟩ = some (.int .i64 m.1.2) ∧ w.cell? ⟨B, 2, none⟩ = some (.int .u64 m.2) ∧ w.cell? ⟨B, 3, none⟩ = some (.bool r) ∧ w.cell? ⟨B, 4, none⟩ = some (.pointer pl) ∧ w.cell? ⟨B, 5, none⟩ = some (.pointer pr) ∧ w.cell? ⟨B, 6, none⟩ = some (.int .u64 s)
theorem nodC {w : World} {B : Nat} {m : It} {r : Bool} {pl pr : Pt} {s : Int} (h : Box w B (node m r pl pr s) 80) : NodC w B m r pl pr s :=
  ⟨h.cell 0, h.cell 1, h.cell 2, h.cell 3, h.cell 4, h.cell 5, h.cell 6⟩
theorem tinted_nil (c : Bool) (w : World) : Calls Try.prog 60 #[.pointer none, .bool c] w fun e w' => e = .returned (.pointer none) ∧ w = w' := by
  go_enter Try.func60, Try.ntmps60
  go_wp2
  go_ret
  exact ⟨rfl, rfl⟩
theorem tinted_box (B : Nat) (m : It) (r : Bool) (pl pr : Pt) (s : Int) (c : Bool) (w : World) (h : Box w B (node m r pl pr s) 80) :
    Calls Try.prog 60 #[.pointer (some ⟨B, 0, none⟩), .bool c] w fun e w' => ∃ B' : Nat, e = .returned (.pointer (some ⟨B', 0, none⟩)) ∧ Box w' B' (node m c pl pr s) 80 ∧ Below w.heap.size w w' := by
  obtain ⟨c0, c1, c2, c3, c4, c5, c6⟩ := nodC h
  by_cases hc : r = c
  · subst hc
    have hr : (r == r) = true := by simp
    go_enter Try.func60, Try.ntmps60
    go_wp2
    go_ret
    exact ⟨B, rfl, h, Below.refl _ _⟩
  · have hr : (r == c) = false := by simpa using hc
    go_enter Try.func60, Try.ntmps60
    go_wp2
    go_ret
    exact ⟨_, rfl, Box.new _ _ _, up1 _ _⟩
theorem tinted_tre (p : Pt) (t : Tr) (c : Bool) (w : World) (h : Tre w p t) : Calls Try.prog 60 #[.pointer p, .bool c] w fun e w' => ∃ p' : Pt, e = .returned (.pointer p') ∧ Tre w' p' (t.tint c) ∧ Below w.heap.size w w' := by
  cases t with
  | nil =>
    obtain rfl : p = none := h
    exact (tinted_nil c w).mono fun e w' ⟨h1, h2⟩ => ⟨none, h1, rfl, h2 ▸ Below.refl _ _⟩
  | nd m r a b =>
    obtain ⟨B, pl, pr, rfl, hB, hw, hl, hr⟩ := h.open
    exact (tinted_box B m r pl pr _ c w hB).mono fun e w' ⟨B', h1, h2, h3⟩ => ⟨_, h1, Tre.nd (m := m) (r := c) (a := a) (b := b) h2 hw (hl.below h3) (hr.below h3), h3⟩
/-- The tree's own block: its two functions, its beginning, how many there are. -/
abbrev tree (p : Pt) (n : Int) : Array Value := #[.func (.func 33) #[] #[], .func (.func 32) #[] #[], .pointer p, eI n]
abbrev TrC (w : World) (B : Nat) (p : Pt) (n : Int) : Prop :=
  w.cell? ⟨B, 0, none⟩ = some (.func (.func 33) #[] #[]) ∧ w.cell? ⟨B, 1, none⟩ = some (.func (.func 32) #[] #[]) ∧ w.cell? ⟨B, 2, none⟩ = some (.pointer p) ∧ w.cell? ⟨B, 3, none⟩ = some (.int .i64 n)
theorem trC {w : World} {B : Nat} {p : Pt} {n : Int} (h : Box w B (tree p n) 57) : TrC w B p n := ⟨h.cell 0, h.cell 1, h.cell 2, h.cell 3⟩
/-- A node's item lies there, whatever stands below it. -/
def Nod (w : World) (q : Pt) (m : It) (r : Bool) : Prop := ∃ (B : Nat) (pl pr : Pt) (s : Int), q = some ⟨B, 0, none⟩ ∧ Box w B (node m r pl pr s) 80 ∧ (Word m.1.1 ∧ Inte m.1.2 ∧ Word m.2)
theorem Nod.below {W w : World} {q : Pt} {m : It} {r : Bool} (h : Nod W q m r) (hb : Below W.heap.size W w) : Nod w q m r := by
  obtain ⟨B, pl, pr, s, e, h1, h2⟩ := h
  exact ⟨B, pl, pr, s, e, h1.below hb, h2⟩
theorem Tre.nod {w : World} {p : Pt} {m : It} {r : Bool} {a b : Tr} (h : Tre w p (.nd m r a b)) : Nod w p m r := by
  obtain ⟨B, pl, pr, e, hB, hw, _, _⟩ := h.open
  exact ⟨B, pl, pr, _, e, hB, hw⟩
theorem total_nn (Bt : Nat) (tp : Pt) (tn : Int) (q : Pt) (m : It) (r : Bool) (w : World) (ht : Box w Bt (tree tp tn) 57) (hq : Nod w q m r) :
    Calls Try.prog 66 #[.pointer (some ⟨Bt, 0, none⟩), .pointer q, .pointer none, .pointer none] w fun e w' => e = .returned (eU m.2) ∧ Below w.heap.size w w' := by
  obtain ⟨B, pl, pr, s, rfl, hB, _⟩ := hq
  go_enter Try.func66, Try.ntmps66
  go_upto_region 1 with (fail)
  obtain ⟨t0, t1, t2, t3⟩ := trC ht
  obtain ⟨c0, c1, c2, c3, c4, c5, c6⟩ := nodC hB
  go_region_held3 (fun w' => w'.cell? ⟨Bt, 0, none⟩ = some (.func (.func 33) #[] #[]) ∧ w'.cell? ⟨B, 0, none⟩ = some (.int .u64 m.1.1) ∧ w'.cell? ⟨B, 1, none⟩ = some (.int .i64 m.1.2) ∧ w'.cell? ⟨B, 2, none⟩ = some (.int .u64 m.2))
    (first | exact ⟨t0, c0, c1, c2⟩ | exact ⟨(trC (ht.below hb1)).1, (nodC (hB.below hb1)).1, (nodC (hB.below hb1)).2.1, (nodC (hB.below hb1)).2.2.1⟩)
    (first
      | (go_at_call 33; (with_reducible refine (value_any m.1 m.2 _).mono ?_); rintro e w1 ⟨rfl, hb1⟩; (first | replace hb1 := undrew hb1 | replace hb1 := undrewN hb1 | skip)))
  all_goals go_wp2
  all_goals go_ret
  all_goals exact ⟨rfl, hb1⟩
end Go.Proofs.Ytjfpemkdidoacaa
