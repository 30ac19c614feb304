/- What the tree's calls answer that make one node: total, over. No condition. -/
import Derived.Test.YtjfpemkdidoacaaTC
namespace Go.Proofs.Ytjfpemkdidoacaa
open Go.RowKit Go.Shelf
set_option linter.unusedVariables false
/-- A cell of a block. -/
def Cel (w : World) (B i : Nat) (v : Value) : Prop := B < w.heap.size ∧ w.cell? ⟨B, i, none⟩ = some v
theorem Cel.below {W w : World} {B i : Nat} {v : Value} (h : Cel W B i v) (hb : Below W.heap.size W w) : Cel w B i v := ⟨Nat.lt_of_lt_of_le h.1 hb.size, (hb.cell (p := ⟨B, i, none⟩) h.1).trans h.2⟩
theorem Box.cel {w : World} {B : Nat} {vs : Array Value} {t : TypeId} (h : Box w B vs t) (i : Nat) {v : Value} (e : vs[i]? = some v) : Cel w B i v := ⟨h.lt, (h.cell i).trans e⟩
section
variable (Bt : Nat) (tp : Pt) (tn : Int) (q : Pt) (m : It) (r : Bool) (w : World)
theorem total_ln (Bl : Nat) (sl : Int) (ht : Box w Bt (tree tp tn) 57) (hq : Nod w q m r) (hl : Cel w Bl 6 (eU sl)) :
    Calls Try.prog 66 #[.pointer (some ⟨Bt, 0, none⟩), .pointer q, .pointer (some ⟨Bl, 0, none⟩), .pointer none] w fun e w' => e = .returned (eU (min sl m.2)) ∧ Below w.heap.size w w' := by
  obtain ⟨B, pl, pr, s, rfl, hB, _⟩ := hq
  go_enter Try.func66, Try.ntmps66
  go_upto_region 1 with (fail)
  obtain ⟨t0, t1, t2, t3⟩ := trC ht
  obtain ⟨c0, c1, c2, c3, c4, c5, c6⟩ := nodC hB
  go_region_held3 (fun w' => w'.cell? ⟨Bt, 0, none⟩ = some (.func (.func 33) #[] #[]) ∧ w'.cell? ⟨B, 0, none⟩ = some (.int .u64 m.1.1) ∧ w'.cell? ⟨B, 1, none⟩ = some (.int .i64 m.1.2) ∧ w'.cell? ⟨B, 2, none⟩ = some (.int .u64 m.2))
    (first | exact ⟨t0, c0, c1, c2⟩ | exact ⟨(trC (ht.below hb1)).1, (nodC (hB.below hb1)).1, (nodC (hB.below hb1)).2.1, (nodC (hB.below hb1)).2.2.1⟩)
    (first
      | (go_at_call 33; (with_reducible refine (value_any m.1 m.2 _).mono ?_); rintro e w1 ⟨rfl, hb1⟩; (first | replace hb1 := undrew hb1 | replace hb1 := undrewN hb1 | skip)))
  have ht1 := ht.below hb1
  have hl1 := hl.below hb1
  clear ht hl hB t0 t1 t2 t3 c0 c1 c2 c3 c4 c5 c6
  go_upto_region 3 with (fail)
  have t1 := (trC ht1).2.1
  have l6 := hl1.2
  go_region_held3 (fun w' => w'.cell? ⟨Bt, 1, none⟩ = some (.func (.func 32) #[] #[]) ∧ w'.cell? ⟨Bl, 6, none⟩ = some (.int .u64 sl))
    (first | exact ⟨t1, l6⟩ | exact ⟨(trC (ht1.below hb2)).2.1, (hl1.below hb2).2⟩)
    (first
      | (go_at_call 32; (with_reducible refine (least_any sl m.2 _).mono ?_); rintro e w2 ⟨rfl, hb2⟩; (first | replace hb2 := undrew hb2 | replace hb2 := undrewN hb2 | skip)))
  all_goals go_wp2
  all_goals go_ret
  all_goals exact ⟨rfl, upp hb1 hb2⟩
theorem total_nr (Br : Nat) (sr : Int) (ht : Box w Bt (tree tp tn) 57) (hq : Nod w q m r) (hr : Cel w Br 6 (eU sr)) :
    Calls Try.prog 66 #[.pointer (some ⟨Bt, 0, none⟩), .pointer q, .pointer none, .pointer (some ⟨Br, 0, none⟩)] w fun e w' => e = .returned (eU (min m.2 sr)) ∧ Below w.heap.size w w' := by
  obtain ⟨B, pl, pr, s, rfl, hB, _⟩ := hq
  go_enter Try.func66, Try.ntmps66
  go_upto_region 1 with (fail)
  obtain ⟨t0, t1, t2, t3⟩ := trC ht
  obtain ⟨c0, c1, c2, c3, c4, c5, c6⟩ := nodC hB
  go_region_held3 (fun w' => w'.cell? ⟨Bt, 0, none⟩ = some (.func (.func 33) #[] #[]) ∧ w'.cell? ⟨B, 0, none⟩ = some (.int .u64 m.1.1) ∧ w'.cell? ⟨B, 1, none⟩ = some (.int .i64 m.1.2) ∧ w'.cell? ⟨B, 2, none⟩ = some (.int .u64 m.2))
    (first | exact ⟨t0, c0, c1, c2⟩ | exact ⟨(trC (ht.below hb1)).1, (nodC (hB.below hb1)).1, (nodC (hB.below hb1)).2.1, (nodC (hB.below hb1)).2.2.1⟩)
    (first
      | (go_at_call 33; (with_reducible refine (value_any m.1 m.2 _).mono ?_); rintro e w1 ⟨rfl, hb1⟩; (first | replace hb1 := undrew hb1 | replace hb1 := undrewN hb1 | skip)))
  have ht1 := ht.below hb1
  have hr1 := hr.below hb1
  clear ht hr hB t0 t1 t2 t3 c0 c1 c2 c3 c4 c5 c6
  go_upto_region 5 with (fail)
  have t1 := (trC ht1).2.1
  have l6 := hr1.2
  go_region_held3 (fun w' => w'.cell? ⟨Bt, 1, none⟩ = some (.func (.func 32) #[] #[]) ∧ w'.cell? ⟨Br, 6, none⟩ = some (.int .u64 sr))
    (first | exact ⟨t1, l6⟩ | exact ⟨(trC (ht1.below hb2)).2.1, (hr1.below hb2).2⟩)
    (first
      | (go_at_call 32; (with_reducible refine (least_any m.2 sr _).mono ?_); rintro e w2 ⟨rfl, hb2⟩; (first | replace hb2 := undrew hb2 | replace hb2 := undrewN hb2 | skip)))
  all_goals go_wp2
  all_goals go_ret
  all_goals exact ⟨rfl, upp hb1 hb2⟩
theorem total_lr (Bl Br : Nat) (sl sr : Int) (ht : Box w Bt (tree tp tn) 57) (hq : Nod w q m r) (hl : Cel w Bl 6 (eU sl)) (hr : Cel w Br 6 (eU sr)) :
    Calls Try.prog 66 #[.pointer (some ⟨Bt, 0, none⟩), .pointer q, .pointer (some ⟨Bl, 0, none⟩), .pointer (some ⟨Br, 0, none⟩)] w fun e w' => e = .returned (eU (min sl (min m.2 sr))) ∧ Below w.heap.size w w' := by
  obtain ⟨B, pl, pr, s, rfl, hB, _⟩ := hq
  go_enter Try.func66, Try.ntmps66
  go_upto_region 1 with (fail)
  obtain ⟨t0, t1, t2, t3⟩ := trC ht
  obtain ⟨c0, c1, c2, c3, c4, c5, c6⟩ := nodC hB
  go_region_held3 (fun w' => w'.cell? ⟨Bt, 0, none⟩ = some (.func (.func 33) #[] #[]) ∧ w'.cell? ⟨B, 0, none⟩ = some (.int .u64 m.1.1) ∧ w'.cell? ⟨B, 1, none⟩ = some (.int .i64 m.1.2) ∧ w'.cell? ⟨B, 2, none⟩ = some (.int .u64 m.2))
    (first | exact ⟨t0, c0, c1, c2⟩ | exact ⟨(trC (ht.below hb1)).1, (nodC (hB.below hb1)).1, (nodC (hB.below hb1)).2.1, (nodC (hB.below hb1)).2.2.1⟩)
    (first
      | (go_at_call 33; (with_reducible refine (value_any m.1 m.2 _).mono ?_); rintro e w1 ⟨rfl, hb1⟩; (first | replace hb1 := undrew hb1 | replace hb1 := undrewN hb1 | skip)))
  have ht1 := ht.below hb1
  have hl1 := hl.below hb1
  have hr1 := hr.below hb1
  clear ht hl hr hB t0 t1 t2 t3 c0 c1 c2 c3 c4 c5 c6
  go_upto_region 3 with (fail)
  have t1 := (trC ht1).2.1
  have l6 := hl1.2
  go_region_held3 (fun w' => w'.cell? ⟨Bt, 1, none⟩ = some (.func (.func 32) #[] #[]) ∧ w'.cell? ⟨Bl, 6, none⟩ = some (.int .u64 sl))
    (first | exact ⟨t1, l6⟩ | exact ⟨(trC (ht1.below hb2)).2.1, (hl1.below hb2).2⟩)
    (first
      | (go_at_call 32; (with_reducible refine (least_any sl m.2 _).mono ?_); rintro e w2 ⟨rfl, hb2⟩; (first | replace hb2 := undrew hb2 | replace hb2 := undrewN hb2 | skip)))
  have ht2 := ht1.below hb2
  have hr2 := hr1.below hb2
  clear ht1 hr1 hl1 t1 l6
  go_upto_region 5 with (fail)
  have t1 := (trC ht2).2.1
  have l6 := hr2.2
  go_region_held3 (fun w' => w'.cell? ⟨Bt, 1, none⟩ = some (.func (.func 32) #[] #[]) ∧ w'.cell? ⟨Br, 6, none⟩ = some (.int .u64 sr))
    (first | exact ⟨t1, l6⟩ | exact ⟨(trC (ht2.below hb3)).2.1, (hr2.below hb3).2⟩)
    (first
      | (go_at_call 32; (with_reducible refine (least_any (min sl m.2) sr _).mono ?_); rintro e w3 ⟨rfl, hb3⟩; (first | replace hb3 := undrew hb3 | replace hb3 := undrewN hb3 | skip)))
  all_goals go_wp2
  all_goals go_ret
  all_goals exact ⟨rfl, upp (upp hb1 hb2) hb3⟩
theorem total_any (pl pr : Pt) (a b : Tr) (ht : Box w Bt (tree tp tn) 57) (hq : Nod w q m r) (hl : Tre w pl a) (hr : Tre w pr b) :
    Calls Try.prog 66 #[.pointer (some ⟨Bt, 0, none⟩), .pointer q, .pointer pl, .pointer pr] w fun e w' => e = .returned (eU (Tr.nd m r a b).sum) ∧ Below w.heap.size w w' := by
  cases a with
  | nil =>
    obtain rfl : pl = none := hl
    cases b with
    | nil =>
      obtain rfl : pr = none := hr
      exact total_nn Bt tp tn q m r w ht hq
    | nd mb rb xb yb =>
      obtain ⟨Br, _, _, rfl, hB, _⟩ := hr.open
      exact total_nr Bt tp tn q m r w Br _ ht hq (hB.cel 6 rfl)
  | nd ma ra xa ya =>
    obtain ⟨Bl, _, _, rfl, hA, _⟩ := hl.open
    cases b with
    | nil =>
      obtain rfl : pr = none := hr
      exact total_ln Bt tp tn q m r w Bl _ ht hq (hA.cel 6 rfl)
    | nd mb rb xb yb =>
      obtain ⟨Br, _, _, rfl, hB, _⟩ := hr.open
      exact total_lr Bt tp tn q m r w Bl Br _ _ ht hq (hA.cel 6 rfl) (hB.cel 6 rfl)
end
end Go.Proofs.Ytjfpemkdidoacaa
