/- What the tree's call without answers where the key stands left. No condition but that it is there. -/
import Derived.Test.YtjfpemkdidoacaaTK
namespace Go.Proofs.Ytjfpemkdidoacaa
open Go.RowKit Go.Shelf
set_option linter.unusedVariables false
namespace Tr
/-- The key is there, on the way down. -/
def may (k : Ky) : Tr → Prop
  | nil => False
  | nd m r a b => if kLt k m.1 then a.may k else if k = m.1 then (match b.fst with | none => (r = true → a.isRed = false) | some x => b.may x.1) else b.may k
end Tr
def WotAt (Bt : Nat) (tp : Pt) (tn : Int) (t : Tr) : Prop :=
  ∀ (p : Pt) (k : Ky) (w : World), t.may k → Box w Bt (tree tp tn) 57 → Tre w p t →
    Calls Try.prog 43 #[.pointer (some ⟨Bt, 0, none⟩), .pointer p, ky k] w fun e w' => ∃ p' : Pt, e = .returned (.tuple #[.pointer p', .bool (t.rem k).2]) ∧ Tre w' p' (t.rem k).1 ∧ Below w.heap.size w w'
set_option maxRecDepth 100000 in
set_option maxHeartbeats 2000000 in
theorem without_left (Bt : Nat) (tp : Pt) (tn : Int) (m : It) (r : Bool) (a b : Tr) (k : Ky) (hk : kLt k m.1) (hI : WotAt Bt tp tn a) (hm : a.may k) (p : Pt) (w : World) (ht : Box w Bt (tree tp tn) 57) (hp : Tre w p (.nd m r a b)) :
    Calls Try.prog 43 #[.pointer (some ⟨Bt, 0, none⟩), .pointer p, ky k] w fun e w' => ∃ p' : Pt, e = .returned (.tuple #[.pointer p', .bool ((Tr.nd m r a b).rem k).2]) ∧ Tre w' p' ((Tr.nd m r a b).rem k).1 ∧ Below w.heap.size w w' := by
  have hq := hp.nod
  have eZ : (Tr.nd m r a b).rem k = if (a.rem k).2 then Tr.shl m r (a.rem k).1 b else (.nd m r (a.rem k).1 b, false) := if_pos hk
  rw [eZ]
  clear eZ
  have hp' := hp
  obtain ⟨B, pl, pr, rfl, hB, hw, ha, hb⟩ := hp.open
  have h1 := fun w1 (h : Below w.heap.size w w1) => hI pl k w1 hm (ht.below h) (ha.below h)
  generalize a.rem k = A at *
  obtain ⟨A, s⟩ := A
  dsimp only at h1 ⊢
  have T0 := up1 w (.cells #[eU k.1, eI k.2] 32)
  have hK := Box.new w 32 #[eU k.1, eI k.2]
  obtain ⟨W0, hW0⟩ : ∃ v, w.alloc (.cells #[eU k.1, eI k.2] 32) = v := ⟨_, rfl⟩
  rw [hW0] at T0 hK
  have hL := less_any k m.1
  rw [show decide (kLt k m.1) = true by simpa using hk] at hL
  go_enter Try.func43, Try.ntmps43
  go_upto_region 1 with (fail)
  clear hW0
  have hS : ∀ w', Below W0.heap.size W0 w' → (w'.cell? ⟨w.heap.size, 0, none⟩ = some (.int .u64 k.1) ∧ w'.cell? ⟨w.heap.size, 1, none⟩ = some (.int .i64 k.2)) ∧ w'.cell? ⟨B, 0, none⟩ = some (.int .u64 m.1.1) ∧ w'.cell? ⟨B, 1, none⟩ = some (.int .i64 m.1.2) := fun w' h =>
    ⟨kyC (hK.below h), (nodC (hB.below (upp T0 h))).1, (nodC (hB.below (upp T0 h))).2.1⟩
  have hS0 := hS W0 (Below.refl _ _)
  obtain ⟨⟨k0, k1⟩, c0, c1⟩ := id hS0
  go_region_held3 (fun w' => (w'.cell? ⟨w.heap.size, 0, none⟩ = some (.int .u64 k.1) ∧ w'.cell? ⟨w.heap.size, 1, none⟩ = some (.int .i64 k.2)) ∧ w'.cell? ⟨B, 0, none⟩ = some (.int .u64 m.1.1) ∧ w'.cell? ⟨B, 1, none⟩ = some (.int .i64 m.1.2))
    (first | exact hS0 | exact hS _ hb1)
    (first
      | (go_at_call 36; (with_reducible refine (hL _).mono ?_); rintro e w1 ⟨rfl, hb1⟩; (first | replace hb1 := undrew hb1 | replace hb1 := undrewN hb1 | skip)))
  clear hS hS0 k0 k1 c0 c1
  have T1 := upp T0 hb1
  have hK1 := hK.below hb1
  go_upto_region 2 with (fail)
  have hS : ∀ w', Below w1.heap.size w1 w' → (w'.cell? ⟨w.heap.size, 0, none⟩ = some (.int .u64 k.1) ∧ w'.cell? ⟨w.heap.size, 1, none⟩ = some (.int .i64 k.2)) ∧ w'.cell? ⟨B, 4, none⟩ = some (.pointer pl) := fun w' h =>
    ⟨kyC (hK1.below h), (nodC (hB.below (upp T1 h))).2.2.2.2.1⟩
  have hS0 := hS w1 (Below.refl _ _)
  obtain ⟨⟨k0, k1⟩, c4⟩ := id hS0
  go_region_held3 (fun w' => (w'.cell? ⟨w.heap.size, 0, none⟩ = some (.int .u64 k.1) ∧ w'.cell? ⟨w.heap.size, 1, none⟩ = some (.int .i64 k.2)) ∧ w'.cell? ⟨B, 4, none⟩ = some (.pointer pl))
    (first | exact hS0 | exact hS _ hb2)
    (first
      | (go_at_call 43; (with_reducible refine (h1 _ (by first | exact T1 | exact T1.drew | exact below_drewN T1 _)).mono ?_); rintro e w2 ⟨p2, rfl, hT2, hb2⟩; (first | replace hb2 := undrew hb2 | replace hb2 := undrewN hb2 | skip)))
  clear hS hS0 k0 k1 c4
  have T2 := upp T1 hb2
  cases s with
  | true =>
    have h2 := shortLeft_any Bt tp tn (some ⟨B, 0, none⟩) p2 m r a b A w2 (ht.below T2) (hp'.below T2) hT2
    go_wp2_with (go_at_call 63; (with_reducible refine h2.mono ?_); rintro e w3 ⟨p3, rfl, hT3, hb3⟩)
    go_ret2
    exact ⟨p3, rfl, hT3, upp T2 hb3⟩
  | false =>
    have h2 := fun w3 (h : Below w2.heap.size w2 w3) => over_any Bt tp tn (some ⟨B, 0, none⟩) m r r w3 p2 pr A b (ht.below (upp T2 h)) (hq.below (upp T2 h)) (hT2.below h) (hb.below (upp T2 h))
    go_upto_region 5 with (fail)
    have c3 := (nodC (hB.below T2)).2.2.2.1
    have c5 := (nodC (hB.below T2)).2.2.2.2.2.1
    go_region_held3 (fun w' => w'.cell? ⟨B, 3, none⟩ = some (.bool r) ∧ w'.cell? ⟨B, 5, none⟩ = some (.pointer pr))
      (first | exact ⟨c3, c5⟩ | exact ⟨(nodC (hB.below (upp T2 hb3))).2.2.2.1, (nodC (hB.below (upp T2 hb3))).2.2.2.2.2.1⟩)
      (first
        | (go_at_call 61; (with_reducible refine (h2 _ (by first | exact Below.refl _ _ | exact (Below.refl _ _).drew | exact below_drewN (Below.refl _ _) _)).mono ?_); rintro e w3 ⟨p3, rfl, hT3, hb3⟩; (first | replace hb3 := undrew hb3 | replace hb3 := undrewN hb3 | skip)))
    all_goals go_wp2
    all_goals go_ret2
    all_goals exact ⟨p3, rfl, hT3, upp T2 hb3⟩
end Go.Proofs.Ytjfpemkdidoacaa
