/- What the tree's call without answers where the key stands in a node with nothing at its right. No condition but that the key is there. -/
import Derived.Test.YtjfpemkdidoacaaTL
namespace Go.Proofs.Ytjfpemkdidoacaa
open Go.RowKit Go.Shelf
set_option linter.unusedVariables false
theorem tinted_same (p : Pt) (t : Tr) (c : Bool) (w : World) (h : Tre w p t) (hc : t.isNil = true ∨ t.isRed = c) : Calls Try.prog 60 #[.pointer p, .bool c] w fun e w' => e = .returned (.pointer p) ∧ w' = w := by
  cases t with
  | nil =>
    obtain rfl : p = none := h
    exact (tinted_nil c w).mono fun e w' ⟨h1, h2⟩ => ⟨h1, h2.symm⟩
  | nd m r a b =>
    obtain ⟨B, pl, pr, rfl, hB, hw, hl, hr⟩ := h.open
    obtain rfl : r = c := by rcases hc with hc | hc; · cases hc
                             · exact hc
    obtain ⟨c0, c1, c2, c3, c4, c5, c6⟩ := nodC hB
    have hr : (r == r) = true := by simp
    go_enter Try.func60, Try.ntmps60
    go_wp2
    go_ret
    exact ⟨rfl, rfl⟩
theorem Tre.drewN {W : World} {p : Pt} {t : Tr} (h : Tre W p t) (n : Nat) : Tre (W.drewN n) p t := h.below (below_drewN (Below.refl _ _) n)
theorem isNil_at {w : World} {p : Pt} {t : Tr} (h : Tre w p t) : (p == none) = t.isNil := by
  cases t with
  | nil => obtain rfl : p = none := h; rfl
  | nd m r a b => obtain ⟨B, pl, pr, rfl, _⟩ := h.open; rfl
set_option maxRecDepth 100000 in
set_option maxHeartbeats 2000000 in
theorem without_leaf (Bt : Nat) (tp : Pt) (tn : Int) (m : It) (r : Bool) (a : Tr) (hra : r = true → a.isRed = false) (p : Pt) (w : World) (ht : Box w Bt (tree tp tn) 57) (hp : Tre w p (.nd m r a .nil)) :
    Calls Try.prog 43 #[.pointer (some ⟨Bt, 0, none⟩), .pointer p, ky m.1] w fun e w' => ∃ p' : Pt, e = .returned (.tuple #[.pointer p', .bool (!r && a.isNil)]) ∧ Tre w' p' (a.tint false) ∧ Below w.heap.size w w' := by
  have hq := hp.nod
  obtain ⟨B, pl, pr, rfl, hB, hw, ha, hb⟩ := hp.open
  obtain rfl : pr = none := hb
  have T0 := up1 w (.cells #[eU m.1.1, eI m.1.2] 32)
  have hK := Box.new w 32 #[eU m.1.1, eI m.1.2]
  obtain ⟨W0, hW0⟩ : ∃ v, w.alloc (.cells #[eU m.1.1, eI m.1.2] 32) = v := ⟨_, rfl⟩
  rw [hW0] at T0 hK
  have hL := less_any m.1 m.1
  rw [show decide (kLt m.1 m.1) = false by simpa using kLt_irr m.1] at hL
  go_enter Try.func43, Try.ntmps43
  go_upto_region 1 with (fail)
  clear hW0
  have hS : ∀ w', Below W0.heap.size W0 w' → (w'.cell? ⟨w.heap.size, 0, none⟩ = some (.int .u64 m.1.1) ∧ w'.cell? ⟨w.heap.size, 1, none⟩ = some (.int .i64 m.1.2)) ∧ w'.cell? ⟨B, 0, none⟩ = some (.int .u64 m.1.1) ∧ w'.cell? ⟨B, 1, none⟩ = some (.int .i64 m.1.2) := fun w' h =>
    ⟨kyC (hK.below h), (nodC (hB.below (upp T0 h))).1, (nodC (hB.below (upp T0 h))).2.1⟩
  have hS0 := hS W0 (Below.refl _ _)
  obtain ⟨⟨k0, k1⟩, c0, c1⟩ := id hS0
  go_region_held3 (fun w' => (w'.cell? ⟨w.heap.size, 0, none⟩ = some (.int .u64 m.1.1) ∧ w'.cell? ⟨w.heap.size, 1, none⟩ = some (.int .i64 m.1.2)) ∧ w'.cell? ⟨B, 0, none⟩ = some (.int .u64 m.1.1) ∧ w'.cell? ⟨B, 1, none⟩ = some (.int .i64 m.1.2))
    (first | exact hS0 | exact hS _ hb1)
    (first
      | (go_at_call 36; (with_reducible refine (hL _).mono ?_); rintro e w1 ⟨rfl, hb1⟩; (first | replace hb1 := undrew hb1 | replace hb1 := undrewN hb1 | skip)))
  clear hS hS0 k0 k1 c0 c1
  have T1 := upp T0 hb1
  have hK1 := hK.below hb1
  clear T0 hK hb1 hL
  obtain ⟨k0, k1⟩ := kyC hK1
  obtain ⟨c0, c1, c2, c3, c4, c5, c6⟩ := nodC (hB.below T1)
  go_upto_region 6 with (fail)
  go_quiet (fail)
  have T2 := below_drewN T1 nq
  obtain ⟨W2, hW2⟩ : ∃ v, w1.drewN nq = v := ⟨_, rfl⟩
  rw [hW2] at T2 ⊢
  clear hW2 k0 k1 c0 c1 c2 c3 c4 c5 c6 T1 hK1
  have ha2 := ha.below T2
  obtain ⟨c0, c1, c2, c3, c4, c5, c6⟩ := nodC (hB.below T2)
  cases r with
  | true =>
    have hra := hra rfl
    have hn := tinted_same pl a false
    have e0 : a.tint false = a := by cases a with
      | nil => rfl
      | nd ma ra x y => obtain rfl : ra = false := hra; rfl
    replace e0 := Lib.hid e0
    go_upto_region 7 with (fail)
    go_quiet (first
      | (go_at_call 60; refine Calls.quiet_of_same (hn _ ?_ (.inr hra)); first | exact ha2 | exact ha2.drewN _))
    go_wp2
    go_ret2
    exact ⟨pl, rfl, by rw [e0.out]; exact ha2.drewN _, below_drewN T2 _⟩
  | false =>
    have h1 := fun w3 (h : Below W2.heap.size W2 w3) => tinted_tre pl a false w3 (ha2.below h)
    have hn := isNil_at ha2
    cases a with
    | nil =>
      obtain rfl : pl = none := ha2
      go_upto_region 7 with (fail)
      go_region_held3 (fun w' => w'.cell? ⟨B, 3, none⟩ = some (.bool false) ∧ w'.cell? ⟨B, 4, none⟩ = some (.pointer none))
        (first | exact ⟨c3, c4⟩ | exact ⟨(nodC (hB.below (upp T2 hb3))).2.2.2.1, (nodC (hB.below (upp T2 hb3))).2.2.2.2.1⟩)
        (first
          | (go_at_call 60; (with_reducible refine (h1 _ (by first | exact Below.refl _ _ | exact (Below.refl _ _).drew | exact below_drewN (Below.refl _ _) _)).mono ?_); rintro e w3 ⟨p3, rfl, hT3, hb3⟩; (first | replace hb3 := undrew hb3 | replace hb3 := undrewN hb3 | skip)))
      all_goals go_wp2
      all_goals go_ret2
      all_goals exact ⟨p3, rfl, hT3, upp T2 hb3⟩
    | nd ma ra x y =>
      obtain ⟨C, px, py, rfl, _⟩ := ha2.open
      go_upto_region 7 with (fail)
      go_region_held3 (fun w' => w'.cell? ⟨B, 3, none⟩ = some (.bool false) ∧ w'.cell? ⟨B, 4, none⟩ = some (.pointer (some ⟨C, 0, none⟩)))
        (first | exact ⟨c3, c4⟩ | exact ⟨(nodC (hB.below (upp T2 hb3))).2.2.2.1, (nodC (hB.below (upp T2 hb3))).2.2.2.2.1⟩)
        (first
          | (go_at_call 60; (with_reducible refine (h1 _ (by first | exact Below.refl _ _ | exact (Below.refl _ _).drew | exact below_drewN (Below.refl _ _) _)).mono ?_); rintro e w3 ⟨p3, rfl, hT3, hb3⟩; (first | replace hb3 := undrew hb3 | replace hb3 := undrewN hb3 | skip)))
      all_goals go_wp2
      all_goals go_ret2
      all_goals exact ⟨p3, rfl, hT3, upp T2 hb3⟩
end Go.Proofs.Ytjfpemkdidoacaa
