/- A tree's copy, in memory of its own: copied, Copy, the map's clone, the copy of a tree of ids. No condition. -/
import Derived.Test.YtcpienpkpodfmaaAI
import Derived.Shelf.SlMaps.Clone
namespace Go.Proofs.Ytcpienpkpodfmaa
open Go.RowKit Go.Shelf Go.Maps
set_option linter.unusedVariables false
/-- The memory holds that tree there, in blocks from lo on. -/
def FrTr (lo : Nat) (W : World) : Pt → Tr → Prop
  | p, .nil => p = none
  | p, .nd m r a b => ∃ (B : Nat) (pl pr : Pt), p = some ⟨B, 0, none⟩ ∧ lo ≤ B ∧ Box W B (node m r pl pr (Tr.nd m r a b).sum) 91 ∧ (Word m.1.1 ∧ Inte m.1.2 ∧ Word m.2) ∧ FrTr lo W pl a ∧ FrTr lo W pr b
theorem FrTr.mono {lo lo' : Nat} {W : World} (hn : lo' ≤ lo) : ∀ {p : Pt} {t : Tr}, FrTr lo W p t → FrTr lo' W p t
  | _, .nil, h => h
  | _, .nd m r a b, ⟨B, pl, pr, e, hB, hx, hw, hl, hr⟩ => ⟨B, pl, pr, e, Nat.le_trans hn hB, hx, hw, hl.mono hn, hr.mono hn⟩
theorem FrTr.below {lo : Nat} {W w : World} (hb : Below W.heap.size W w) : ∀ {p : Pt} {t : Tr}, FrTr lo W p t → FrTr lo w p t
  | _, .nil, h => h
  | _, .nd m r a b, ⟨B, pl, pr, e, hB, hx, hw, hl, hr⟩ => ⟨B, pl, pr, e, hB, hx.below hb, hw, hl.below hb, hr.below hb⟩
theorem FrTr.set {lo C : Nat} {W : World} (hC : C < lo) (i : Nat) (v : Value) : ∀ {p : Pt} {t : Tr}, FrTr lo W p t → FrTr lo (W.setCell ⟨C, i, none⟩ v) p t
  | _, .nil, h => h
  | _, .nd m r a b, ⟨B, pl, pr, e, hB, hx, hw, hl, hr⟩ => ⟨B, pl, pr, e, hB, hx.setNe (fun e => by have e : B = C := e; omega) v, hw, FrTr.set hC i v hl, FrTr.set hC i v hr⟩
theorem FrTr.tre {lo : Nat} {W : World} : ∀ {p : Pt} {t : Tr}, FrTr lo W p t → Tre W p t
  | _, .nil, h => h
  | _, .nd m r a b, ⟨B, pl, pr, e, hB, hx, hw, hl, hr⟩ => ⟨B, pl, pr, e, hx.lt, hx, hw, FrTr.tre hl, FrTr.tre hr⟩
theorem copied_nil (w : World) : Calls Try.prog 52 #[.pointer none] w fun e w' => e = .returned (.pointer none) ∧ w = w' := by
  go_enter Try.func52, Try.ntmps52
  go_wp2
  go_ret
  exact ⟨rfl, rfl⟩
set_option maxRecDepth 100000 in
set_option maxHeartbeats 2000000 in
theorem copied_any : ∀ (t : Tr) (p : Pt) (w : World), Tre w p t → Calls Try.prog 52 #[.pointer p] w fun e w' => ∃ p' : Pt, e = .returned (.pointer p') ∧ FrTr w.heap.size w' p' t ∧ Below w.heap.size w w' := by
  intro t
  induction t with
  | nil =>
    intro p w h
    obtain rfl : p = none := h
    exact (copied_nil w).mono fun e w' ⟨h1, h2⟩ => ⟨none, h1, rfl, h2 ▸ Below.refl _ _⟩
  | nd m r a b iha ihb =>
    intro p w h
    obtain ⟨B, pl, pr, rfl, hB, hw, hl, hr⟩ := h.open
    generalize hs : (Tr.nd m r a b).sum = s at hB
    obtain ⟨c0, c1, ⟨c2, cq2⟩, c3, c4, c5, ⟨c6, cq6⟩⟩ := nodC hB
    have T0 := up1 w (.cells (node m r pl pr s) 91)
    have bN := Box.new w 91 (node m r pl pr s)
    have hz : (w.alloc (.cells (node m r pl pr s) 91)).heap.size = w.heap.size + 1 := by simp
    have hBl := hB.lt
    go_enter Try.func52, Try.ntmps52
    go_upto_region 4 with (fail)
    obtain ⟨W0, hW0⟩ : ∃ v, w.alloc (.cells (node m r pl pr s) 91) = v := ⟨_, rfl⟩
    rw [hW0] at T0 bN hz
    first
      | rw [hW0]
      | skip
    clear hW0 c0 c1 c2 cq2 c3 c4 c5 c6 cq6
    have cL : ∀ w1, Below W0.heap.size W0 w1 → Calls Try.prog 52 #[.pointer pl] w1 fun e w' => ∃ p' : Pt, e = .returned (.pointer p') ∧ FrTr W0.heap.size w' p' a ∧ Below w1.heap.size w1 w' := fun w1 hb =>
      (iha pl w1 (hl.below (upp T0 hb))).mono fun e w' ⟨p', h1, h2, h3⟩ => ⟨p', h1, h2.mono hb.size, h3⟩
    have cR : ∀ w1, Below W0.heap.size W0 w1 → Calls Try.prog 52 #[.pointer pr] w1 fun e w' => ∃ p' : Pt, e = .returned (.pointer p') ∧ FrTr W0.heap.size w' p' b ∧ Below w1.heap.size w1 w' := fun w1 hb =>
      (ihb pr w1 (hr.below (upp T0 hb))).mono fun e w' ⟨p', h1, h2, h3⟩ => ⟨p', h1, h2.mono hb.size, h3⟩
    go_cut [] (fun wx => ∃ pl' pr', Box wx w.heap.size (node m r pl' pr' s) 91 ∧ FrTr W0.heap.size wx pl' a ∧ FrTr W0.heap.size wx pr' b ∧ Below w.heap.size w wx)
    case first =>
      have hS : ∀ w', Below w.heap.size w w' → w'.cell? ⟨B, 5, none⟩ = some (.pointer pl) ∧ w'.cell? ⟨B, 6, none⟩ = some (.pointer pr) := fun w' h =>
        ⟨(hB.below h).cell 5, (hB.below h).cell 6⟩
      have T := Below.refl W0.heap.size W0
      have hS0 := hS W0 T0
      obtain ⟨k5, k6⟩ := id hS0
      have hwz : w.heap.size < W0.heap.size := by omega
      have hend : ∀ X pl' pr', FrTr W0.heap.size X pl' a → FrTr W0.heap.size X pr' b → Box X w.heap.size (node m r pl pr s) 91 → Below W0.heap.size W0 X → ∃ ql qr, Box ((X.setCell ⟨w.heap.size, 5, none⟩ (.pointer pl')).setCell ⟨w.heap.size, 6, none⟩ (.pointer pr')) w.heap.size (node m r ql qr s) 91 ∧ FrTr W0.heap.size ((X.setCell ⟨w.heap.size, 5, none⟩ (.pointer pl')).setCell ⟨w.heap.size, 6, none⟩ (.pointer pr')) ql a ∧ FrTr W0.heap.size ((X.setCell ⟨w.heap.size, 5, none⟩ (.pointer pl')).setCell ⟨w.heap.size, 6, none⟩ (.pointer pr')) qr b ∧ Below w.heap.size w ((X.setCell ⟨w.heap.size, 5, none⟩ (.pointer pl')).setCell ⟨w.heap.size, 6, none⟩ (.pointer pr')) := fun X pl' pr' h1 h2 h3 h4 =>
        ⟨pl', pr', (h3.set 5 (.pointer pl')).set 6 (.pointer pr'), FrTr.set hwz 6 _ (FrTr.set hwz 5 _ h1), FrTr.set hwz 6 _ (FrTr.set hwz 5 _ h2), ((upp T0 h4).setCell (p := ⟨w.heap.size, 5, none⟩) (Nat.le_refl _) _).setCell (p := ⟨w.heap.size, 6, none⟩) (Nat.le_refl _) _⟩
      clear hz hl hr iha ihb h hBl hs hw
      go_region_held3 (fun w' => w'.cell? ⟨B, 5, none⟩ = some (.pointer pl) ∧ w'.cell? ⟨B, 6, none⟩ = some (.pointer pr))
        (first | with_reducible exact hS _ (upp T0 T) | with_reducible exact hS _ (upp T0 T).drew | exact hS _ ((upp T0 T).setCell (by exact Nat.le_refl _) _) | exact hS _ (((upp T0 T).setCell (by exact Nat.le_refl _) _).setCell (by exact Nat.le_refl _) _))
        (first
          | (go_at_call 52; (with_reducible refine (cL _ (by first | exact T | exact T.drew | exact below_drewN T _)).mono ?_); rintro e w1 ⟨pl', rfl, HL, hb⟩; (first | replace hb := undrew hb | replace hb := undrewN hb | skip); replace bN := bN.below hb; replace T := up T hb T.size; (first | replace HR := HR.below hb | skip); have fN := bN.thaw 5; have gN := bN.thaw 6; have lN := bN.lt; have xN : w1.cell? ⟨w.heap.size, 5, none⟩ = some (.pointer pl) := bN.cell 5; have yN : w1.cell? ⟨w.heap.size, 6, none⟩ = some (.pointer pr) := bN.cell 6; clear hb)
          | (go_at_call 52; (with_reducible refine (cR _ (by first | exact T | exact T.drew | exact below_drewN T _)).mono ?_); rintro e w2 ⟨pr', rfl, HR, hb⟩; (first | replace hb := undrew hb | replace hb := undrewN hb | skip); replace bN := bN.below hb; replace T := up T hb T.size; (first | replace HL := HL.below hb | skip); have fN := bN.thaw 5; have gN := bN.thaw 6; have lN := bN.lt; have xN : w2.cell? ⟨w.heap.size, 5, none⟩ = some (.pointer pl) := bN.cell 5; have yN : w2.cell? ⟨w.heap.size, 6, none⟩ = some (.pointer pr) := bN.cell 6; clear hb))
      all_goals go_wp2_with fail
      all_goals go_meet
      all_goals exact hend _ _ _ HL HR bN T
    case rest =>
      obtain ⟨pl', pr', b1, h1, h2, h3⟩ := hcut
      go_wp2
      go_ret
      subst hs
      exact ⟨_, rfl, ⟨w.heap.size, pl', pr', rfl, Nat.le_refl _, b1, hw, h1.mono (by omega), h2.mono (by omega)⟩, h3⟩
end Go.Proofs.Ytcpienpkpodfmaa
