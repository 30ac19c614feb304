/- A tree's copy, in memory of its own. No condition. -/
import Derived.Test.YtjfpemkdidoacaaRnq
namespace Go.Proofs.Ytjfpemkdidoacaa
open Go.RowKit Go.Shelf
set_option linter.unusedVariables false
/-- The memory holds that tree there, in blocks from lo on. -/
def FrTr (lo : Nat) (W : World) : Pt → Tr → Prop
  | p, .nil => p = none
  | p, .nd m r a b => ∃ (B : Nat) (pl pr : Pt), p = some ⟨B, 0, none⟩ ∧ lo ≤ B ∧ Box W B (node m r pl pr (Tr.nd m r a b).sum) 80 ∧ (Word m.1.1 ∧ Inte m.1.2 ∧ Word m.2) ∧ FrTr lo W pl a ∧ FrTr lo W pr b
theorem FrTr.mono {lo lo' : Nat} {W : World} (hn : lo' ≤ lo) : ∀ {p : Pt} {t : Tr}, FrTr lo W p t → FrTr lo' W p t
  | _, .nil, h => h
  | _, .nd m r a b, ⟨B, pl, pr, e, hB, hx, hw, hl, hr⟩ => ⟨B, pl, pr, e, Nat.le_trans hn hB, hx, hw, hl.mono hn, hr.mono hn⟩
theorem FrTr.below {lo : Nat} {W w : World} (hb : Below W.heap.size W w) : ∀ {p : Pt} {t : Tr}, FrTr lo W p t → FrTr lo w p t
  | _, .nil, h => h
  | _, .nd m r a b, ⟨B, pl, pr, e, hB, hx, hw, hl, hr⟩ => ⟨B, pl, pr, e, hB, hx.below hb, hw, hl.below hb, hr.below hb⟩
theorem FrTr.set {lo C : Nat} {W : World} (hC : C < lo) (i : Nat) (v : Value) : ∀ {p : Pt} {t : Tr}, FrTr lo W p t → FrTr lo (W.setCell ⟨C, i, none⟩ v) p t
  | _, .nil, h => h
  | _, .nd m r a b, ⟨B, pl, pr, e, hB, hx, hw, hl, hr⟩ => ⟨B, pl, pr, e, hB, hx.setNe (fun e => by have e : B = C := e; omega) v, hw, FrTr.set hC i v hl, FrTr.set hC i v hr⟩
theorem FrTr.tre {lo : Nat} {W : World} : ∀ {p : Pt} {t : Tr}, FrTr lo W p t → Tre W p t
  | _, .nil, h => h
  | _, .nd m r a b, ⟨B, pl, pr, e, hB, hx, hw, hl, hr⟩ => ⟨B, pl, pr, e, hx.lt, hx, hw, FrTr.tre hl, FrTr.tre hr⟩
theorem copied_nil (w : World) : Calls Try.prog 38 #[.pointer none] w fun e w' => e = .returned (.pointer none) ∧ w = w' := by
  go_enter Try.func38, Try.ntmps38
  go_wp2
  go_ret
  exact ⟨rfl, rfl⟩
set_option maxRecDepth 100000 in
set_option maxHeartbeats 2000000 in
theorem copied_any : ∀ (t : Tr) (p : Pt) (w : World), Tre w p t → Calls Try.prog 38 #[.pointer p] w fun e w' => ∃ p' : Pt, e = .returned (.pointer p') ∧ FrTr w.heap.size w' p' t ∧ Below w.heap.size w w' := by
  intro t
  induction t with
  | nil =>
    intro p w h
    obtain rfl : p = none := h
    exact (copied_nil w).mono fun e w' ⟨h1, h2⟩ => ⟨none, h1, rfl, h2 ▸ Below.refl _ _⟩
  | nd m r a b iha ihb =>
    intro p w h
    obtain ⟨B, pl, pr, rfl, hB, hw, hl, hr⟩ := h.open
    generalize hs : (Tr.nd m r a b).sum = s at hB
    obtain ⟨c0, c1, c2, c3, c4, c5, c6⟩ := nodC hB
    have T0 := up1 w (.cells (node m r pl pr s) 80)
    have bN := Box.new w 80 (node m r pl pr s)
    have hz : (w.alloc (.cells (node m r pl pr s) 80)).heap.size = w.heap.size + 1 := by simp
    have hBl := hB.lt
    go_enter Try.func38, Try.ntmps38
    go_upto_region 4 with (fail)
    obtain ⟨W0, hW0⟩ : ∃ v, w.alloc (.cells (node m r pl pr s) 80) = v := ⟨_, rfl⟩
    rw [hW0] at T0 bN hz
    first
      | rw [hW0]
      | skip
    clear hW0 c0 c1 c2 c3 c4 c5 c6
    have cL : ∀ w1, Below W0.heap.size W0 w1 → Calls Try.prog 38 #[.pointer pl] w1 fun e w' => ∃ p' : Pt, e = .returned (.pointer p') ∧ FrTr W0.heap.size w' p' a ∧ Below w1.heap.size w1 w' := fun w1 hb =>
      (iha pl w1 (hl.below (upp T0 hb))).mono fun e w' ⟨p', h1, h2, h3⟩ => ⟨p', h1, h2.mono hb.size, h3⟩
    have cR : ∀ w1, Below W0.heap.size W0 w1 → Calls Try.prog 38 #[.pointer pr] w1 fun e w' => ∃ p' : Pt, e = .returned (.pointer p') ∧ FrTr W0.heap.size w' p' b ∧ Below w1.heap.size w1 w' := fun w1 hb =>
      (ihb pr w1 (hr.below (upp T0 hb))).mono fun e w' ⟨p', h1, h2, h3⟩ => ⟨p', h1, h2.mono hb.size, h3⟩
    go_cut [] (fun wx => ∃ pl' pr', Box wx w.heap.size (node m r pl' pr' s) 80 ∧ FrTr W0.heap.size wx pl' a ∧ FrTr W0.heap.size wx pr' b ∧ Below w.heap.size w wx)
    case first =>
      have hS : ∀ w', Below w.heap.size w w' → w'.cell? ⟨B, 4, none⟩ = some (.pointer pl) ∧ w'.cell? ⟨B, 5, none⟩ = some (.pointer pr) := fun w' h =>
        ⟨(hB.below h).cell 4, (hB.below h).cell 5⟩
      have T := Below.refl W0.heap.size W0
      have hS0 := hS W0 T0
      obtain ⟨k5, k6⟩ := id hS0
      have hwz : w.heap.size < W0.heap.size := by omega
      have hend : ∀ X pl' pr', FrTr W0.heap.size X pl' a → FrTr W0.heap.size X pr' b → Box X w.heap.size (node m r pl pr s) 80 → Below W0.heap.size W0 X → ∃ ql qr, Box ((X.setCell ⟨w.heap.size, 4, none⟩ (.pointer pl')).setCell ⟨w.heap.size, 5, none⟩ (.pointer pr')) w.heap.size (node m r ql qr s) 80 ∧ FrTr W0.heap.size ((X.setCell ⟨w.heap.size, 4, none⟩ (.pointer pl')).setCell ⟨w.heap.size, 5, none⟩ (.pointer pr')) ql a ∧ FrTr W0.heap.size ((X.setCell ⟨w.heap.size, 4, none⟩ (.pointer pl')).setCell ⟨w.heap.size, 5, none⟩ (.pointer pr')) qr b ∧ Below w.heap.size w ((X.setCell ⟨w.heap.size, 4, none⟩ (.pointer pl')).setCell ⟨w.heap.size, 5, none⟩ (.pointer pr')) := fun X pl' pr' h1 h2 h3 h4 =>
        ⟨pl', pr', (h3.set 4 (.pointer pl')).set 5 (.pointer pr'), FrTr.set hwz 5 _ (FrTr.set hwz 4 _ h1), FrTr.set hwz 5 _ (FrTr.set hwz 4 _ h2), ((upp T0 h4).setCell (p := ⟨w.heap.size, 4, none⟩) (Nat.le_refl _) _).setCell (p := ⟨w.heap.size, 5, none⟩) (Nat.le_refl _) _⟩
      clear hz hl hr iha ihb h hBl hs hw
      go_region_held3 (fun w' => w'.cell? ⟨B, 4, none⟩ = some (.pointer pl) ∧ w'.cell? ⟨B, 5, none⟩ = some (.pointer pr))
        (first | with_reducible exact hS _ (upp T0 T) | with_reducible exact hS _ (upp T0 T).drew | exact hS _ ((upp T0 T).setCell (by exact Nat.le_refl _) _) | exact hS _ (((upp T0 T).setCell (by exact Nat.le_refl _) _).setCell (by exact Nat.le_refl _) _))
        (first
          | (go_at_call 38; (with_reducible refine (cL _ (by first | exact T | exact T.drew | exact below_drewN T _)).mono ?_); rintro e w1 ⟨pl', rfl, HL, hb⟩; (first | replace hb := undrew hb | replace hb := undrewN hb | skip); replace bN := bN.below hb; replace T := up T hb T.size; (first | replace HR := HR.below hb | skip); have fN := bN.thaw 4; have gN := bN.thaw 5; have lN := bN.lt; have xN : w1.cell? ⟨w.heap.size, 4, none⟩ = some (.pointer pl) := bN.cell 4; have yN : w1.cell? ⟨w.heap.size, 5, none⟩ = some (.pointer pr) := bN.cell 5; clear hb)
          | (go_at_call 38; (with_reducible refine (cR _ (by first | exact T | exact T.drew | exact below_drewN T _)).mono ?_); rintro e w2 ⟨pr', rfl, HR, hb⟩; (first | replace hb := undrew hb | replace hb := undrewN hb | skip); replace bN := bN.below hb; replace T := up T hb T.size; (first | replace HL := HL.below hb | skip); have fN := bN.thaw 4; have gN := bN.thaw 5; have lN := bN.lt; have xN : w2.cell? ⟨w.heap.size, 4, none⟩ = some (.pointer pl) := bN.cell 4; have yN : w2.cell? ⟨w.heap.size, 5, none⟩ = some (.pointer pr) := bN.cell 5; clear hb))
      all_goals go_wp2_with fail
      all_goals go_meet
      all_goals exact hend _ _ _ HL HR bN T
    case rest =>
      obtain ⟨pl', pr', b1, h1, h2, h3⟩ := hcut
      go_wp2
      go_ret
      subst hs
      exact ⟨_, rfl, ⟨w.heap.size, pl', pr', rfl, Nat.le_refl _, b1, hw, h1.mono (by omega), h2.mono (by omega)⟩, h3⟩
/-- A tree's own block, made since w. -/
def CopS (w : World) (n : Int) (t : Tr) (v : Value) (X : World) : Prop := ∃ (B' : Nat) (p' : Pt), v = .pointer (some ⟨B', 0, none⟩) ∧ w.heap.size ≤ B' ∧ Box X B' (tree p' n) 57 ∧ Tre X p' t ∧ Below w.heap.size w X
theorem CopS.mk1 {w X : World} {n : Int} {t : Tr} {p' : Pt} (T : Below w.heap.size w X) (HT : Tre X p' t) : CopS w n t (.pointer (some ⟨X.heap.size, 0, none⟩)) (X.alloc (.cells #[.func (.func 33) #[] #[], .func (.func 32) #[] #[], .pointer p', .int .i64 n] 57)) :=
  ⟨_, p', rfl, T.size, Box.new _ _ _, HT.below (up1 _ _), T.alloc T.size _⟩
theorem CopS.mk2 {w X : World} {n : Int} {t : Tr} {p' : Pt} {M : Nat} {z0 z1 z2 z3 : Value} (T : Below w.heap.size w X) (HT : Tre X p' t) (HN : Box X M #[z0, z1, z2, z3] 57) (hM : w.heap.size ≤ M) :
    CopS w n t (.pointer (some ⟨M, 0, none⟩)) ((((X.setCell ⟨M, 0, none⟩ (.func (.func 33) #[] #[])).setCell ⟨M, 1, none⟩ (.func (.func 32) #[] #[])).setCell ⟨M, 2, none⟩ (.pointer p')).setCell ⟨M, 3, none⟩ (.int .i64 n)) := by
  have b1 := HN.set 0 (.func (.func 33) #[] #[])
  have b2 := b1.set 1 (.func (.func 32) #[] #[])
  have b3 := b2.set 2 (.pointer p')
  refine ⟨M, p', rfl, hM, b3.set 3 (.int .i64 n), ?_, (((T.setCell (p := ⟨M, 0, none⟩) hM _).setCell (p := ⟨M, 1, none⟩) hM _).setCell (p := ⟨M, 2, none⟩) hM _).setCell (p := ⟨M, 3, none⟩) hM _⟩
  exact (((HT.but (But.set M X 0 _) HN (by decide)).but (But.set M _ 1 _) b1 (by decide)).but (But.set M _ 2 _) b2 (by decide)).but (But.set M _ 3 _) b3 (by decide)
set_option maxRecDepth 100000 in
set_option maxHeartbeats 2000000 in
theorem tcopy_any (B : Nat) (p : Pt) (n : Int) (t : Tr) (w : World) (h1 : Box w B (tree p n) 57) (h2 : Tre w p t) :
    Calls Try.prog 12 #[.pointer (some ⟨B, 0, none⟩)] w fun e w' => ∃ v, e = .returned v ∧ CopS w n t v w' := by
  have hM := made_any B p n w h1
  go_enter Try.func12, Try.ntmps12
  go_upto_region 3 with (go_at_call 37; (with_reducible refine hM.mono ?_); rintro e w1 ⟨rfl, rfl⟩)
  go_cut [2] (fun s2 wx => CopS w n t s2 wx)
  case first =>
    have hS : ∀ w', Below w.heap.size w w' → TrC w' B p n := fun w' h => trC (h1.below h)
    have cT : ∀ w1, Below w.heap.size w w1 → Calls Try.prog 38 #[.pointer p] w1 fun e w' => ∃ p' : Pt, e = .returned (.pointer p') ∧ Tre w' p' t ∧ Below w1.heap.size w1 w' := fun w1 hb =>
      (copied_any t p w1 (h2.below hb)).mono fun e w' ⟨p', x1, x2, x3⟩ => ⟨p', x1, x2.tre, x3⟩
    have T := Below.refl w.heap.size w
    have hS0 := hS w T
    obtain ⟨k0, k1, k2, k3⟩ := id hS0
    clear hM h1 h2
    go_region_held3 (fun w' => TrC w' B p n)
      (first | with_reducible exact hS _ T | with_reducible exact hS _ T.drew | exact hS _ (T.alloc T.size _) | exact hS _ (T.alloc T.size _).drew | exact hS _ ((((T.setCell (by exact hN) _).setCell (by exact hN) _).setCell (by exact hN) _).setCell (by exact hN) _) | exact hS _ (((((T.alloc T.size _).setCell (by exact T.size) _).setCell (by exact T.size) _).setCell (by exact T.size) _).setCell (by exact T.size) _))
      (first
        | (go_at_call 38; (with_reducible refine (cT _ (by first | exact T | exact T.drew | exact T.alloc T.size _ | exact (T.alloc T.size _).drew | exact T.drew.alloc T.drew.size _)).mono ?_); rintro e w2 ⟨p', rfl, HT, hb⟩; (first | replace hb := undrew hb | replace hb := undrewN hb | skip); (first | (replace T := up T hb T.size) | (have HN := (Box.new _ 57 _).below hb; have hN := T.size; replace T := up (T.alloc T.size _) hb (T.alloc T.size _).size; have xN : w2.cell? ⟨w.heap.size, 0, none⟩ = some .nilFunc := HN.cell 0; have yN : w2.cell? ⟨w.heap.size, 1, none⟩ = some .nilFunc := HN.cell 1; have uN : w2.cell? ⟨w.heap.size, 2, none⟩ = some (.pointer none) := HN.cell 2; have vN : w2.cell? ⟨w.heap.size, 3, none⟩ = some (.int .i64 0) := HN.cell 3; have fN := HN.thaw 0; have gN := HN.thaw 1; have f2N := HN.thaw 2; have g2N := HN.thaw 3; have lN := HN.lt)); clear hb))
    all_goals go_wp2_with fail
    all_goals go_meet
    all_goals first
      | with_reducible exact CopS.mk1 T HT
      | with_reducible exact CopS.mk2 T HT HN hN
  case rest =>
    go_wp2
    go_ret
    exact ⟨_, rfl, hcut⟩
theorem ob_copy {w : World} {B : Nat} {L : List It} (h : Ob w B L) : Calls Try.prog 12 #[.pointer (some ⟨B, 0, none⟩)] w fun e w' => ∃ B' : Nat, e = .returned (.pointer (some ⟨B', 0, none⟩)) ∧ w.heap.size ≤ B' ∧ Ob w' B' L ∧ Below w.heap.size w w' := by
  obtain ⟨p, t, k, x1, x2, x3⟩ := h
  exact (tcopy_any B p _ t w x1 x2).mono fun e w' ⟨v, y1, B', p', y2, y3, y4, y5, y6⟩ => ⟨B', by rw [y1, y2], y3, ⟨p', t, k, y4, y5, x3⟩, y6⟩
end Go.Proofs.Ytjfpemkdidoacaa
