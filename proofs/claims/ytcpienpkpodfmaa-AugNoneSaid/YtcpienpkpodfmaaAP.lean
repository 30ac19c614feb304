/- The copy of a tree of ids, and two or three trees side by side: what is done to one leaves the others. No condition but words. -/
import Derived.Test.YtcpienpkpodfmaaAO
namespace Go.Proofs.Ytcpienpkpodfmaa
open Go.RowKit Go.Shelf Go.Maps
set_option linter.unusedVariables false
theorem MapU.move {w w' : World} {b nn : Nat} {F : Int → Option Int} (h : MapU w b nn F) (e : w'.heap[b]? = w.heap[b]?) : MapU w' b nn F := by
  obtain ⟨D, ⟨es, clock, hb, F', hs, hD⟩, h2⟩ := h
  exact ⟨D, ⟨es, clock, e.trans hb, F', hs, hD⟩, h2⟩
theorem IsTr.off {n : Nat} {W W' : World} {S : Nat → Prop} (hO : Off S W W') (hS : ∀ k, S k → ∀ vs, ¬ Box W k vs 91) : ∀ {p : Pt} {t : Tr}, IsTr n W p t → IsTr n W' p t
  | _, .nil, h => h
  | _, .nd m r a b, ⟨C, pl, pr, e, hC, hx, hw, hl, hr⟩ =>
    ⟨C, pl, pr, e, hC, hO.box hx (fun h => hS C h _ hx), hw, IsTr.off hO hS hl, IsTr.off hO hS hr⟩
theorem Ob.off {B : Nat} {W W' : World} {S : Nat → Prop} {L : List It} (h : Ob W B L) (hO : Off S W W') (hS : ∀ k, S k → ∀ vs, ¬ Box W k vs 91) (hB : ¬ S B) : Ob W' B L := by
  obtain ⟨p, t, k, h1, h2, h3⟩ := h
  exact ⟨p, t, k, hO.box h1 hB, (IsTr.off hO hS h2).mono hO.size, h3⟩
/-- A copy's three blocks. -/
def CpyS (W : World) (nn : Nat) (L : List It) (v : Value) (X : World) : Prop := ∃ B' Bm' Bt' : Nat, v = .pointer (some ⟨B', 0, none⟩) ∧ Box X B' #[.map (some Bm'), .pointer (some ⟨Bt', 0, none⟩)] 39 ∧ MapU X Bm' nn (numL L) ∧ Ob X Bt' L ∧ (W.heap.size ≤ B' ∧ W.heap.size ≤ Bm' ∧ W.heap.size ≤ Bt') ∧ Below W.heap.size W X
theorem CpyS.mk1 {W X : World} {nn : Nat} {L : List It} {Bm' Bt' : Nat} (T : Below W.heap.size W X) (HM : MapU X Bm' nn (numL L)) (HO : Ob X Bt' L) (h1 : W.heap.size ≤ Bm') (h2 : W.heap.size ≤ Bt') :
    CpyS W nn L (.pointer (some ⟨X.heap.size, 0, none⟩)) (X.alloc (.cells #[.map (some Bm'), .pointer (some ⟨Bt', 0, none⟩)] 39)) :=
  ⟨_, Bm', Bt', rfl, Box.new _ _ _, HM.below (up1 _ _), HO.below (up1 _ _), ⟨T.size, h1, h2⟩, T.alloc T.size _⟩
theorem CpyS.mk2 {W X : World} {nn : Nat} {L : List It} {Bm' Bt' M : Nat} {z0 z1 : Value} (T : Below W.heap.size W X) (HM : MapU X Bm' nn (numL L)) (HO : Ob X Bt' L) (h1 : W.heap.size ≤ Bm') (h2 : W.heap.size ≤ Bt') (HN : Box X M #[z0, z1] 39) (hM : W.heap.size ≤ M) :
    CpyS W nn L (.pointer (some ⟨M, 0, none⟩)) ((X.setCell ⟨M, 0, none⟩ (.map (some Bm'))).setCell ⟨M, 1, none⟩ (.pointer (some ⟨Bt', 0, none⟩))) := by
  have b1 := HN.set 0 (.map (some Bm'))
  obtain ⟨p, hb⟩ := HO.box
  have n1 : Bt' ≠ M := box_ne hb HN (by decide)
  have n2 : Bm' ≠ M := fun e => by subst e; exact HM.unbox _ _ HN
  exact ⟨M, Bm', Bt', rfl, b1.set 1 (.pointer (some ⟨Bt', 0, none⟩)), (HM.but (But.set M X 0 _) n2).but (But.set M _ 1 _) n2, (HO.but (But.set M X 0 _) n1 HN (by decide)).but (But.set M _ 1 _) n1 b1 (by decide), ⟨hM, h1, h2⟩, (T.setCell (p := ⟨M, 0, none⟩) hM _).setCell (p := ⟨M, 1, none⟩) hM _⟩
section
variable {w W : World} {m B Bm Bt : Nat} {L : List It}
set_option maxRecDepth 100000 in
set_option maxHeartbeats 2000000 in
theorem copy_at (nn : Nat) (h1 : Box W B #[.map (some Bm), .pointer (some ⟨Bt, 0, none⟩)] 39) (h2 : MapU W Bm nn (numL L)) (h3 : Ob W Bt L) : Calls Try.prog 10 #[.pointer (some ⟨B, 0, none⟩)] W fun e w' => ∃ v, e = .returned v ∧ CpyS W nn L v w' := by
  go_enter Try.func10, Try.ntmps10
  go_upto_region 3 with (fail)
  go_cut [2] (fun s2 wx => CpyS W nn L s2 wx)
  case first =>
    have hS : ∀ w', Below W.heap.size W w' → w'.cell? ⟨B, 0, none⟩ = some (.map (some Bm)) ∧ w'.cell? ⟨B, 1, none⟩ = some (.pointer (some ⟨Bt, 0, none⟩)) := fun w' h => ⟨(h1.below h).cell 0, (h1.below h).cell 1⟩
    have cM : ∀ w1, Below W.heap.size W w1 → Calls Try.prog 29 #[.map (some Bm)] w1 fun e w' => ∃ b' : Nat, e = .returned (.map (some b')) ∧ W.heap.size ≤ b' ∧ MapU w' b' nn (numL L) ∧ Below w1.heap.size w1 w' := fun w1 hb =>
      (mclone_any (h2.below hb)).mono fun e w' ⟨b', x1, x2, x3, x4⟩ => ⟨b', x1, Nat.le_trans hb.size x2, x3, x4⟩
    have cT : ∀ w1, Below W.heap.size W w1 → Calls Try.prog 30 #[.pointer (some ⟨Bt, 0, none⟩)] w1 fun e w' => ∃ b' : Nat, e = .returned (.pointer (some ⟨b', 0, none⟩)) ∧ W.heap.size ≤ b' ∧ Ob w' b' L ∧ Below w1.heap.size w1 w' := fun w1 hb => by
      obtain ⟨p, t, k, x1, x2, x3⟩ := h3
      exact (tcopy_any Bt p _ t w1 (x1.below hb) (x2.below hb)).mono fun e w' ⟨v, y1, B', p', y2, y3, y4, y5, y6⟩ => ⟨B', by rw [y1, y2], Nat.le_trans hb.size y3, ⟨p', t, k, y4, y5, x3⟩, y6⟩
    have T := Below.refl W.heap.size W
    have hS0 := hS W T
    obtain ⟨k0, k1⟩ := id hS0
    clear h1 h2 h3
    go_region_held3 (fun w' => w'.cell? ⟨B, 0, none⟩ = some (.map (some Bm)) ∧ w'.cell? ⟨B, 1, none⟩ = some (.pointer (some ⟨Bt, 0, none⟩)))
      (first | with_reducible exact hS _ T | with_reducible exact hS _ T.drew | exact hS _ (T.alloc T.size _) | exact hS _ (T.alloc T.size _).drew | exact hS _ ((T.setCell (by exact hN) _).setCell (by exact hN) _) | exact hS _ (((T.alloc T.size _).setCell (by exact T.size) _).setCell (by exact T.size) _))
      (first
        | (go_at_call 29; (with_reducible refine (cM _ (by first | exact T | exact T.drew | exact T.alloc T.size _ | exact (T.alloc T.size _).drew | exact T.drew.alloc T.drew.size _)).mono ?_); rintro e w2 ⟨bm, rfl, lM, HM, hb⟩; (first | replace hb := undrew hb | replace hb := undrewN hb | skip); (first | (replace HN := HN.below hb; (first | replace HM := HM.below hb | skip); (first | replace HO := HO.below hb | skip); replace T := up T hb T.size) | ((first | replace HM := HM.below hb | skip); (first | replace HO := HO.below hb | skip); replace T := up T hb T.size) | (have HN := (Box.new _ 39 _).below hb; have hN := T.size; (first | replace HM := (HM.below (up1 _ _)).below hb | skip); (first | replace HO := (HO.below (up1 _ _)).below hb | skip); replace T := up (T.alloc T.size _) hb (T.alloc T.size _).size)); (first | (have xN : w2.cell? ⟨_, 0, none⟩ = some (.map none) := HN.cell 0; have yN : w2.cell? ⟨_, 1, none⟩ = some (.pointer none) := HN.cell 1; have fN := HN.thaw 0; have gN := HN.thaw 1; have lN := HN.lt) | skip); clear hb)
        | (go_at_call 30; (with_reducible refine (cT _ (by first | exact T | exact T.drew | exact T.alloc T.size _ | exact (T.alloc T.size _).drew | exact T.drew.alloc T.drew.size _)).mono ?_); rintro e w3 ⟨bt, rfl, lT, HO, hb⟩; (first | replace hb := undrew hb | replace hb := undrewN hb | skip); (first | (replace HN := HN.below hb; (first | replace HM := HM.below hb | skip); (first | replace HO := HO.below hb | skip); replace T := up T hb T.size) | ((first | replace HM := HM.below hb | skip); (first | replace HO := HO.below hb | skip); replace T := up T hb T.size) | (have HN := (Box.new _ 39 _).below hb; have hN := T.size; (first | replace HM := (HM.below (up1 _ _)).below hb | skip); (first | replace HO := (HO.below (up1 _ _)).below hb | skip); replace T := up (T.alloc T.size _) hb (T.alloc T.size _).size)); (first | (have xN : w3.cell? ⟨_, 0, none⟩ = some (.map none) := HN.cell 0; have yN : w3.cell? ⟨_, 1, none⟩ = some (.pointer none) := HN.cell 1; have fN := HN.thaw 0; have gN := HN.thaw 1; have lN := HN.lt) | skip); clear hb))
    all_goals go_wp2_with fail
    all_goals go_meet
    all_goals first
      | with_reducible exact CpyS.mk1 T HM HO lM lT
      | with_reducible exact CpyS.mk2 T HM HO lM lT HN hN
  case rest =>
    go_wp2
    go_ret
    exact ⟨_, rfl, hcut⟩
end
end Go.Proofs.Ytcpienpkpodfmaa
