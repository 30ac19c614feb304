/- A tree's copy, in memory of its own: Copy of layer 8, the map's clone, the copy of a tree of ids. No condition. -/
import Derived.Test.YtcpienpkpodfmaaAN
namespace Go.Proofs.Ytcpienpkpodfmaa
open Go.RowKit Go.Shelf Go.Maps
set_option linter.unusedVariables false
/-- A tree's own block, made since w. -/
def CopS (w : World) (n : Int) (t : Tr) (v : Value) (X : World) : Prop := ∃ (B' : Nat) (p' : Pt), v = .pointer (some ⟨B', 0, none⟩) ∧ w.heap.size ≤ B' ∧ Box X B' (tree p' n) 87 ∧ Tre X p' t ∧ Below w.heap.size w X
theorem CopS.mk1 {w X : World} {n : Int} {t : Tr} {p' : Pt} (T : Below w.heap.size w X) (HT : Tre X p' t) : CopS w n t (.pointer (some ⟨X.heap.size, 0, none⟩)) (X.alloc (.cells #[.func (.func 26) #[] #[], .func (.func 28) #[] #[], .pointer p', .int .i64 n] 87)) :=
  ⟨_, p', rfl, T.size, Box.new _ _ _, HT.below (up1 _ _), T.alloc T.size _⟩
theorem CopS.mk2 {w X : World} {n : Int} {t : Tr} {p' : Pt} {M : Nat} {z0 z1 z2 z3 : Value} (T : Below w.heap.size w X) (HT : Tre X p' t) (HN : Box X M #[z0, z1, z2, z3] 87) (hM : w.heap.size ≤ M) :
    CopS w n t (.pointer (some ⟨M, 0, none⟩)) ((((X.setCell ⟨M, 0, none⟩ (.func (.func 26) #[] #[])).setCell ⟨M, 1, none⟩ (.func (.func 28) #[] #[])).setCell ⟨M, 2, none⟩ (.pointer p')).setCell ⟨M, 3, none⟩ (.int .i64 n)) := by
  have b1 := HN.set 0 (.func (.func 26) #[] #[])
  have b2 := b1.set 1 (.func (.func 28) #[] #[])
  have b3 := b2.set 2 (.pointer p')
  refine ⟨M, p', rfl, hM, b3.set 3 (.int .i64 n), ?_, (((T.setCell (p := ⟨M, 0, none⟩) hM _).setCell (p := ⟨M, 1, none⟩) hM _).setCell (p := ⟨M, 2, none⟩) hM _).setCell (p := ⟨M, 3, none⟩) hM _⟩
  exact (((HT.but (But.set M X 0 _) HN (by decide)).but (But.set M _ 1 _) b1 (by decide)).but (But.set M _ 2 _) b2 (by decide)).but (But.set M _ 3 _) b3 (by decide)
set_option maxRecDepth 100000 in
set_option maxHeartbeats 2000000 in
theorem tcopy_any (B : Nat) (p : Pt) (n : Int) (t : Tr) (w : World) (h1 : Box w B (tree p n) 87) (h2 : Tre w p t) :
    Calls Try.prog 30 #[.pointer (some ⟨B, 0, none⟩)] w fun e w' => ∃ v, e = .returned v ∧ CopS w n t v w' := by
  have hM := made_any B p n w h1
  go_enter Try.func30, Try.ntmps30
  go_upto_region 3 with (go_at_call 51; (with_reducible refine hM.mono ?_); rintro e w1 ⟨rfl, rfl⟩)
  go_cut [2] (fun s2 wx => CopS w n t s2 wx)
  case first =>
    have hS : ∀ w', Below w.heap.size w w' → TrC w' B p n := fun w' h => trC (h1.below h)
    have cT : ∀ w1, Below w.heap.size w w1 → Calls Try.prog 52 #[.pointer p] w1 fun e w' => ∃ p' : Pt, e = .returned (.pointer p') ∧ Tre w' p' t ∧ Below w1.heap.size w1 w' := fun w1 hb =>
      (copied_any t p w1 (h2.below hb)).mono fun e w' ⟨p', x1, x2, x3⟩ => ⟨p', x1, x2.tre, x3⟩
    have T := Below.refl w.heap.size w
    have hS0 := hS w T
    obtain ⟨k0, k1, k2, k3⟩ := id hS0
    clear hM h1 h2
    go_region_held3 (fun w' => TrC w' B p n)
      (first | with_reducible exact hS _ T | with_reducible exact hS _ T.drew | exact hS _ (T.alloc T.size _) | exact hS _ (T.alloc T.size _).drew | exact hS _ ((((T.setCell (by exact hN) _).setCell (by exact hN) _).setCell (by exact hN) _).setCell (by exact hN) _) | exact hS _ (((((T.alloc T.size _).setCell (by exact T.size) _).setCell (by exact T.size) _).setCell (by exact T.size) _).setCell (by exact T.size) _))
      (first
        | (go_at_call 52; (with_reducible refine (cT _ (by first | exact T | exact T.drew | exact T.alloc T.size _ | exact (T.alloc T.size _).drew | exact T.drew.alloc T.drew.size _)).mono ?_); rintro e w2 ⟨p', rfl, HT, hb⟩; (first | replace hb := undrew hb | replace hb := undrewN hb | skip); (first | (replace T := up T hb T.size) | (have HN := (Box.new _ 87 _).below hb; have hN := T.size; replace T := up (T.alloc T.size _) hb (T.alloc T.size _).size; have xN : w2.cell? ⟨w.heap.size, 0, none⟩ = some .nilFunc := HN.cell 0; have yN : w2.cell? ⟨w.heap.size, 1, none⟩ = some .nilFunc := HN.cell 1; have uN : w2.cell? ⟨w.heap.size, 2, none⟩ = some (.pointer none) := HN.cell 2; have vN : w2.cell? ⟨w.heap.size, 3, none⟩ = some (.int .i64 0) := HN.cell 3; have fN := HN.thaw 0; have gN := HN.thaw 1; have f2N := HN.thaw 2; have g2N := HN.thaw 3; have lN := HN.lt)); clear hb))
    all_goals go_wp2_with fail
    all_goals go_meet
    all_goals first
      | with_reducible exact CopS.mk1 T HT
      | with_reducible exact CopS.mk2 T HT HN hN
  case rest =>
    go_wp2
    go_ret
    exact ⟨_, rfl, hcut⟩
set_option maxRecDepth 100000 in
set_option maxHeartbeats 2000000 in
theorem mclone_any {w : World} {b nn : Nat} {F : Int → Option Int} (h : MapU w b nn F) :
    Calls Try.prog 29 #[.map (some b)] w fun e w' => ∃ b' : Nat, e = .returned (.map (some b')) ∧ w.heap.size ≤ b' ∧ MapU w' b' nn F ∧ Below w.heap.size w w' := by
  obtain ⟨D, ⟨es, clock, hb, F', hs, hD⟩, h2⟩ := h
  have hq := fun w => run_eql_map_nil_sl (P := Try.prog) w 36 _ _ (some b) Try.underlying36
  have hB : Below w.heap.size w (w.alloc (.map es clock)) := (Below.refl _ w).alloc (Nat.le_refl _) _
  go_enter Try.func29, Try.ntmps29
  go_wp2
  rw [run_callFunc_extern Try.func50 (by kernel_rfl) (by kernel_rfl) (by kernel_rfl) (e := Extern.MapsClone.clone) (by kernel_rfl), run_maps_clone_sl w 36 hb]
  simp only [Result.andThen]
  rw [Oper.upon_value]
  go_wp2
  rw [run_typeAssert_map_sl _ 36 20 _ _ _ Try.underlying36]
  simp only [Result.andThen]
  rw [Oper.upon_value]
  go_wp2
  go_ret
  exact ⟨w.heap.size, rfl, Nat.le_refl _, ⟨D, ⟨es, clock, (MapKept.heap_alloc w _).1, F', hs, hD⟩, h2⟩, hB⟩
end Go.Proofs.Ytcpienpkpodfmaa
