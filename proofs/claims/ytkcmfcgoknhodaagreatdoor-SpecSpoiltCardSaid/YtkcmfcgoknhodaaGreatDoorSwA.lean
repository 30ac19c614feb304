/- The chapter's examples, as the laws ask them. Condition: the library's tables and errors are laid. -/
import Derived.Test.YtkcmfcgoknhodaaGreatDoorSpQ
import Derived.Test.YtkcmfcgoknhodaaGreatDoorSpN
import Derived.Test.YtkcmfcgoknhodaaGreatDoorSpW
import Derived.Test.YtkcmfcgoknhodaaGreatDoorSrt12
import Derived.Deep.CutRange
namespace Go.Proofs.YtkcmfcgoknhodaaGreatDoor
open Go.RowKit Go.Lib W
set_option linter.unusedVariables false
theorem sps2 {B : Nat} {W w w' : World} (h : Below B W w) (k : Below w.heap.size w w') (hB : B ≤ w.heap.size) : Below B W w' := h.trans (k.mono hB)
theorem MayD (p : Sp) (hp : p.ok) (w : World) : Calls Tryz.prog 10 #[spW p] w fun e w' => e = .returned (.int .i64 (mayN p)) ∧ Below w.heap.size w w' := May_any 12 sort12 (by omega) p hp w
def exS : Sp := ⟨5, 2, true, ⟨4, 10, 1⟩, ⟨0, 0, 3⟩, ⟨0, 0, 0⟩, 10, 1000⟩
def exN : Sp := ⟨5, 2, true, ⟨0, 0, 0⟩, ⟨0, 0, 0⟩, ⟨0, 0, 0⟩, 10, 1000⟩
def exO : Sp := ⟨5, 2, true, ⟨4, 10, 1⟩, ⟨4, 10, 0⟩, ⟨0, 0, 0⟩, 10, 1000⟩
def exR : Sp := ⟨5, 2, true, ⟨4, 10, 1⟩, ⟨4, 0, 3⟩, ⟨0, 0, 0⟩, 10, 1000⟩
theorem i64_of (n : Nat) (h : n < 1000000) : I64 (n : Int) := ⟨by omega, by omega⟩
theorem word_of' (n : Nat) (h : n < 1000000) : Word (n : Int) := ⟨by omega, by omega⟩
theorem exS_ok : exS.ok := ⟨i64_of 5 (by omega), i64_of 2 (by omega), ⟨word_of' 4 (by omega), word_of' 10 (by omega), word_of' 1 (by omega)⟩, ⟨word_of' 0 (by omega), word_of' 0 (by omega), word_of' 3 (by omega)⟩, Cw.zero_ok, i64_of 10 (by omega), i64_of 1000 (by omega)⟩
theorem exN_ok : exN.ok := ⟨i64_of 5 (by omega), i64_of 2 (by omega), Cw.zero_ok, Cw.zero_ok, Cw.zero_ok, i64_of 10 (by omega), i64_of 1000 (by omega)⟩
theorem exO_ok : exO.ok := ⟨i64_of 5 (by omega), i64_of 2 (by omega), ⟨word_of' 4 (by omega), word_of' 10 (by omega), word_of' 1 (by omega)⟩, ⟨word_of' 4 (by omega), word_of' 10 (by omega), word_of' 0 (by omega)⟩, Cw.zero_ok, i64_of 10 (by omega), i64_of 1000 (by omega)⟩
theorem exR_ok : exR.ok := ⟨i64_of 5 (by omega), i64_of 2 (by omega), ⟨word_of' 4 (by omega), word_of' 10 (by omega), word_of' 1 (by omega)⟩, ⟨word_of' 4 (by omega), word_of' 0 (by omega), word_of' 3 (by omega)⟩, Cw.zero_ok, i64_of 10 (by omega), i64_of 1000 (by omega)⟩
theorem exS_good : exS.good := ⟨by decide, by decide, by decide, by decide⟩
theorem exS_txt : txt exS = [108, 101, 97, 102, 32, 53, 32, 50, 32, 52, 47, 49, 48, 47, 49, 32, 48, 47, 48, 47, 51, 32, 48, 47, 48, 47, 48, 32, 49, 48, 32, 49, 48, 48, 48] := by
  simp [txt, wordsT, exS, wordT, partsT, gl, firstT, Lib.decDigits]
theorem exS_may : mayN exS = 0 := by
  simp [mayN, exS, idB, wi, curB, mayC, mayB, furB, hasC, lasB, bouB]
theorem exN_may : mayN exN = 130 := by
  simp [mayN, exN, idB, wi, curB, mayC, mayB, furB, hasC]
theorem exO_may : mayN exO = 130 := by
  simp [mayN, exO, idB, wi, curB, mayC, mayB, furB, hasC, lasB]
theorem exR_may : mayN exR = 30 := by
  simp [mayN, exR, idB, wi, curB, mayC, mayB]
theorem exS_kind : kindN exS = 3 := by simp [kindN, exS, hasC]
theorem exN_kind : kindN exN = 0 := by simp [kindN, exN, hasC]
theorem Bl.ne14 {W : World} {C B : Nat} {vs : Array Value} {t : TypeId} (h : Bl W C vs t) (hne : C ≠ B) (y0 y1 y2 y3 y4 y5 y6 y7 y8 y9 y10 y11 y12 y13 : Value) : Bl ((((((((((((((W.setCell ⟨B, 0, none⟩ y0).setCell ⟨B, 1, none⟩ y1).setCell ⟨B, 2, none⟩ y2).setCell ⟨B, 3, none⟩ y3).setCell ⟨B, 4, none⟩ y4).setCell ⟨B, 5, none⟩ y5).setCell ⟨B, 6, none⟩ y6).setCell ⟨B, 7, none⟩ y7).setCell ⟨B, 8, none⟩ y8).setCell ⟨B, 9, none⟩ y9).setCell ⟨B, 10, none⟩ y10).setCell ⟨B, 11, none⟩ y11).setCell ⟨B, 12, none⟩ y12).setCell ⟨B, 13, none⟩ y13) C vs t :=
  Bl.setNe (Bl.setNe (Bl.setNe (Bl.setNe (Bl.setNe (Bl.setNe (Bl.setNe (Bl.setNe (Bl.setNe (Bl.setNe (Bl.setNe (Bl.setNe (Bl.setNe (Bl.setNe h hne y0) hne y1) hne y2) hne y3) hne y4) hne y5) hne y6) hne y7) hne y8) hne y9) hne y10) hne y11) hne y12) hne y13
set_option maxHeartbeats 8000000 in
set_option maxRecDepth 100000 in
theorem awake_any (w : World) (hl : Lw w) :
    Calls Tryz.prog 7 #[] w fun e w' => e = .returned (.bool true) ∧ Below w.heap.size w w' := by
  have hT : ∀ w, Lw w → Calls Tryz.prog 8 #[.agg #[.int .i64 5, .int .i64 2, .bool true, .int .u64 4, .int .u64 10, .int .u64 1, .int .u64 0, .int .u64 0, .int .u64 3, .int .u64 0, .int .u64 0, .int .u64 0, .int .i64 10, .int .i64 1000]] w fun e w' => e = .returned (.tuple #[.string ⟨#[108, 101, 97, 102, 32, 53, 32, 50, 32, 52, 47, 49, 48, 47, 49, 32, 48, 47, 48, 47, 51, 32, 48, 47, 48, 47, 48, 32, 49, 48, 32, 49, 48, 48, 48]⟩, .int .i64 0]) ∧ Below w.heap.size w w' := fun w hl => by
    have h := Text_good exS exS_ok exS_good w hl
    rw [exS_txt] at h
    exact h
  have hP : ∀ w, Lw w → Calls Tryz.prog 9 #[.string ⟨#[108, 101, 97, 102, 32, 53, 32, 50, 32, 52, 47, 49, 48, 47, 49, 32, 48, 47, 48, 47, 51, 32, 48, 47, 48, 47, 48, 32, 49, 48, 32, 49, 48, 48, 48]⟩] w fun e w' => e = .returned (.tuple #[.agg #[.int .i64 5, .int .i64 2, .bool true, .int .u64 4, .int .u64 10, .int .u64 1, .int .u64 0, .int .u64 0, .int .u64 3, .int .u64 0, .int .u64 0, .int .u64 0, .int .i64 10, .int .i64 1000], .int .i64 0]) ∧ Below w.heap.size w w' := fun w hl => by
    obtain ⟨r, e, hr, h⟩ := Parse_any ⟨#[108, 101, 97, 102, 32, 53, 32, 50, 32, 52, 47, 49, 48, 47, 49, 32, 48, 47, 48, 47, 51, 32, 48, 47, 48, 47, 48, 32, 49, 48, 32, 49, 48, 48, 48]⟩ (by decide)
    obtain ⟨rfl, rfl⟩ := IsS.of_txt exS_ok exS_good (by rw [exS_txt]; exact hr)
    exact h w hl
  have hW : ∀ w, Calls Tryz.prog 15 #[.agg #[.int .i64 5, .int .i64 2, .bool true, .int .u64 4, .int .u64 10, .int .u64 1, .int .u64 0, .int .u64 0, .int .u64 3, .int .u64 0, .int .u64 0, .int .u64 0, .int .i64 10, .int .i64 1000], .agg #[.int .i64 0, .int .i64 0, .bool false, .int .u64 0, .int .u64 0, .int .u64 0, .int .u64 0, .int .u64 0, .int .u64 0, .int .u64 0, .int .u64 0, .int .u64 0, .int .i64 0, .int .i64 0]] w fun e w' => e = .returned (.agg #[.int .i64 5, .int .i64 2, .bool true, .int .u64 0, .int .u64 0, .int .u64 0, .int .u64 0, .int .u64 0, .int .u64 0, .int .u64 0, .int .u64 0, .int .u64 0, .int .i64 10, .int .i64 1000]) ∧ Below w.heap.size w w' := fun w => With_any exS Sp.zero w
  have m0 : ∀ w, Calls Tryz.prog 10 #[.agg #[.int .i64 5, .int .i64 2, .bool true, .int .u64 4, .int .u64 10, .int .u64 1, .int .u64 0, .int .u64 0, .int .u64 3, .int .u64 0, .int .u64 0, .int .u64 0, .int .i64 10, .int .i64 1000]] w fun e w' => e = .returned (.int .i64 0) ∧ Below w.heap.size w w' := fun w => by
    have h := MayD exS exS_ok w
    rw [exS_may] at h
    exact h
  have m1 : ∀ w, Calls Tryz.prog 10 #[.agg #[.int .i64 5, .int .i64 2, .bool true, .int .u64 0, .int .u64 0, .int .u64 0, .int .u64 0, .int .u64 0, .int .u64 0, .int .u64 0, .int .u64 0, .int .u64 0, .int .i64 10, .int .i64 1000]] w fun e w' => e = .returned (.int .i64 130) ∧ Below w.heap.size w w' := fun w => by
    have h := MayD exN exN_ok w
    rw [exN_may] at h
    exact h
  have m2 : ∀ w, Calls Tryz.prog 10 #[.agg #[.int .i64 5, .int .i64 2, .bool true, .int .u64 4, .int .u64 10, .int .u64 1, .int .u64 4, .int .u64 10, .int .u64 0, .int .u64 0, .int .u64 0, .int .u64 0, .int .i64 10, .int .i64 1000]] w fun e w' => e = .returned (.int .i64 130) ∧ Below w.heap.size w w' := fun w => by
    have h := MayD exO exO_ok w
    rw [exO_may] at h
    exact h
  have m3 : ∀ w, Calls Tryz.prog 10 #[.agg #[.int .i64 5, .int .i64 2, .bool true, .int .u64 4, .int .u64 10, .int .u64 1, .int .u64 4, .int .u64 0, .int .u64 3, .int .u64 0, .int .u64 0, .int .u64 0, .int .i64 10, .int .i64 1000]] w fun e w' => e = .returned (.int .i64 30) ∧ Below w.heap.size w w' := fun w => by
    have h := MayD exR exR_ok w
    rw [exR_may] at h
    exact h
  have k0 : ∀ w, Calls Tryz.prog 11 #[.agg #[.int .i64 5, .int .i64 2, .bool true, .int .u64 4, .int .u64 10, .int .u64 1, .int .u64 0, .int .u64 0, .int .u64 3, .int .u64 0, .int .u64 0, .int .u64 0, .int .i64 10, .int .i64 1000]] w fun e w' => e = .returned (.int .u8 3) ∧ Below w.heap.size w w' := fun w => by
    have h := Kind_any exS w
    rw [exS_kind] at h
    exact h
  have k1 : ∀ w, Calls Tryz.prog 11 #[.agg #[.int .i64 5, .int .i64 2, .bool true, .int .u64 0, .int .u64 0, .int .u64 0, .int .u64 0, .int .u64 0, .int .u64 0, .int .u64 0, .int .u64 0, .int .u64 0, .int .i64 10, .int .i64 1000]] w fun e w' => e = .returned (.int .u8 0) ∧ Below w.heap.size w w' := fun w => by
    have h := Kind_any exN w
    rw [exN_kind] at h
    exact h
  have B1 := Bl.new w 26 #[.int .i64 5, .int .i64 2, .bool true, .int .u64 4, .int .u64 10, .int .u64 1, .int .u64 0, .int .u64 0, .int .u64 3, .int .u64 0, .int .u64 0, .int .u64 0, .int .i64 10, .int .i64 1000]
  have T := up1 w (.cells #[.int .i64 5, .int .i64 2, .bool true, .int .u64 4, .int .u64 10, .int .u64 1, .int .u64 0, .int .u64 0, .int .u64 3, .int .u64 0, .int .u64 0, .int .u64 0, .int .i64 10, .int .i64 1000] 26)
  go_enter Tryz.func7, Tryz.ntmps7
  go_upto_region 5 with (first
    | (go_at_call 8; (with_reducible refine (hT _ (hl.below T)).mono ?_); rintro e v1 ⟨rfl, hb⟩; replace B1 := B1.below hb; replace T := sps T hb T.size; clear hb)
    | (go_at_call 9; (with_reducible refine (hP _ (hl.below T)).mono ?_); rintro e v2 ⟨rfl, hb⟩; replace B1 := B1.below hb; replace T := sps T hb T.size; clear hb; have B4 := Bl.new v2 26 #[.int .i64 5, .int .i64 2, .bool true, .int .u64 4, .int .u64 10, .int .u64 1, .int .u64 0, .int .u64 0, .int .u64 3, .int .u64 0, .int .u64 0, .int .u64 0, .int .i64 10, .int .i64 1000]; replace B1 := B1.alloc (.cells #[.int .i64 5, .int .i64 2, .bool true, .int .u64 4, .int .u64 10, .int .u64 1, .int .u64 0, .int .u64 0, .int .u64 3, .int .u64 0, .int .u64 0, .int .u64 0, .int .i64 10, .int .i64 1000] 26); replace T := T.alloc T.size (.cells #[.int .i64 5, .int .i64 2, .bool true, .int .u64 4, .int .u64 10, .int .u64 1, .int .u64 0, .int .u64 0, .int .u64 3, .int .u64 0, .int .u64 0, .int .u64 0, .int .i64 10, .int .i64 1000] 26); obtain ⟨c0, c1, c2, c3, c4, c5, c6, c7, c8, c9, c10, c11, c12, c13⟩ := id B1.at14)
    | (go_at_call 15; (with_reducible refine (hW _).mono ?_); rintro e v3 ⟨rfl, hb⟩; replace B1 := B1.below hb; replace B4 := B4.below hb; replace T := sps T hb T.size; clear hb; have B6 := Bl.new v3 26 #[.int .i64 5, .int .i64 2, .bool true, .int .u64 0, .int .u64 0, .int .u64 0, .int .u64 0, .int .u64 0, .int .u64 0, .int .u64 0, .int .u64 0, .int .u64 0, .int .i64 10, .int .i64 1000]; replace B1 := B1.alloc (.cells #[.int .i64 5, .int .i64 2, .bool true, .int .u64 0, .int .u64 0, .int .u64 0, .int .u64 0, .int .u64 0, .int .u64 0, .int .u64 0, .int .u64 0, .int .u64 0, .int .i64 10, .int .i64 1000] 26); replace B4 := B4.alloc (.cells #[.int .i64 5, .int .i64 2, .bool true, .int .u64 0, .int .u64 0, .int .u64 0, .int .u64 0, .int .u64 0, .int .u64 0, .int .u64 0, .int .u64 0, .int .u64 0, .int .i64 10, .int .i64 1000] 26); replace T := T.alloc T.size (.cells #[.int .i64 5, .int .i64 2, .bool true, .int .u64 0, .int .u64 0, .int .u64 0, .int .u64 0, .int .u64 0, .int .u64 0, .int .u64 0, .int .u64 0, .int .u64 0, .int .i64 10, .int .i64 1000] 26); clear c0 c1 c2 c3 c4 c5 c6 c7 c8 c9 c10 c11 c12 c13))
  generalize hW0 : v3.alloc (.cells #[.int .i64 5, .int .i64 2, .bool true, .int .u64 0, .int .u64 0, .int .u64 0, .int .u64 0, .int .u64 0, .int .u64 0, .int .u64 0, .int .u64 0, .int .u64 0, .int .i64 10, .int .i64 1000] 26) = V0 at B1 B4 B6 T ⊢
  clear hW0
  go_cut [7, 8] from 24 to 26 (fun s7 s8 wx => ∃ M N : Nat, s7 = .pointer (some ⟨M, 0, none⟩) ∧ s8 = .pointer (some ⟨N, 0, none⟩) ∧ M ≠ N ∧ w.heap.size ≠ M ∧ v2.heap.size ≠ M ∧ v3.heap.size ≠ M ∧ w.heap.size ≠ N ∧ v2.heap.size ≠ N ∧ v3.heap.size ≠ N ∧ Bl wx w.heap.size #[.int .i64 5, .int .i64 2, .bool true, .int .u64 4, .int .u64 10, .int .u64 1, .int .u64 0, .int .u64 0, .int .u64 3, .int .u64 0, .int .u64 0, .int .u64 0, .int .i64 10, .int .i64 1000] TSp ∧ Bl wx v2.heap.size #[.int .i64 5, .int .i64 2, .bool true, .int .u64 4, .int .u64 10, .int .u64 1, .int .u64 0, .int .u64 0, .int .u64 3, .int .u64 0, .int .u64 0, .int .u64 0, .int .i64 10, .int .i64 1000] TSp ∧ Bl wx v3.heap.size #[.int .i64 5, .int .i64 2, .bool true, .int .u64 0, .int .u64 0, .int .u64 0, .int .u64 0, .int .u64 0, .int .u64 0, .int .u64 0, .int .u64 0, .int .u64 0, .int .i64 10, .int .i64 1000] TSp ∧ Bl wx M #[.int .i64 5, .int .i64 2, .bool true, .int .u64 4, .int .u64 10, .int .u64 1, .int .u64 0, .int .u64 0, .int .u64 3, .int .u64 0, .int .u64 0, .int .u64 0, .int .i64 10, .int .i64 1000] TSp ∧ Bl wx N #[.int .i64 5, .int .i64 2, .bool true, .int .u64 4, .int .u64 10, .int .u64 1, .int .u64 0, .int .u64 0, .int .u64 3, .int .u64 0, .int .u64 0, .int .u64 0, .int .i64 10, .int .i64 1000] TSp ∧ w.heap.size ≤ M ∧ w.heap.size ≤ N ∧ Below w.heap.size w wx)
  case first =>
    refine wp_region_held_drew (S := fun w' => Bl w' w.heap.size #[.int .i64 5, .int .i64 2, .bool true, .int .u64 4, .int .u64 10, .int .u64 1, .int .u64 0, .int .u64 0, .int .u64 3, .int .u64 0, .int .u64 0, .int .u64 0, .int .i64 10, .int .i64 1000] TSp) (by kernel_rfl) B1.drew (fun hHeld => ?_)
    replace B1 := B1.drew
    replace B4 := B4.drew
    replace B6 := B6.drew
    replace T := T.drew
    generalize V0.drew = V0 at B1 B4 B6 T hHeld ⊢
    refine wpAnyH_take (i := 0) (v := ?_) (by simp only [List.getElem?_toArray, List.getElem?_cons_zero]; rfl) (by kernel_rfl) (by kernel_rfl) (by kernel_rfl) (by exact fun _ _ _ h => h) (Or.inl ⟨by rfl, ?_⟩) (by assumption) ?_
    rotate_left
    · (intro w hSw; obtain ⟨c0, c1, c2, c3, c4, c5, c6, c7, c8, c9, c10, c11, c12, c13⟩ := id hSw.at14; go_simp; (try with_reducible rfl))
    try simp only [Act.put, List.setIfInBounds_toArray, List.set_cons_zero, List.set_cons_succ]
    refine wpAnyH_take (i := 1) (v := ?_) (by simp only [List.getElem?_toArray, List.getElem?_cons_zero, List.getElem?_cons_succ]; rfl) (by kernel_rfl) (by kernel_rfl) (by kernel_rfl) (by exact fun _ _ _ h => h) (Or.inl ⟨by rfl, ?_⟩) (by assumption) ?_
    rotate_left
    · (intro w hSw; obtain ⟨c0, c1, c2, c3, c4, c5, c6, c7, c8, c9, c10, c11, c12, c13⟩ := id hSw.at14; go_simp; (try with_reducible rfl))
    try simp only [Act.put, List.setIfInBounds_toArray, List.set_cons_zero, List.set_cons_succ]
    refine wpAnyH_ready (rs := [2, 3]) (by kernel_rfl) (by simp) ?_
    refine AllReadyH.cons (by simp only [List.getElem?_toArray, List.getElem?_cons_zero, List.getElem?_cons_succ]; rfl) (fun K hK => ?_) ?_
    · go_simp
      refine nameW (P := fun W' => Bl W' w.heap.size #[.int .i64 5, .int .i64 2, .bool true, .int .u64 4, .int .u64 10, .int .u64 1, .int .u64 0, .int .u64 0, .int .u64 3, .int .u64 0, .int .u64 0, .int .u64 0, .int .i64 10, .int .i64 1000] TSp ∧ Bl W' v2.heap.size #[.int .i64 5, .int .i64 2, .bool true, .int .u64 4, .int .u64 10, .int .u64 1, .int .u64 0, .int .u64 0, .int .u64 3, .int .u64 0, .int .u64 0, .int .u64 0, .int .i64 10, .int .i64 1000] TSp ∧ Bl W' v3.heap.size #[.int .i64 5, .int .i64 2, .bool true, .int .u64 0, .int .u64 0, .int .u64 0, .int .u64 0, .int .u64 0, .int .u64 0, .int .u64 0, .int .u64 0, .int .u64 0, .int .i64 10, .int .i64 1000] TSp ∧ Bl W' V0.heap.size #[.int .i64 0, .int .i64 0, .bool false, .int .u64 0, .int .u64 0, .int .u64 0, .int .u64 0, .int .u64 0, .int .u64 0, .int .u64 0, .int .u64 0, .int .u64 0, .int .i64 0, .int .i64 0] TSp ∧ Below w.heap.size w W') ⟨B1.alloc _, B4.alloc _, B6.alloc _, Bl.new _ _ _, T.alloc T.size _⟩ (fun V02 hV => ?_)
      have nB1B7 : w.heap.size ≠ V0.heap.size := by have := B1.lt; omega
      have nB4B7 : v2.heap.size ≠ V0.heap.size := by have := B4.lt; omega
      have nB6B7 : v3.heap.size ≠ V0.heap.size := by have := B6.lt; omega
      have lB7 : w.heap.size ≤ V0.heap.size := T.size
      clear B1 B4 B6 T
      obtain ⟨B1, B4, B6, B7, T⟩ := hV
      refine hK.out _ _ B1 (fun hHeld => ?_)
      clear hK K
      try simp only [Act.put, List.setIfInBounds_toArray, List.set_cons_zero, List.set_cons_succ]
      refine wpAnyH_ready (rs := [3]) (by kernel_rfl) (by simp) ?_
      refine AllReadyH.cons (by simp only [List.getElem?_toArray, List.getElem?_cons_zero, List.getElem?_cons_succ]; rfl) (fun K hK => ?_) AllReadyH.nil
      go_simp
      refine nameW (P := fun W' => Bl W' w.heap.size #[.int .i64 5, .int .i64 2, .bool true, .int .u64 4, .int .u64 10, .int .u64 1, .int .u64 0, .int .u64 0, .int .u64 3, .int .u64 0, .int .u64 0, .int .u64 0, .int .i64 10, .int .i64 1000] TSp ∧ Bl W' v2.heap.size #[.int .i64 5, .int .i64 2, .bool true, .int .u64 4, .int .u64 10, .int .u64 1, .int .u64 0, .int .u64 0, .int .u64 3, .int .u64 0, .int .u64 0, .int .u64 0, .int .i64 10, .int .i64 1000] TSp ∧ Bl W' v3.heap.size #[.int .i64 5, .int .i64 2, .bool true, .int .u64 0, .int .u64 0, .int .u64 0, .int .u64 0, .int .u64 0, .int .u64 0, .int .u64 0, .int .u64 0, .int .u64 0, .int .i64 10, .int .i64 1000] TSp ∧ Bl W' V0.heap.size #[.int .i64 0, .int .i64 0, .bool false, .int .u64 0, .int .u64 0, .int .u64 0, .int .u64 0, .int .u64 0, .int .u64 0, .int .u64 0, .int .u64 0, .int .u64 0, .int .i64 0, .int .i64 0] TSp ∧ Bl W' V02.heap.size #[.int .i64 0, .int .i64 0, .bool false, .int .u64 0, .int .u64 0, .int .u64 0, .int .u64 0, .int .u64 0, .int .u64 0, .int .u64 0, .int .u64 0, .int .u64 0, .int .i64 0, .int .i64 0] TSp ∧ Below w.heap.size w W') ⟨B1.alloc _, B4.alloc _, B6.alloc _, B7.alloc _, Bl.new _ _ _, T.alloc T.size _⟩ (fun V13 hV => ?_)
      have nB1B8 : w.heap.size ≠ V02.heap.size := by have := B1.lt; omega
      have nB4B8 : v2.heap.size ≠ V02.heap.size := by have := B4.lt; omega
      have nB6B8 : v3.heap.size ≠ V02.heap.size := by have := B6.lt; omega
      have nB7B8 : V0.heap.size ≠ V02.heap.size := by have := B7.lt; omega
      have lB8 : w.heap.size ≤ V02.heap.size := T.size
      clear B1 B4 B6 B7 T
      obtain ⟨B1, B4, B6, B7, B8, T⟩ := hV
      refine hK.out _ _ B1 (fun hHeld => ?_)
      clear hK K
      try simp only [Act.put, List.setIfInBounds_toArray, List.set_cons_zero, List.set_cons_succ]
      refine wpAnyH_ready (rs := [4]) (by kernel_rfl) (by simp) ?_
      refine AllReadyH.cons (by simp only [List.getElem?_toArray, List.getElem?_cons_zero, List.getElem?_cons_succ]; rfl) (fun K hK => ?_) AllReadyH.nil
      obtain ⟨n0, n1, n2, n3, n4, n5, n6, n7, n8, n9, n10, n11, n12, n13⟩ := id B7.at14
      obtain ⟨t0, t1, t2, t3, t4, t5, t6, t7, t8, t9, t10, t11, t12, t13⟩ := id B7.thaw14
      go_simp
      refine nameW (P := fun W' => Bl W' w.heap.size #[.int .i64 5, .int .i64 2, .bool true, .int .u64 4, .int .u64 10, .int .u64 1, .int .u64 0, .int .u64 0, .int .u64 3, .int .u64 0, .int .u64 0, .int .u64 0, .int .i64 10, .int .i64 1000] TSp ∧ Bl W' v2.heap.size #[.int .i64 5, .int .i64 2, .bool true, .int .u64 4, .int .u64 10, .int .u64 1, .int .u64 0, .int .u64 0, .int .u64 3, .int .u64 0, .int .u64 0, .int .u64 0, .int .i64 10, .int .i64 1000] TSp ∧ Bl W' v3.heap.size #[.int .i64 5, .int .i64 2, .bool true, .int .u64 0, .int .u64 0, .int .u64 0, .int .u64 0, .int .u64 0, .int .u64 0, .int .u64 0, .int .u64 0, .int .u64 0, .int .i64 10, .int .i64 1000] TSp ∧ Bl W' V0.heap.size #[.int .i64 5, .int .i64 2, .bool true, .int .u64 4, .int .u64 10, .int .u64 1, .int .u64 0, .int .u64 0, .int .u64 3, .int .u64 0, .int .u64 0, .int .u64 0, .int .i64 10, .int .i64 1000] TSp ∧ Bl W' V02.heap.size #[.int .i64 0, .int .i64 0, .bool false, .int .u64 0, .int .u64 0, .int .u64 0, .int .u64 0, .int .u64 0, .int .u64 0, .int .u64 0, .int .u64 0, .int .u64 0, .int .i64 0, .int .i64 0] TSp ∧ Below w.heap.size w W') ⟨Bl.ne14 B1 nB1B7 _ _ _ _ _ _ _ _ _ _ _ _ _ _, Bl.ne14 B4 nB4B7 _ _ _ _ _ _ _ _ _ _ _ _ _ _, Bl.ne14 B6 nB6B7 _ _ _ _ _ _ _ _ _ _ _ _ _ _, Bl.set14 B7 _ _ _ _ _ _ _ _ _ _ _ _ _ _, Bl.ne14 B8 nB7B8.symm _ _ _ _ _ _ _ _ _ _ _ _ _ _, below14 T lB7 _ _ _ _ _ _ _ _ _ _ _ _ _ _⟩ (fun U4 hV => ?_)
      clear B1 B4 B6 B7 B8 T n0 n1 n2 n3 n4 n5 n6 n7 n8 n9 n10 n11 n12 n13 t0 t1 t2 t3 t4 t5 t6 t7 t8 t9 t10 t11 t12 t13
      obtain ⟨B1, B4, B6, B7, B8, T⟩ := hV
      refine hK.out _ _ B1 (fun hHeld => ?_)
      clear hK K
      try simp only [Act.put, List.setIfInBounds_toArray, List.set_cons_zero, List.set_cons_succ]
      refine wpAnyH_ready (rs := [5]) (by kernel_rfl) (by simp) ?_
      refine AllReadyH.cons (by simp only [List.getElem?_toArray, List.getElem?_cons_zero, List.getElem?_cons_succ]; rfl) (fun K hK => ?_) AllReadyH.nil
      obtain ⟨n0, n1, n2, n3, n4, n5, n6, n7, n8, n9, n10, n11, n12, n13⟩ := id B8.at14
      obtain ⟨t0, t1, t2, t3, t4, t5, t6, t7, t8, t9, t10, t11, t12, t13⟩ := id B8.thaw14
      go_simp
      refine nameW (P := fun W' => Bl W' w.heap.size #[.int .i64 5, .int .i64 2, .bool true, .int .u64 4, .int .u64 10, .int .u64 1, .int .u64 0, .int .u64 0, .int .u64 3, .int .u64 0, .int .u64 0, .int .u64 0, .int .i64 10, .int .i64 1000] TSp ∧ Bl W' v2.heap.size #[.int .i64 5, .int .i64 2, .bool true, .int .u64 4, .int .u64 10, .int .u64 1, .int .u64 0, .int .u64 0, .int .u64 3, .int .u64 0, .int .u64 0, .int .u64 0, .int .i64 10, .int .i64 1000] TSp ∧ Bl W' v3.heap.size #[.int .i64 5, .int .i64 2, .bool true, .int .u64 0, .int .u64 0, .int .u64 0, .int .u64 0, .int .u64 0, .int .u64 0, .int .u64 0, .int .u64 0, .int .u64 0, .int .i64 10, .int .i64 1000] TSp ∧ Bl W' V0.heap.size #[.int .i64 5, .int .i64 2, .bool true, .int .u64 4, .int .u64 10, .int .u64 1, .int .u64 0, .int .u64 0, .int .u64 3, .int .u64 0, .int .u64 0, .int .u64 0, .int .i64 10, .int .i64 1000] TSp ∧ Bl W' V02.heap.size #[.int .i64 5, .int .i64 2, .bool true, .int .u64 4, .int .u64 10, .int .u64 1, .int .u64 0, .int .u64 0, .int .u64 3, .int .u64 0, .int .u64 0, .int .u64 0, .int .i64 10, .int .i64 1000] TSp ∧ Below w.heap.size w W') ⟨Bl.ne14 B1 nB1B8 _ _ _ _ _ _ _ _ _ _ _ _ _ _, Bl.ne14 B4 nB4B8 _ _ _ _ _ _ _ _ _ _ _ _ _ _, Bl.ne14 B6 nB6B8 _ _ _ _ _ _ _ _ _ _ _ _ _ _, Bl.ne14 B7 nB7B8 _ _ _ _ _ _ _ _ _ _ _ _ _ _, Bl.set14 B8 _ _ _ _ _ _ _ _ _ _ _ _ _ _, below14 T lB8 _ _ _ _ _ _ _ _ _ _ _ _ _ _⟩ (fun U5 hV => ?_)
      clear B1 B4 B6 B7 B8 T n0 n1 n2 n3 n4 n5 n6 n7 n8 n9 n10 n11 n12 n13 t0 t1 t2 t3 t4 t5 t6 t7 t8 t9 t10 t11 t12 t13
      obtain ⟨B1, B4, B6, B7, B8, T⟩ := hV
      refine hK.out _ _ B1 (fun hHeld => ?_)
      clear hK K
      try simp only [Act.put, List.setIfInBounds_toArray, List.set_cons_zero, List.set_cons_succ]
      refine wpAnyH_done (by kernel_rfl) ?_ _
      go_wp2_with fail
      go_meet
      exact ⟨_, _, rfl, rfl, nB7B8, nB1B7, nB4B7, nB6B7, nB1B8, nB4B8, nB6B8, B1, B4, B6, B7, B8, lB7, lB8, T⟩
    refine AllReadyH.cons (by simp only [List.getElem?_toArray, List.getElem?_cons_zero, List.getElem?_cons_succ]; rfl) (fun K hK => ?_) AllReadyH.nil
    go_simp
    refine nameW (P := fun W' => Bl W' w.heap.size #[.int .i64 5, .int .i64 2, .bool true, .int .u64 4, .int .u64 10, .int .u64 1, .int .u64 0, .int .u64 0, .int .u64 3, .int .u64 0, .int .u64 0, .int .u64 0, .int .i64 10, .int .i64 1000] TSp ∧ Bl W' v2.heap.size #[.int .i64 5, .int .i64 2, .bool true, .int .u64 4, .int .u64 10, .int .u64 1, .int .u64 0, .int .u64 0, .int .u64 3, .int .u64 0, .int .u64 0, .int .u64 0, .int .i64 10, .int .i64 1000] TSp ∧ Bl W' v3.heap.size #[.int .i64 5, .int .i64 2, .bool true, .int .u64 0, .int .u64 0, .int .u64 0, .int .u64 0, .int .u64 0, .int .u64 0, .int .u64 0, .int .u64 0, .int .u64 0, .int .i64 10, .int .i64 1000] TSp ∧ Bl W' V0.heap.size #[.int .i64 0, .int .i64 0, .bool false, .int .u64 0, .int .u64 0, .int .u64 0, .int .u64 0, .int .u64 0, .int .u64 0, .int .u64 0, .int .u64 0, .int .u64 0, .int .i64 0, .int .i64 0] TSp ∧ Below w.heap.size w W') ⟨B1.alloc _, B4.alloc _, B6.alloc _, Bl.new _ _ _, T.alloc T.size _⟩ (fun V03 hV => ?_)
    have nB1B8 : w.heap.size ≠ V0.heap.size := by have := B1.lt; omega
    have nB4B8 : v2.heap.size ≠ V0.heap.size := by have := B4.lt; omega
    have nB6B8 : v3.heap.size ≠ V0.heap.size := by have := B6.lt; omega
    have lB8 : w.heap.size ≤ V0.heap.size := T.size
    clear B1 B4 B6 T
    obtain ⟨B1, B4, B6, B8, T⟩ := hV
    refine hK.out _ _ B1 (fun hHeld => ?_)
    clear hK K
    try simp only [Act.put, List.setIfInBounds_toArray, List.set_cons_zero, List.set_cons_succ]
    refine wpAnyH_ready (rs := [2]) (by kernel_rfl) (by simp) ?_
    refine AllReadyH.cons (by simp only [List.getElem?_toArray, List.getElem?_cons_zero, List.getElem?_cons_succ]; rfl) (fun K hK => ?_) AllReadyH.nil
    go_simp
    refine nameW (P := fun W' => Bl W' w.heap.size #[.int .i64 5, .int .i64 2, .bool true, .int .u64 4, .int .u64 10, .int .u64 1, .int .u64 0, .int .u64 0, .int .u64 3, .int .u64 0, .int .u64 0, .int .u64 0, .int .i64 10, .int .i64 1000] TSp ∧ Bl W' v2.heap.size #[.int .i64 5, .int .i64 2, .bool true, .int .u64 4, .int .u64 10, .int .u64 1, .int .u64 0, .int .u64 0, .int .u64 3, .int .u64 0, .int .u64 0, .int .u64 0, .int .i64 10, .int .i64 1000] TSp ∧ Bl W' v3.heap.size #[.int .i64 5, .int .i64 2, .bool true, .int .u64 0, .int .u64 0, .int .u64 0, .int .u64 0, .int .u64 0, .int .u64 0, .int .u64 0, .int .u64 0, .int .u64 0, .int .i64 10, .int .i64 1000] TSp ∧ Bl W' V0.heap.size #[.int .i64 0, .int .i64 0, .bool false, .int .u64 0, .int .u64 0, .int .u64 0, .int .u64 0, .int .u64 0, .int .u64 0, .int .u64 0, .int .u64 0, .int .u64 0, .int .i64 0, .int .i64 0] TSp ∧ Bl W' V03.heap.size #[.int .i64 0, .int .i64 0, .bool false, .int .u64 0, .int .u64 0, .int .u64 0, .int .u64 0, .int .u64 0, .int .u64 0, .int .u64 0, .int .u64 0, .int .u64 0, .int .i64 0, .int .i64 0] TSp ∧ Below w.heap.size w W') ⟨B1.alloc _, B4.alloc _, B6.alloc _, B8.alloc _, Bl.new _ _ _, T.alloc T.size _⟩ (fun V12 hV => ?_)
    have nB1B7 : w.heap.size ≠ V03.heap.size := by have := B1.lt; omega
    have nB4B7 : v2.heap.size ≠ V03.heap.size := by have := B4.lt; omega
    have nB6B7 : v3.heap.size ≠ V03.heap.size := by have := B6.lt; omega
    have nB8B7 : V0.heap.size ≠ V03.heap.size := by have := B8.lt; omega
    have lB7 : w.heap.size ≤ V03.heap.size := T.size
    clear B1 B4 B6 B8 T
    obtain ⟨B1, B4, B6, B8, B7, T⟩ := hV
    refine hK.out _ _ B1 (fun hHeld => ?_)
    clear hK K
    try simp only [Act.put, List.setIfInBounds_toArray, List.set_cons_zero, List.set_cons_succ]
    refine wpAnyH_ready (rs := [4]) (by kernel_rfl) (by simp) ?_
    refine AllReadyH.cons (by simp only [List.getElem?_toArray, List.getElem?_cons_zero, List.getElem?_cons_succ]; rfl) (fun K hK => ?_) AllReadyH.nil
    obtain ⟨n0, n1, n2, n3, n4, n5, n6, n7, n8, n9, n10, n11, n12, n13⟩ := id B7.at14
    obtain ⟨t0, t1, t2, t3, t4, t5, t6, t7, t8, t9, t10, t11, t12, t13⟩ := id B7.thaw14
    go_simp
    refine nameW (P := fun W' => Bl W' w.heap.size #[.int .i64 5, .int .i64 2, .bool true, .int .u64 4, .int .u64 10, .int .u64 1, .int .u64 0, .int .u64 0, .int .u64 3, .int .u64 0, .int .u64 0, .int .u64 0, .int .i64 10, .int .i64 1000] TSp ∧ Bl W' v2.heap.size #[.int .i64 5, .int .i64 2, .bool true, .int .u64 4, .int .u64 10, .int .u64 1, .int .u64 0, .int .u64 0, .int .u64 3, .int .u64 0, .int .u64 0, .int .u64 0, .int .i64 10, .int .i64 1000] TSp ∧ Bl W' v3.heap.size #[.int .i64 5, .int .i64 2, .bool true, .int .u64 0, .int .u64 0, .int .u64 0, .int .u64 0, .int .u64 0, .int .u64 0, .int .u64 0, .int .u64 0, .int .u64 0, .int .i64 10, .int .i64 1000] TSp ∧ Bl W' V0.heap.size #[.int .i64 0, .int .i64 0, .bool false, .int .u64 0, .int .u64 0, .int .u64 0, .int .u64 0, .int .u64 0, .int .u64 0, .int .u64 0, .int .u64 0, .int .u64 0, .int .i64 0, .int .i64 0] TSp ∧ Bl W' V03.heap.size #[.int .i64 5, .int .i64 2, .bool true, .int .u64 4, .int .u64 10, .int .u64 1, .int .u64 0, .int .u64 0, .int .u64 3, .int .u64 0, .int .u64 0, .int .u64 0, .int .i64 10, .int .i64 1000] TSp ∧ Below w.heap.size w W') ⟨Bl.ne14 B1 nB1B7 _ _ _ _ _ _ _ _ _ _ _ _ _ _, Bl.ne14 B4 nB4B7 _ _ _ _ _ _ _ _ _ _ _ _ _ _, Bl.ne14 B6 nB6B7 _ _ _ _ _ _ _ _ _ _ _ _ _ _, Bl.ne14 B8 nB8B7 _ _ _ _ _ _ _ _ _ _ _ _ _ _, Bl.set14 B7 _ _ _ _ _ _ _ _ _ _ _ _ _ _, below14 T lB7 _ _ _ _ _ _ _ _ _ _ _ _ _ _⟩ (fun U4 hV => ?_)
    clear B1 B4 B6 B8 B7 T n0 n1 n2 n3 n4 n5 n6 n7 n8 n9 n10 n11 n12 n13 t0 t1 t2 t3 t4 t5 t6 t7 t8 t9 t10 t11 t12 t13
    obtain ⟨B1, B4, B6, B8, B7, T⟩ := hV
    refine hK.out _ _ B1 (fun hHeld => ?_)
    clear hK K
    try simp only [Act.put, List.setIfInBounds_toArray, List.set_cons_zero, List.set_cons_succ]
    refine wpAnyH_ready (rs := [5]) (by kernel_rfl) (by simp) ?_
    refine AllReadyH.cons (by simp only [List.getElem?_toArray, List.getElem?_cons_zero, List.getElem?_cons_succ]; rfl) (fun K hK => ?_) AllReadyH.nil
    obtain ⟨n0, n1, n2, n3, n4, n5, n6, n7, n8, n9, n10, n11, n12, n13⟩ := id B8.at14
    obtain ⟨t0, t1, t2, t3, t4, t5, t6, t7, t8, t9, t10, t11, t12, t13⟩ := id B8.thaw14
    go_simp
    refine nameW (P := fun W' => Bl W' w.heap.size #[.int .i64 5, .int .i64 2, .bool true, .int .u64 4, .int .u64 10, .int .u64 1, .int .u64 0, .int .u64 0, .int .u64 3, .int .u64 0, .int .u64 0, .int .u64 0, .int .i64 10, .int .i64 1000] TSp ∧ Bl W' v2.heap.size #[.int .i64 5, .int .i64 2, .bool true, .int .u64 4, .int .u64 10, .int .u64 1, .int .u64 0, .int .u64 0, .int .u64 3, .int .u64 0, .int .u64 0, .int .u64 0, .int .i64 10, .int .i64 1000] TSp ∧ Bl W' v3.heap.size #[.int .i64 5, .int .i64 2, .bool true, .int .u64 0, .int .u64 0, .int .u64 0, .int .u64 0, .int .u64 0, .int .u64 0, .int .u64 0, .int .u64 0, .int .u64 0, .int .i64 10, .int .i64 1000] TSp ∧ Bl W' V0.heap.size #[.int .i64 5, .int .i64 2, .bool true, .int .u64 4, .int .u64 10, .int .u64 1, .int .u64 0, .int .u64 0, .int .u64 3, .int .u64 0, .int .u64 0, .int .u64 0, .int .i64 10, .int .i64 1000] TSp ∧ Bl W' V03.heap.size #[.int .i64 5, .int .i64 2, .bool true, .int .u64 4, .int .u64 10, .int .u64 1, .int .u64 0, .int .u64 0, .int .u64 3, .int .u64 0, .int .u64 0, .int .u64 0, .int .i64 10, .int .i64 1000] TSp ∧ Below w.heap.size w W') ⟨Bl.ne14 B1 nB1B8 _ _ _ _ _ _ _ _ _ _ _ _ _ _, Bl.ne14 B4 nB4B8 _ _ _ _ _ _ _ _ _ _ _ _ _ _, Bl.ne14 B6 nB6B8 _ _ _ _ _ _ _ _ _ _ _ _ _ _, Bl.set14 B8 _ _ _ _ _ _ _ _ _ _ _ _ _ _, Bl.ne14 B7 nB8B7.symm _ _ _ _ _ _ _ _ _ _ _ _ _ _, below14 T lB8 _ _ _ _ _ _ _ _ _ _ _ _ _ _⟩ (fun U5 hV => ?_)
    clear B1 B4 B6 B8 B7 T n0 n1 n2 n3 n4 n5 n6 n7 n8 n9 n10 n11 n12 n13 t0 t1 t2 t3 t4 t5 t6 t7 t8 t9 t10 t11 t12 t13
    obtain ⟨B1, B4, B6, B8, B7, T⟩ := hV
    refine hK.out _ _ B1 (fun hHeld => ?_)
    clear hK K
    try simp only [Act.put, List.setIfInBounds_toArray, List.set_cons_zero, List.set_cons_succ]
    refine wpAnyH_done (by kernel_rfl) ?_ _
    go_wp2_with fail
    go_meet
    exact ⟨_, _, rfl, rfl, nB8B7.symm, nB1B7, nB4B7, nB6B7, nB1B8, nB4B8, nB6B8, B1, B4, B6, B7, B8, lB7, lB8, T⟩
  case rest =>
    obtain ⟨M, N, rfl, rfl, hMN, d1, d4, d6, f1, f4, f6, B1, B4, B6, B7, B8, lM, lN, T⟩ := hcut
    obtain ⟨n0, n1, n2, n3, n4, n5, n6, n7, n8, n9, n10, n11, n12, n13⟩ := id B7.at14
    obtain ⟨t0, t1, t2, t3, t4, t5, t6, t7, t8, t9, t10, t11, t12, t13⟩ := id B7.thaw14
    go_upto_region 7 with (fail)
    refine nameW (P := fun W' => Bl W' w.heap.size #[.int .i64 5, .int .i64 2, .bool true, .int .u64 4, .int .u64 10, .int .u64 1, .int .u64 0, .int .u64 0, .int .u64 3, .int .u64 0, .int .u64 0, .int .u64 0, .int .i64 10, .int .i64 1000] TSp ∧ Bl W' v2.heap.size #[.int .i64 5, .int .i64 2, .bool true, .int .u64 4, .int .u64 10, .int .u64 1, .int .u64 0, .int .u64 0, .int .u64 3, .int .u64 0, .int .u64 0, .int .u64 0, .int .i64 10, .int .i64 1000] TSp ∧ Bl W' v3.heap.size #[.int .i64 5, .int .i64 2, .bool true, .int .u64 0, .int .u64 0, .int .u64 0, .int .u64 0, .int .u64 0, .int .u64 0, .int .u64 0, .int .u64 0, .int .u64 0, .int .i64 10, .int .i64 1000] TSp ∧ Bl W' M #[.int .i64 5, .int .i64 2, .bool true, .int .u64 4, .int .u64 10, .int .u64 1, .int .u64 4, .int .u64 10, .int .u64 0, .int .u64 0, .int .u64 0, .int .u64 0, .int .i64 10, .int .i64 1000] TSp ∧ Bl W' N #[.int .i64 5, .int .i64 2, .bool true, .int .u64 4, .int .u64 10, .int .u64 1, .int .u64 0, .int .u64 0, .int .u64 3, .int .u64 0, .int .u64 0, .int .u64 0, .int .i64 10, .int .i64 1000] TSp ∧ Below w.heap.size w W') ⟨Bl.ne3 B1 d1 _ _ _, Bl.ne3 B4 d4 _ _ _, Bl.ne3 B6 d6 _ _ _, Bl.cur6 B7 (.int .u64 4) (.int .u64 10) (.int .u64 0), Bl.ne3 B8 hMN.symm _ _ _, below3 T lM _ _ _⟩ (fun U6 hU => ?_)
    clear B1 B4 B6 B7 B8 T n0 n1 n2 n3 n4 n5 n6 n7 n8 n9 n10 n11 n12 n13 t0 t1 t2 t3 t4 t5 t6 t7 t8 t9 t10 t11 t12 t13
    obtain ⟨B1, B4, B6, B7, B8, T⟩ := hU
    obtain ⟨n0, n1, n2, n3, n4, n5, n6, n7, n8, n9, n10, n11, n12, n13⟩ := id B8.at14
    obtain ⟨t0, t1, t2, t3, t4, t5, t6, t7, t8, t9, t10, t11, t12, t13⟩ := id B8.thaw14
    go_upto_region 8 with (fail)
    refine nameW (P := fun W' => Bl W' w.heap.size #[.int .i64 5, .int .i64 2, .bool true, .int .u64 4, .int .u64 10, .int .u64 1, .int .u64 0, .int .u64 0, .int .u64 3, .int .u64 0, .int .u64 0, .int .u64 0, .int .i64 10, .int .i64 1000] TSp ∧ Bl W' v2.heap.size #[.int .i64 5, .int .i64 2, .bool true, .int .u64 4, .int .u64 10, .int .u64 1, .int .u64 0, .int .u64 0, .int .u64 3, .int .u64 0, .int .u64 0, .int .u64 0, .int .i64 10, .int .i64 1000] TSp ∧ Bl W' v3.heap.size #[.int .i64 5, .int .i64 2, .bool true, .int .u64 0, .int .u64 0, .int .u64 0, .int .u64 0, .int .u64 0, .int .u64 0, .int .u64 0, .int .u64 0, .int .u64 0, .int .i64 10, .int .i64 1000] TSp ∧ Bl W' M #[.int .i64 5, .int .i64 2, .bool true, .int .u64 4, .int .u64 10, .int .u64 1, .int .u64 4, .int .u64 10, .int .u64 0, .int .u64 0, .int .u64 0, .int .u64 0, .int .i64 10, .int .i64 1000] TSp ∧ Bl W' N #[.int .i64 5, .int .i64 2, .bool true, .int .u64 4, .int .u64 10, .int .u64 1, .int .u64 4, .int .u64 0, .int .u64 3, .int .u64 0, .int .u64 0, .int .u64 0, .int .i64 10, .int .i64 1000] TSp ∧ Below w.heap.size w W') ⟨Bl.ne3 B1 f1 _ _ _, Bl.ne3 B4 f4 _ _ _, Bl.ne3 B6 f6 _ _ _, Bl.ne3 B7 hMN _ _ _, Bl.cur6 B8 (.int .u64 4) (.int .u64 0) (.int .u64 3), below3 T lN _ _ _⟩ (fun U7 hU => ?_)
    clear B1 B4 B6 B7 B8 T n0 n1 n2 n3 n4 n5 n6 n7 n8 n9 n10 n11 n12 n13 t0 t1 t2 t3 t4 t5 t6 t7 t8 t9 t10 t11 t12 t13
    obtain ⟨B1, B4, B6, B7, B8, T⟩ := hU
    obtain ⟨a0, a1, a2, a3, a4, a5, a6, a7, a8, a9, a10, a11, a12, a13⟩ := id B1.at14
    obtain ⟨b0, b1, b2, b3, b4, b5, b6, b7, b8, b9, b10, b11, b12, b13⟩ := id B4.at14
    go_wp2_with (first
      | (go_at_call 10; (with_reducible refine (m0 _).mono ?_); rintro e g1 ⟨rfl, hb⟩; replace B1 := B1.below hb; replace B6 := B6.below hb; replace B7 := B7.below hb; replace B8 := B8.below hb; replace T := sps T hb T.size; clear hb; obtain ⟨c0, c1, c2, c3, c4, c5, c6, c7, c8, c9, c10, c11, c12, c13⟩ := id B1.at14)
      | (go_at_call 11; (with_reducible refine (k0 _).mono ?_); rintro e g2 ⟨rfl, hb⟩; replace B1 := B1.below hb; replace B6 := B6.below hb; replace B7 := B7.below hb; replace B8 := B8.below hb; replace T := sps T hb T.size; clear hb; obtain ⟨d0, d1, d2, d3, d4, d5, d6, d7, d8, d9, d10, d11, d12, d13⟩ := id B6.at14)
      | (go_at_call 10; (with_reducible refine (m1 _).mono ?_); rintro e g3 ⟨rfl, hb⟩; replace B1 := B1.below hb; replace B6 := B6.below hb; replace B7 := B7.below hb; replace B8 := B8.below hb; replace T := sps T hb T.size; clear hb; obtain ⟨e0, e1, e2, e3, e4, e5, e6, e7, e8, e9, e10, e11, e12, e13⟩ := id B6.at14)
      | (go_at_call 11; (with_reducible refine (k1 _).mono ?_); rintro e g4 ⟨rfl, hb⟩; replace B1 := B1.below hb; replace B6 := B6.below hb; replace B7 := B7.below hb; replace B8 := B8.below hb; replace T := sps T hb T.size; clear hb; obtain ⟨p0, p1, p2, p3, p4, p5, p6, p7, p8, p9, p10, p11, p12, p13⟩ := id B7.at14)
      | (go_at_call 10; (with_reducible refine (m2 _).mono ?_); rintro e g5 ⟨rfl, hb⟩; replace B1 := B1.below hb; replace B6 := B6.below hb; replace B7 := B7.below hb; replace B8 := B8.below hb; replace T := sps T hb T.size; clear hb; obtain ⟨q0, q1, q2, q3, q4, q5, q6, q7, q8, q9, q10, q11, q12, q13⟩ := id B8.at14)
      | (go_at_call 10; (with_reducible refine (m3 _).mono ?_); rintro e g6 ⟨rfl, hb⟩; replace B1 := B1.below hb; replace B6 := B6.below hb; replace B7 := B7.below hb; replace B8 := B8.below hb; replace T := sps T hb T.size; clear hb; skip))
    go_ret
    exact ⟨by simp, T⟩
end Go.Proofs.YtkcmfcgoknhodaaGreatDoor
