/- What New and Copy make, the document's New too; nobody's queues. No condition. -/
import Derived.Test.YtlfpaebfpmjclaaQI
namespace Go.Proofs.Ytlfpaebfpmjclaa
open Go.RowKit
set_option linter.unusedVariables false
/-- There may be room for so many. -/
def roomy (P R : Int) : Prop := (1 ≤ P ∧ P ≤ 4096) ∧ (1 ≤ R ∧ R ≤ 16777216)
theorem Qr.new (w : World) {P R : Int} (h : roomy P R) : Qr (w.alloc (.cells (quA P R 0 0 (.slice none 0 0) 0) 44)) w.heap.size P R [] (.slice none 0 0) 0 0 [] :=
  ⟨Box.new w 44 _, World.ownsRow_nil _ _ _ _, rfl, ⟨Nat.le_refl _, .inr ⟨rfl, rfl⟩, fun i hi => by simp at hi⟩, by have := h.1; show (0 : Int) ≤ P; omega, h.1, h.2, Fit.nil (by have := h.1; omega) (by have := h.2; omega)⟩
theorem New_ok (P R : Int) (w : World) (h : roomy P R) : Calls Try.prog 9 #[eI P, eI R] w fun e w' => e = .returned (.pointer (some ⟨w.heap.size, 0, none⟩)) ∧ w.alloc (.cells (quA P R 0 0 (.slice none 0 0) 0) 44) = w' := by
  obtain ⟨⟨h1, h2⟩, h3, h4⟩ := h
  go_enter Try.func9, Try.ntmps9
  go_wp2
  go_ret
  exact ⟨rfl, rfl⟩
theorem New_no (P R : Int) (w : World) (h : ¬ roomy P R) : Calls Try.prog 9 #[eI P, eI R] w fun e w' => e = .returned (.pointer none) ∧ w = w' := by
  unfold roomy at h
  go_enter Try.func9, Try.ntmps9
  go_wp2
  all_goals (first | (exfalso; omega) | (go_ret; exact ⟨rfl, rfl⟩))
theorem RNew_ok (P R : Int) (w : World) (h : roomy P R) : Calls Try.prog 10 #[eI P, eI R] w fun e w' => e = .returned (.pointer (some ⟨w.heap.size, 0, none⟩)) ∧ w.alloc (.cells #[eI P, eI R, .slice none 0 0] 57) = w' := by
  obtain ⟨⟨h1, h2⟩, h3, h4⟩ := h
  go_enter Try.func10, Try.ntmps10
  go_wp2
  go_ret
  exact ⟨rfl, rfl⟩
theorem RNew_no (P R : Int) (w : World) (h : ¬ roomy P R) : Calls Try.prog 10 #[eI P, eI R] w fun e w' => e = .returned (.pointer none) ∧ w = w' := by
  unfold roomy at h
  go_enter Try.func10, Try.ntmps10
  go_wp2
  all_goals (first | (exfalso; omega) | (go_ret; exact ⟨rfl, rfl⟩))
/-- A row read from its first place on. -/
theorem RingIs.row (L : List Pk) : RingIs L 0 L := by
  refine ⟨Nat.le_refl _, ?_, fun i hi => by rw [Nat.zero_add, Nat.mod_eq_of_lt hi]⟩
  cases L with
  | nil => exact .inr ⟨rfl, rfl⟩
  | cons p L => exact .inl (by simp)
section
variable {w : World} {B : Nat} {P R : Int} {L : List Pk} {v : Value} {n f : Nat} {D : List Pk}
/-- What Copy leaves. -/
def Copied (w w' : World) (P R : Int) (L : List Pk) (e : Ending) : Prop :=
  ∃ C u, e = .returned (.pointer (some ⟨C, 0, none⟩)) ∧ w.heap.size ≤ C ∧ Qr w' C P R L u L.length 0 L ∧ (∀ g, u.ownBlock = some g → w.heap.size ≤ g) ∧ Below w.heap.size w w'
set_option maxHeartbeats 4000000 in
set_option maxRecDepth 100000 in
theorem Copy_any (h : Qr w B P R L v n f D) : Calls Try.prog 11 #[.pointer (some ⟨B, 0, none⟩)] w fun e w' => Copied w w' P R L e := by
  have hN := none_any B P R _ _ f v w h.box h.nz
  have hA := All_any h.drew
  obtain ⟨c0, c1, c2, c3, c4, c5⟩ := h.box.qu
  have hfin : ∀ w1 u, w1.ownsRow w.heap.size 31 4 u L.length (rowV L) → Below w.heap.size w w1 → Copied w (w1.alloc (.cells (quA P R L.length (bsum L) u 0) 44)) P R L (.returned (.pointer (some ⟨w1.heap.size, 0, none⟩))) := fun w1 u h1 h2 =>
    ⟨w1.heap.size, u, rfl, h2.size, ⟨Box.new w1 44 _, (own_mono h1 (Nat.zero_le _)).alloc _, rfl, RingIs.row L, h.fit.many, h.hP, h.hR, h.fit⟩, fun g hg => (h1.lt g hg).1, h2.alloc h2.size _⟩
  have hx := h.box
  clear h
  replace hfin := Lib.hid hfin
  go_enter Try.func11, Try.ntmps11
  go_upto_region 3 with (go_at_call 24; (with_reducible refine hN.mono ?_); rintro e w1 ⟨rfl, rfl⟩)
  go_region_held3 (fun w' => quC w' B P R L.length (bsum L) v f)
    (first | exact ⟨c0, c1, c2, c3, c4, c5⟩ | exact (hx.below hb).qu | exact ((hx.below hb).alloc _).qu)
    (first | (go_at_call 21; (with_reducible refine hA.mono ?_); rintro e w2 ⟨u, rfl, hO, hb⟩; obtain ⟨ua, uc, rfl, _, _⟩ := own_len hO; replace hb := undrew hb))
  all_goals go_wp2
  all_goals go_ret
  all_goals exact hfin.out _ _ hO hb
theorem Copy_nil (w : World) : Calls Try.prog 11 #[.pointer none] w fun e w' => e = .returned (.pointer none) ∧ w = w' := by
  have hN := none_nil w
  go_enter Try.func11, Try.ntmps11
  go_wp2_with (go_at_call 24; (with_reducible refine hN.mono ?_); rintro e w1 ⟨rfl, rfl⟩)
  go_ret
  exact ⟨rfl, rfl⟩
end
end Go.Proofs.Ytlfpaebfpmjclaa
