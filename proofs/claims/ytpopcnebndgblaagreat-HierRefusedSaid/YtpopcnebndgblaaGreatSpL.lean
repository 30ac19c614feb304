/- Whether a spec may be; a spec with another one's curves. Condition: the numbers are what the fields can hold. -/
import Derived.Test.YtpopcnebndgblaaGreatSpK
import Derived.Laws.EntriesVeiled
namespace Go.Proofs.YtpopcnebndgblaaGreat
open Go.RowKit W
set_option linter.unusedVariables false

theorem ixC0 (W : World) (a1 a2 a3 b1 b2 b3 : Value) : (Instr.index 96 (.agg #[a1, a2, a3, b1, b2, b3]) (.int .i64 0)).run Tryz.prog W = .ok (.agg #[a1, a2, a3]) W := by simp [Instr.index, go_sem]
theorem ixC1 (W : World) (a1 a2 a3 b1 b2 b3 : Value) : (Instr.index 96 (.agg #[a1, a2, a3, b1, b2, b3]) (.int .i64 1)).run Tryz.prog W = .ok (.agg #[b1, b2, b3]) W := by simp [Instr.index, go_sem]
set_option maxHeartbeats 2000000 in
theorem lasting_any (p : Sp) (w : World) :
    Calls Tryz.prog 62 #[spV p] w fun e w' => e = .returned (.bool (lasB p)) ∧ Below w.heap.size w w' := by
  have h1 := fun w => has_any p.sh w
  have h2 := fun w => has_any p.up w
  have B := SB.new w p
  have T := up1 w (.cells (spC p) 34)
  unfold lasB
  generalize hasC p.sh = a at h1
  generalize hasC p.up = b at h2
  generalize hz : (p.sh.r == 0) = z
  generalize hy : (p.up.r == 0) = y
  have x0 := ixC0
  have x1 := ixC1
  go_enter Tryz.func62, Tryz.ntmps62
  go_wp2
  generalize w.alloc (.cells (spC p) 34) = w0 at B T ⊢
  go_loopw [10] (fun j wr => ∃ k : Nat, k ≤ 2 ∧ j = .int .i64 k ∧ SB wr w.heap.size p ∧ Below w.heap.size w wr ∧ (0 < k → (a && z) = false) ∧ (1 < k → (b && y) = false)) (fun j _ => 2 - (Lib.intOf j).toNat)
  case atStart => exact ⟨0, by omega, rfl, B, T, by omega, by omega⟩
  case round =>
    obtain ⟨k, hk, rfl, hB, hT, g1, g2⟩ := hrel
    obtain ⟨c0, c1, c2, c3, c4, c5, c6, c7, c8, c9, c10, c11, c12, c13⟩ := id hB.all
    rcases (by omega : k = 0 ∨ k = 1 ∨ k = 2) with rfl | rfl | rfl
    · clear g1 g2
      cases a <;> cases z
      all_goals
        go_wp2_with (first
          | (go_at_call 76; (with_reducible refine (h1 _).mono ?_); rintro e w1 ⟨rfl, hb⟩; replace hB := (hB.alloc _).below hb; replace hT := spk (hT.alloc hT.size _) hb (by have := hT.size; simp; omega); have BL := (Box.new wr 32 #[.int .u64 p.sh.f, .int .u64 p.sh.l, .int .u64 p.sh.r]).below hb; clear hb; obtain ⟨l0, l1, l2, l3⟩ := BL.tri))
        first
          | (go_ret; exact ⟨by simp, hT⟩)
          | exact ⟨⟨1, by omega, rfl, hB, hT, by simp, by omega⟩, by simp [Lib.intOf]⟩
    · have g1 := g1 (by omega)
      clear g2
      cases b <;> cases y
      all_goals
        go_wp2_with (first
          | (go_at_call 76; (with_reducible refine (h2 _).mono ?_); rintro e w1 ⟨rfl, hb⟩; replace hB := (hB.alloc _).below hb; replace hT := spk (hT.alloc hT.size _) hb (by have := hT.size; simp; omega); have BL := (Box.new wr 32 #[.int .u64 p.up.f, .int .u64 p.up.l, .int .u64 p.up.r]).below hb; clear hb; obtain ⟨l0, l1, l2, l3⟩ := BL.tri))
        first
          | (go_ret; exact ⟨by simp [g1], hT⟩)
          | exact ⟨⟨2, by omega, rfl, hB, hT, fun _ => g1, by simp⟩, by simp [Lib.intOf]⟩
    · have g1 := g1 (by omega)
      have g2 := g2 (by omega)
      replace g1 := Lib.hid g1
      replace g2 := Lib.hid g2
      cases a <;> cases b
      all_goals
        go_wp2_with (first
          | (go_at_call 76; (with_reducible refine (h1 _).mono ?_); rintro e w1 ⟨rfl, hb⟩; replace hB := hB.below hb; replace hT := spk hT hb hT.size; clear hb; obtain ⟨d0, d1, d2, d3, d4, d5, d6, d7, d8, d9, d10, d11, d12, d13⟩ := id hB.all)
          | (go_at_call 76; (with_reducible refine (h2 _).mono ?_); rintro e w2 ⟨rfl, hb⟩; replace hB := hB.below hb; replace hT := spk hT hb hT.size; clear hb))
        go_ret
        exact ⟨by have := g1.out; have := g2.out; simp_all, hT⟩
end Go.Proofs.YtpopcnebndgblaaGreat
