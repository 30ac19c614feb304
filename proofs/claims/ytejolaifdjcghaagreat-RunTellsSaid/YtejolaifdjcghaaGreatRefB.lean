/- What the document's own Cmp and Minus answer. No condition but that words are words. -/
import Derived.Test.YtejolaifdjcghaaGreatGF
namespace Go.Proofs.YtejolaifdjcghaaGreat
open Go.RowKit W
set_option linter.unusedVariables false
theorem rCmp_any (a b c d : Int) (w : World) (hb : Word b) (hd : Word d) :
    Calls Tryz.prog 50 #[.agg #[.int .u64 a, .int .u64 b], .agg #[.int .u64 c, .int .u64 d]] w fun e w' => e = .returned (.int .i64 (cmpW a b c d)) ∧ Below w.heap.size w w' := by
  rcases Int.lt_trichotomy a c with h | h | h
  · rw [cmpW_lt (V_lt hb hd (.inl h))]
    go_enter Tryz.func50, Tryz.ntmps50
    go_wp2
    go_ret
    exact ⟨rfl, up2 _ _ _⟩
  · subst h
    rcases Int.lt_trichotomy b d with h | h | h
    · rw [cmpW_lt (V_lt hb hd (.inr ⟨rfl, h⟩))]
      go_enter Tryz.func50, Tryz.ntmps50
      go_wp2
      go_ret
      exact ⟨rfl, up2 _ _ _⟩
    · subst h
      rw [cmpW_eq rfl]
      go_enter Tryz.func50, Tryz.ntmps50
      go_wp2
      go_ret
      exact ⟨rfl, up2 _ _ _⟩
    · rw [cmpW_gt (V_lt hd hb (.inr ⟨rfl, h⟩))]
      have hne : (b == d) = false := by simp; omega
      go_enter Tryz.func50, Tryz.ntmps50
      go_wp2
      go_ret
      exact ⟨rfl, up2 _ _ _⟩
  · rw [cmpW_gt (V_lt hd hb (.inl h))]
    have hne : (a == c) = false := by simp; omega
    go_enter Tryz.func50, Tryz.ntmps50
    go_wp2
    go_ret
    exact ⟨rfl, up2 _ _ _⟩

theorem upset {w w1 : World} {o1 o2 o3 : Obj} (hb1 : Below (((w.alloc o1).alloc o2).alloc o3).heap.size (((w.alloc o1).alloc o2).alloc o3) w1) (v1 v2 : Value) :
    Below w.heap.size w ((w1.setCell { block := w.heap.size + 1 + 1, off := 0 } v1).setCell { block := w.heap.size + 1 + 1, off := 1 } v2) :=
  (((up3 w o1 o2 o3).trans (hb1.mono (by simp; omega))).setCell (by simp; omega) _).setCell (by simp; omega) _


end Go.Proofs.YtejolaifdjcghaaGreat
