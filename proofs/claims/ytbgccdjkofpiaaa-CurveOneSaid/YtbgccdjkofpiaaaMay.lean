/- Whether a curve may be; the one way in which it is told. No condition but that words are words. -/
import Derived.Test.YtbgccdjkofpiaaaCurP
import Derived.Deep.CutRange
namespace Go.Proofs.Ytbgccdjkofpiaaa
open Go.RowKit W
set_option linter.unusedVariables false
def tdF (f l r : Int) : Int := if l = 0 ∨ f = r then 0 else f
def tdL (f l r : Int) : Int := if l = 0 ∨ f = r then 0 else l
def mayB (f l r : Int) : Bool := decide (f ≤ 1048576 ∧ r ≤ 1048576 ∧ l ≤ 1099511627776 ∧ (l = 0 ∧ f = 0 ∨ 0 < l ∧ f ≠ r))
theorem Box.frz {W : World} {B : Nat} {vs : Array Value} {t : TypeId} (h : Box W B vs t) (i : Nat) : W.frozen? ⟨B, i, none⟩ = false := by simp [World.frozen?, show W.heap[B]? = _ from h]
theorem told_any (f l r : Int) (w : World) :
    Calls Try.prog 31 #[.agg #[.int .u64 f, .int .u64 l, .int .u64 r]] w fun e w' => e = .returned (.agg #[.int .u64 (tdF f l r), .int .u64 (tdL f l r), .int .u64 r]) ∧ Below w.heap.size w w' := by
  have hS := fun w => straight_any f l r w
  have T2 := up2 w (.cells #[.int .u64 f, .int .u64 l, .int .u64 r] 24) (.cells #[.int .u64 0, .int .u64 0, .int .u64 0] 24)
  have BC := (Box.new w 24 #[.int .u64 f, .int .u64 l, .int .u64 r]).alloc (.cells #[.int .u64 0, .int .u64 0, .int .u64 0] 24)
  have BR := Box.new (w.alloc (.cells #[.int .u64 f, .int .u64 l, .int .u64 r] 24)) 24 #[.int .u64 0, .int .u64 0, .int .u64 0]
  simp only [World.size_alloc] at BR
  unfold tdF tdL
  by_cases h1 : l = 0
  · rw [if_pos (.inl h1), if_pos (.inl h1)]
    have hl : (l == 0) = true := by simp [h1]
    rw [hl] at hS
    clear h1
    go_enter Try.func31, Try.ntmps31
    go_wp2_with (go_at_call 20; (with_reducible refine (hS _).mono ?_); rintro e w1 ⟨rfl, hb1⟩; replace BC := BC.below hb1; replace BR := BR.below hb1; obtain ⟨c0, c1, c2, c3⟩ := BC.tri; obtain ⟨r0, r1, r2, r3⟩ := BR.tri; have g0 := BR.frz 0; have g1 := BR.frz 1; have g2 := BR.frz 2; replace T2 := up T2 hb1 (by simp; omega))
    exact bodyPost_ret (v := .agg #[.int .u64 0, .int .u64 0, .int .u64 r]) (by simp [results, Try.results31, go_sem, r1, r2, r3]) rfl ⟨rfl, ((T2.setCell (by simp) _).setCell (by simp) _).setCell (by simp) _⟩
  · have hl : (l == 0) = false := by simp [h1]
    rw [hl] at hS
    by_cases h2 : f = r
    · rw [if_pos (.inr h2), if_pos (.inr h2)]
      have hfr : (f == r) = true := by simp [h2]
      clear h1 h2
      go_enter Try.func31, Try.ntmps31
      go_wp2_with (go_at_call 20; (with_reducible refine (hS _).mono ?_); rintro e w1 ⟨rfl, hb1⟩; replace BC := BC.below hb1; replace BR := BR.below hb1; obtain ⟨c0, c1, c2, c3⟩ := BC.tri; obtain ⟨r0, r1, r2, r3⟩ := BR.tri; have g0 := BR.frz 0; have g1 := BR.frz 1; have g2 := BR.frz 2; replace T2 := up T2 hb1 (by simp; omega))
      exact bodyPost_ret (v := .agg #[.int .u64 0, .int .u64 0, .int .u64 r]) (by simp [results, Try.results31, go_sem, r1, r2, r3]) rfl ⟨rfl, ((T2.setCell (by simp) _).setCell (by simp) _).setCell (by simp) _⟩
    · rw [if_neg (by omega), if_neg (by omega)]
      have hfr : (f == r) = false := by simp [h2]
      clear h1 h2
      go_enter Try.func31, Try.ntmps31
      go_wp2_with (go_at_call 20; (with_reducible refine (hS _).mono ?_); rintro e w1 ⟨rfl, hb1⟩; replace BC := BC.below hb1; replace BR := BR.below hb1; obtain ⟨c0, c1, c2, c3⟩ := BC.tri; obtain ⟨r0, r1, r2, r3⟩ := BR.tri; have g0 := BR.frz 0; have g1 := BR.frz 1; have g2 := BR.frz 2; replace T2 := up T2 hb1 (by simp; omega))
      exact bodyPost_ret (v := .agg #[.int .u64 f, .int .u64 l, .int .u64 r]) (by simp [results, Try.results31, go_sem, r1, r2, r3]) rfl ⟨rfl, ((T2.setCell (by simp) _).setCell (by simp) _).setCell (by simp) _⟩
end Go.Proofs.Ytbgccdjkofpiaaa
