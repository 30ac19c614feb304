/- SpecWhoever's walk. Condition: the library's tables and errors are laid; the numbers are what the fields can hold. -/
import Derived.Test.YtkcmfcgoknhodaaGreatDoorSwA1
import Derived.Test.YtkcmfcgoknhodaaGreatDoorSwA2
import Derived.Test.YtkcmfcgoknhodaaGreatDoorSwB1
import Derived.Test.YtkcmfcgoknhodaaGreatDoorSwB2
import Derived.Test.YtkcmfcgoknhodaaGreatDoorSwC1
import Derived.Test.YtkcmfcgoknhodaaGreatDoorSwC2
namespace Go.Proofs.YtkcmfcgoknhodaaGreatDoor
open Go.RowKit Go.Lib W
set_option linter.unusedVariables false
theorem Whoever_of (p q : Sp) (i r m n k n2 k2 : Int) (gd was : Bool) (w : World) (hl : Lw w)
    (hgd : gd = idB (shifted p i r)) (hwas : was = idB p)
    (hbad : gd = false → m = 130) (hgood : gd = true → was = true → m = n)
    (hM : ∀ w, Calls Tryz.prog 10 #[spW (shifted p i r)] w fun e w' => e = .returned (.int .i64 m) ∧ Below w.heap.size w w')
    (hN : ∀ w, Calls Tryz.prog 10 #[spW p] w fun e w' => e = .returned (.int .i64 n) ∧ Below w.heap.size w w')
    (hX : ∀ w, Calls Tryz.prog 11 #[spW (shifted p i r)] w fun e w' => e = .returned (.int .u8 k) ∧ Below w.heap.size w w')
    (hL : ∀ w, Calls Tryz.prog 11 #[spW p] w fun e w' => e = .returned (.int .u8 k) ∧ Below w.heap.size w w')
    (hW : ∀ w, Calls Tryz.prog 15 #[spW p, spW p] w fun e w' => e = .returned (spW p) ∧ Below w.heap.size w w')
    (hQ : ∀ w, Calls Tryz.prog 10 #[spW q] w fun e w' => e = .returned (.int .i64 n2) ∧ Below w.heap.size w w')
    (hR : ∀ w, Calls Tryz.prog 11 #[spW q] w fun e w' => e = .returned (.int .u8 k2) ∧ Below w.heap.size w w')
    (hY : ∀ w, Calls Tryz.prog 15 #[spW p, spW q] w fun e w' => e = .returned (.agg #[.int .i64 p.id, .int .i64 p.par, .bool p.leaf, .int .u64 q.re.f, .int .u64 q.re.l, .int .u64 q.re.r, .int .u64 q.sh.f, .int .u64 q.sh.l, .int .u64 q.sh.r, .int .u64 q.up.f, .int .u64 q.up.l, .int .u64 q.up.r, .int .i64 p.pk, .int .i64 p.bt]) ∧ Below w.heap.size w w')
    (hZ : n = 0 → n2 = 0 → p.leaf = q.leaf → (∀ w, Calls Tryz.prog 10 #[.agg #[.int .i64 p.id, .int .i64 p.par, .bool p.leaf, .int .u64 q.re.f, .int .u64 q.re.l, .int .u64 q.re.r, .int .u64 q.sh.f, .int .u64 q.sh.l, .int .u64 q.sh.r, .int .u64 q.up.f, .int .u64 q.up.l, .int .u64 q.up.r, .int .i64 p.pk, .int .i64 p.bt]] w fun e w' => e = .returned (.int .i64 0) ∧ Below w.heap.size w w') ∧ (∀ w, Calls Tryz.prog 11 #[.agg #[.int .i64 p.id, .int .i64 p.par, .bool p.leaf, .int .u64 q.re.f, .int .u64 q.re.l, .int .u64 q.re.r, .int .u64 q.sh.f, .int .u64 q.sh.l, .int .u64 q.sh.r, .int .u64 q.up.f, .int .u64 q.up.l, .int .u64 q.up.r, .int .i64 p.pk, .int .i64 p.bt]] w fun e w' => e = .returned (.int .u8 k2) ∧ Below w.heap.size w w')) :
    Calls Tryz.prog 5 #[spW p, spW q, .int .i64 i, .int .i64 r] w fun e w' => e = .returned (.bool true) ∧ Below w.heap.size w w' := by
  by_cases hc : n = 0 ∧ n2 = 0 ∧ p.leaf = q.leaf
  · rcases Bool.eq_false_or_eq_true gd with h1 | h1
    · rcases Bool.eq_false_or_eq_true was with h2 | h2
      · exact Whoever_C1 p q i r m n k n2 k2 gd was w hl hgd hwas h1 h2 hc hbad hgood hM hN hX hL hW hQ hR hY hZ
      · exact Whoever_B1 p q i r m n k n2 k2 gd was w hl hgd hwas h1 h2 hc hbad hgood hM hN hX hL hW hQ hR hY hZ
    · exact Whoever_A1 p q i r m n k n2 k2 gd was w hl hgd hwas h1 hc hbad hgood hM hN hX hL hW hQ hR hY hZ
  · rcases Bool.eq_false_or_eq_true gd with h1 | h1
    · rcases Bool.eq_false_or_eq_true was with h2 | h2
      · exact Whoever_C2 p q i r m n k n2 k2 gd was w hl hgd hwas h1 h2 hc hbad hgood hM hN hX hL hW hQ hR hY hZ
      · exact Whoever_B2 p q i r m n k n2 k2 gd was w hl hgd hwas h1 h2 hc hbad hgood hM hN hX hL hW hQ hR hY hZ
    · exact Whoever_A2 p q i r m n k n2 k2 gd was w hl hgd hwas h1 hc hbad hgood hM hN hX hL hW hQ hR hY hZ
end Go.Proofs.YtkcmfcgoknhodaaGreatDoor
