/- SpecWhoever's walk, whole. Condition: the library's tables and errors are laid; the numbers are what the fields can hold. -/
import Derived.Test.YtkcmfcgoknhodaaGreatDoorSwW
namespace Go.Proofs.YtkcmfcgoknhodaaGreatDoor
open Go.RowKit Go.Lib W
set_option linter.unusedVariables false
theorem SpecWhoever_walk (p q : Sp) (i r : Int) (w : World) (hl : Lw w) (hp : p.ok) (hq : q.ok) (hi : I64 i) (hr : I64 r) :
    Calls Tryz.prog 5 #[spW p, spW q, .int .i64 i, .int .i64 r] w fun e w' => e = .returned (.bool true) ∧ Below w.heap.size w w' :=
  Whoever_of p q i r (mayN (shifted p i r)) (mayN p) (kindN p) (mayN q) (kindN q) _ _ w hl rfl rfl (fun h => mayN_id h) (fun h1 h2 => mayN_shifted p i r h2 h1)
    (fun w => MayD (shifted p i r) ⟨hi, hr, hp.2.2⟩ w) (fun w => MayD p hp w) (fun w => Kind_any (shifted p i r) w) (fun w => Kind_any p w) (fun w => With_any p p w)
    (fun w => MayD q hq w) (fun w => Kind_any q w) (fun w => With_any p q w)
    (fun e1 e2 e3 => ⟨fun w => by
      have h := MayD (withS p q) ⟨hp.1, hp.2.1, hq.2.2.1, hq.2.2.2.1, hq.2.2.2.2.1, hp.2.2.2.2.2.1, hp.2.2.2.2.2.2⟩ w
      rw [mayN_with e1 e2 e3] at h
      exact h, fun w => by
      have h := Kind_any (withS p q) w
      rw [kindN_with e3] at h
      exact h⟩)
end Go.Proofs.YtkcmfcgoknhodaaGreatDoor
