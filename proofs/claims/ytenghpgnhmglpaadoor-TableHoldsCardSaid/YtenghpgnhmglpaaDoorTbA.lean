/- What does so without a panic: the call calm. No condition but what is done. -/
import Derived.Test.YtenghpgnhmglpaaDoorCoA
import Derived.Tactics
import Derived.Tactics2
import Derived.Defers
import Derived.Recover
namespace Go.Proofs.YtenghpgnhmglpaaDoor
open Go.RowKit
set_option linter.unusedVariables false
theorem catch_idle (p : Addr) (w : World) (hc : w.cell? p = some (.bool true)) (hz : w.frozen? p = false) :
    CallsD Tryd.prog 43 #[.pointer (some p)] .returning w fun e u' w' => e = .returned (.tuple #[]) ∧ u' = .returning ∧ w' = w.setCell p (.bool true) := by
  have hEq : ∀ w : World, (binOp BinOp.eql 20 .nilIface .nilIface).run Tryd.prog w = .ok (.bool true) w := fun _ => by kernel_rfl
  refine callsD_of_wpS Tryd.func43 rfl fun c₀ cs hu => ?_
  apply wpS_region
  simp [wpOpsS, go_sem, recoverD, hu, Tryd.ntmps43, hEq, hc, hz, bodyPostS, results, Tryd.results43]
  cases c₀
  cases hu
  rfl
theorem calm_ok (caps : Array Value) (w : World) (R : World → Prop) (h : Calls Tryd.prog 28 caps (w.alloc (.cells #[.bool false] 4)) fun e w2 => e = .returned (.tuple #[]) ∧ Box w2 w.heap.size #[.bool false] 4 ∧ R w2) :
    Calls Tryd.prog 27 #[.func (.func 28) #[] caps] w fun e w' => e = .returned (.bool true) ∧ ∃ w2, R w2 ∧ Box w2 w.heap.size #[.bool false] 4 ∧ w' = (w2.setCell ⟨w.heap.size, 0, none⟩ (.bool true)).setCell ⟨w.heap.size, 0, none⟩ (.bool true) := by
  have hmf : ∀ (fn : Fn) (first cap : Array Value) (w : World), (Instr.makeFunc fn first cap).run Tryd.prog w = .ok (.func fn first cap) w := fun _ _ _ _ => rfl
  go_enter_defers Tryd.func27, Tryd.ntmps27
  go_wp2_with (go_at_call 28; (with_reducible refine h.mono ?_); rintro e w2 ⟨rfl, b2, hR⟩; have c2 := b2.cell 0; have f2 := b2.thaw 0)
  have b3 := b2.set 0 (.bool true)
  have c3 := b3.cell 0
  have f3 := b3.thaw 0
  have b4 := b3.set 0 (.bool true)
  have c4 := b4.cell 0
  refine leaves_cons (f := 43) (args := #[.pointer (some ⟨w.heap.size, 0, none⟩)]) (by simp) (by simp [go_sem]) ?_
  refine (catch_idle ⟨w.heap.size, 0, none⟩ _ c3 f3).mono ?_
  rintro e u' w'' ⟨rfl, rfl, rfl⟩
  refine ⟨.bool true, ?_, rfl, w2, hR, b2, rfl⟩
  simp [results, Tryd.results27, go_sem, c4]
end Go.Proofs.YtenghpgnhmglpaaDoor
