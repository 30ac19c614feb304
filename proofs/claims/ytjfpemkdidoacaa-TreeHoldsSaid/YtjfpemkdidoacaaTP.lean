/- What the tree's call calm answers, where what it is handed doesn't panic. No condition. -/
import Derived.Test.YtjfpemkdidoacaaTK
import Derived.Defers
import Derived.Recover
namespace Go.Proofs.Ytjfpemkdidoacaa
open Go.RowKit Go.Shelf
set_option linter.unusedVariables false
/-- All blocks but B lie as they lay. -/
structure But (B : Nat) (w w' : World) : Prop where
  os : w'.os = w.os
  tape : w'.tape = w.tape
  output : w'.output = w.output
  size : w.heap.size ≤ w'.heap.size
  block : ∀ k, k < w.heap.size → k ≠ B → w'.heap[k]? = w.heap[k]?
theorem But.set (B : Nat) (w : World) (i : Nat) (v : Value) : But B w (w.setCell ⟨B, i, none⟩ v) :=
  ⟨rfl, rfl, rfl, by simp [World.setCell], fun k hk hn => Below.heap_setCell _ _ _ k hn⟩
theorem But.refl (B : Nat) (w : World) : But B w w := ⟨rfl, rfl, rfl, Nat.le_refl _, fun _ _ _ => rfl⟩
theorem But.trans {B : Nat} {a b c : World} (h : But B a b) (k : But B b c) : But B a c :=
  ⟨k.os.trans h.os, k.tape.trans h.tape, k.output.trans h.output, Nat.le_trans h.size k.size, fun i hi hn => (k.block i (Nat.lt_of_lt_of_le hi h.size) hn).trans (h.block i hi hn)⟩
theorem But.box {B B' : Nat} {w w' : World} {vs : Array Value} {t : TypeId} (h : But B w w') (b : Box w B' vs t) (hne : B' ≠ B) : Box w' B' vs t :=
  (h.block B' b.lt hne).trans b
theorem But.below {B n : Nat} {w w' : World} (h : But B w w') (hB : n ≤ B) (hn : n ≤ w.heap.size) : Below n w w' :=
  ⟨h.os, h.tape, h.output, h.size, fun k hk => h.block k (Nat.lt_of_lt_of_le hk hn) (Nat.ne_of_lt (Nat.lt_of_lt_of_le hk hB))⟩
theorem recov (B : Nat) (v : Bool) (w : World) (h : Box w B #[.bool v] 4) : CallsD Try.prog 65 #[.pointer (some ⟨B, 0, none⟩)] .returning w fun e u' w' => e = .returned (.tuple #[]) ∧ u' = .returning ∧ w' = w.setCell ⟨B, 0, none⟩ (.bool true) := by
  have c := h.cell 0
  have f := h.thaw 0
  refine callsD_of_wpS Try.func65 rfl fun c₀ cs hu => ?_
  apply wpS_region
  simp [wpOpsS, go_sem, recoverD, hu, Try.ntmps65, c, f]
  cases c₀
  simp_all [bodyPostS, results, Try.results65]
theorem calm_47 (caps : Array Value) (R : World → Prop) (w : World)
    (hdo : Calls Try.prog 47 caps (w.alloc (.cells #[.bool false] 4)) fun e w' => e = .returned (.tuple #[]) ∧ R w' ∧ Box w' w.heap.size #[.bool false] 4) :
    Calls Try.prog 46 #[.func (.func 47) #[] caps] w fun e w' => e = .returned (.bool true) ∧ ∃ w1, R w1 ∧ w.heap.size < w1.heap.size ∧ But w.heap.size w1 w' := by
  have hmf : ∀ (fn : Fn) (first cap : Array Value) (w : World), (Instr.makeFunc fn first cap).run Try.prog w = .ok (.func fn first cap) w := fun _ _ _ _ => rfl
  go_enter_defers Try.func46, Try.ntmps46
  go_wp2_with (go_at_call 47; (with_reducible refine hdo.mono ?_); rintro e w1 ⟨rfl, hR, hB⟩; have c1 := hB.cell 0; have f1 := hB.thaw 0)
  refine leaves_cons (f := 65) (args := #[.pointer (some ⟨w.heap.size, 0, none⟩)]) (by simp) (by simp [go_sem]) ?_
  refine (recov w.heap.size true _ (hB.set 0 _)).mono ?_
  rintro e u' w'' ⟨rfl, rfl, rfl⟩
  have c2 : ((w1.setCell ⟨w.heap.size, 0, none⟩ (.bool true)).setCell ⟨w.heap.size, 0, none⟩ (.bool true)).cell? ⟨w.heap.size, 0, none⟩ = some (.bool true) := ((hB.set 0 (.bool true)).set 0 (.bool true)).cell 0
  refine ⟨.bool true, by simp [results, Try.results46, go_sem, c2], rfl, w1, hR, hB.lt, (But.set _ _ _ _).trans (But.set _ _ _ _)⟩
theorem calm_49 (caps : Array Value) (R : World → Prop) (w : World)
    (hdo : Calls Try.prog 49 caps (w.alloc (.cells #[.bool false] 4)) fun e w' => e = .returned (.tuple #[]) ∧ R w' ∧ Box w' w.heap.size #[.bool false] 4) :
    Calls Try.prog 46 #[.func (.func 49) #[] caps] w fun e w' => e = .returned (.bool true) ∧ ∃ w1, R w1 ∧ w.heap.size < w1.heap.size ∧ But w.heap.size w1 w' := by
  have hmf : ∀ (fn : Fn) (first cap : Array Value) (w : World), (Instr.makeFunc fn first cap).run Try.prog w = .ok (.func fn first cap) w := fun _ _ _ _ => rfl
  go_enter_defers Try.func46, Try.ntmps46
  go_wp2_with (go_at_call 49; (with_reducible refine hdo.mono ?_); rintro e w1 ⟨rfl, hR, hB⟩; have c1 := hB.cell 0; have f1 := hB.thaw 0)
  refine leaves_cons (f := 65) (args := #[.pointer (some ⟨w.heap.size, 0, none⟩)]) (by simp) (by simp [go_sem]) ?_
  refine (recov w.heap.size true _ (hB.set 0 _)).mono ?_
  rintro e u' w'' ⟨rfl, rfl, rfl⟩
  have c2 : ((w1.setCell ⟨w.heap.size, 0, none⟩ (.bool true)).setCell ⟨w.heap.size, 0, none⟩ (.bool true)).cell? ⟨w.heap.size, 0, none⟩ = some (.bool true) := ((hB.set 0 (.bool true)).set 0 (.bool true)).cell 0
  refine ⟨.bool true, by simp [results, Try.results46, go_sem, c2], rfl, w1, hR, hB.lt, (But.set _ _ _ _).trans (But.set _ _ _ _)⟩
theorem calm_55 (caps : Array Value) (R : World → Prop) (w : World)
    (hdo : Calls Try.prog 55 caps (w.alloc (.cells #[.bool false] 4)) fun e w' => e = .returned (.tuple #[]) ∧ R w' ∧ Box w' w.heap.size #[.bool false] 4) :
    Calls Try.prog 46 #[.func (.func 55) #[] caps] w fun e w' => e = .returned (.bool true) ∧ ∃ w1, R w1 ∧ w.heap.size < w1.heap.size ∧ But w.heap.size w1 w' := by
  have hmf : ∀ (fn : Fn) (first cap : Array Value) (w : World), (Instr.makeFunc fn first cap).run Try.prog w = .ok (.func fn first cap) w := fun _ _ _ _ => rfl
  go_enter_defers Try.func46, Try.ntmps46
  go_wp2_with (go_at_call 55; (with_reducible refine hdo.mono ?_); rintro e w1 ⟨rfl, hR, hB⟩; have c1 := hB.cell 0; have f1 := hB.thaw 0)
  refine leaves_cons (f := 65) (args := #[.pointer (some ⟨w.heap.size, 0, none⟩)]) (by simp) (by simp [go_sem]) ?_
  refine (recov w.heap.size true _ (hB.set 0 _)).mono ?_
  rintro e u' w'' ⟨rfl, rfl, rfl⟩
  have c2 : ((w1.setCell ⟨w.heap.size, 0, none⟩ (.bool true)).setCell ⟨w.heap.size, 0, none⟩ (.bool true)).cell? ⟨w.heap.size, 0, none⟩ = some (.bool true) := ((hB.set 0 (.bool true)).set 0 (.bool true)).cell 0
  refine ⟨.bool true, by simp [results, Try.results46, go_sem, c2], rfl, w1, hR, hB.lt, (But.set _ _ _ _).trans (But.set _ _ _ _)⟩
theorem calm_59 (caps : Array Value) (R : World → Prop) (w : World)
    (hdo : Calls Try.prog 59 caps (w.alloc (.cells #[.bool false] 4)) fun e w' => e = .returned (.tuple #[]) ∧ R w' ∧ Box w' w.heap.size #[.bool false] 4) :
    Calls Try.prog 46 #[.func (.func 59) #[] caps] w fun e w' => e = .returned (.bool true) ∧ ∃ w1, R w1 ∧ w.heap.size < w1.heap.size ∧ But w.heap.size w1 w' := by
  have hmf : ∀ (fn : Fn) (first cap : Array Value) (w : World), (Instr.makeFunc fn first cap).run Try.prog w = .ok (.func fn first cap) w := fun _ _ _ _ => rfl
  go_enter_defers Try.func46, Try.ntmps46
  go_wp2_with (go_at_call 59; (with_reducible refine hdo.mono ?_); rintro e w1 ⟨rfl, hR, hB⟩; have c1 := hB.cell 0; have f1 := hB.thaw 0)
  refine leaves_cons (f := 65) (args := #[.pointer (some ⟨w.heap.size, 0, none⟩)]) (by simp) (by simp [go_sem]) ?_
  refine (recov w.heap.size true _ (hB.set 0 _)).mono ?_
  rintro e u' w'' ⟨rfl, rfl, rfl⟩
  have c2 : ((w1.setCell ⟨w.heap.size, 0, none⟩ (.bool true)).setCell ⟨w.heap.size, 0, none⟩ (.bool true)).cell? ⟨w.heap.size, 0, none⟩ = some (.bool true) := ((hB.set 0 (.bool true)).set 0 (.bool true)).cell 0
  refine ⟨.bool true, by simp [results, Try.results46, go_sem, c2], rfl, w1, hR, hB.lt, (But.set _ _ _ _).trans (But.set _ _ _ _)⟩
end Go.Proofs.Ytjfpemkdidoacaa
