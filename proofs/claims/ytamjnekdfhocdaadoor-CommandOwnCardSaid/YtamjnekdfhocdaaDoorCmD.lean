/- The parts of a record. No condition. -/
import Derived.Test.YtamjnekdfhocdaaDoorCmTa
import Derived.StillTailTactics
namespace Go.Proofs.YtamjnekdfhocdaaDoor
open Go.ChangeShapes Go.WideShapes Go.Deep Go.RowKit
set_option linter.unusedVariables false
set_option linter.unusedSimpArgs false
attribute [local go_sem] ta105_yes ta105_no ta105_nil ta106_yes ta106_no ta106_nil ta107_yes ta107_no ta107_nil ta98_yes ta98_no ta98_nil ta108_yes ta108_no ta108_nil ta96_yes ta96_no ta96_nil ta116_yes ta116_no ta116_nil ta80_yes ta80_no ta80_nil ta117_yes ta117_no ta117_nil ta100_yes ta100_no ta100_nil ta101_yes ta101_no ta101_nil
def row105 (B k : Nat) : Array Value := #[.iface 96 (ptrAt B k), .iface 98 (ptrAt B (k + 1)), .iface 96 (ptrAt B (k + 2))]
set_option maxHeartbeats 16000000 in
set_option maxRecDepth 100000 in
theorem parts_105 (B k : Nat) (w : World) : Calls Tryd.prog 48 #[.iface 105 (ptrAt B k)] w fun e w' => e = .returned (.slice (some ⟨w.heap.size, 0, none⟩) 3 3) ∧ Box w' w.heap.size (row105 B k) 20 ∧ Below w.heap.size w w' := by
  have T := (Below.refl w.heap.size w).drew.alloc (Nat.le_refl _) (.cells (row105 B k) 20)
  have X : Box (w.drew.alloc (.cells (row105 B k) 20)) w.heap.size (row105 B k) 20 := Box.new w.drew 20 (row105 B k)
  unfold row105 at T X ⊢
  replace X := Lib.hid X
  replace T := Lib.hid T
  go_enter Tryd.func48, Tryd.ntmps48
  go_upto_region 4 with fail
  go_still_tail 12, (by kernel_rfl)
  go_wp2
  go_ret
  exact ⟨rfl, X.out, T.out⟩
def row106 (B k : Nat) : Array Value := #[.iface 98 (ptrAt B k), .iface 98 (ptrAt B (k + 1)), .iface 101 (ptrAt B (k + 2)), .iface 116 (ptrAt B (k + 3)), .iface 116 (ptrAt B (k + 6)), .iface 116 (ptrAt B (k + 9)), .iface 98 (ptrAt B (k + 12)), .iface 98 (ptrAt B (k + 13))]
set_option maxHeartbeats 16000000 in
set_option maxRecDepth 100000 in
theorem parts_106 (B k : Nat) (w : World) : Calls Tryd.prog 48 #[.iface 106 (ptrAt B k)] w fun e w' => e = .returned (.slice (some ⟨w.heap.size, 0, none⟩) 8 8) ∧ Box w' w.heap.size (row106 B k) 20 ∧ Below w.heap.size w w' := by
  have T := (Below.refl w.heap.size w).drew.alloc (Nat.le_refl _) (.cells (row106 B k) 20)
  have X : Box (w.drew.alloc (.cells (row106 B k) 20)) w.heap.size (row106 B k) 20 := Box.new w.drew 20 (row106 B k)
  unfold row106 at T X ⊢
  replace X := Lib.hid X
  replace T := Lib.hid T
  go_enter Tryd.func48, Tryd.ntmps48
  go_upto_region 7 with fail
  go_still_tail 32, (by kernel_rfl)
  go_wp2
  go_ret
  exact ⟨rfl, X.out, T.out⟩
def row107 (B k : Nat) : Array Value := #[.iface 98 (ptrAt B k), .iface 116 (ptrAt B (k + 3)), .iface 116 (ptrAt B (k + 6)), .iface 116 (ptrAt B (k + 9))]
set_option maxHeartbeats 16000000 in
set_option maxRecDepth 100000 in
theorem parts_107 (B k : Nat) (w : World) : Calls Tryd.prog 48 #[.iface 107 (ptrAt B k)] w fun e w' => e = .returned (.slice (some ⟨w.heap.size, 0, none⟩) 4 4) ∧ Box w' w.heap.size (row107 B k) 20 ∧ Below w.heap.size w w' := by
  have T := (Below.refl w.heap.size w).drew.alloc (Nat.le_refl _) (.cells (row107 B k) 20)
  have X : Box (w.drew.alloc (.cells (row107 B k) 20)) w.heap.size (row107 B k) 20 := Box.new w.drew 20 (row107 B k)
  unfold row107 at T X ⊢
  replace X := Lib.hid X
  replace T := Lib.hid T
  go_enter Tryd.func48, Tryd.ntmps48
  go_upto_region 10 with fail
  go_still_tail 16, (by kernel_rfl)
  go_wp2
  go_ret
  exact ⟨rfl, X.out, T.out⟩
def row116 (B k : Nat) : Array Value := #[.iface 96 (ptrAt B k), .iface 96 (ptrAt B (k + 1)), .iface 96 (ptrAt B (k + 2))]
set_option maxHeartbeats 16000000 in
set_option maxRecDepth 100000 in
theorem parts_116 (B k : Nat) (w : World) : Calls Tryd.prog 48 #[.iface 116 (ptrAt B k)] w fun e w' => e = .returned (.slice (some ⟨w.heap.size, 0, none⟩) 3 3) ∧ Box w' w.heap.size (row116 B k) 20 ∧ Below w.heap.size w w' := by
  have T := (Below.refl w.heap.size w).drew.alloc (Nat.le_refl _) (.cells (row116 B k) 20)
  have X : Box (w.drew.alloc (.cells (row116 B k) 20)) w.heap.size (row116 B k) 20 := Box.new w.drew 20 (row116 B k)
  unfold row116 at T X ⊢
  replace X := Lib.hid X
  replace T := Lib.hid T
  go_enter Tryd.func48, Tryd.ntmps48
  go_upto_region 13 with fail
  go_still_tail 12, (by kernel_rfl)
  go_wp2
  go_ret
  exact ⟨rfl, X.out, T.out⟩
def row108 (B k : Nat) : Array Value := #[.iface 96 (ptrAt B k), .iface 98 (ptrAt B (k + 1)), .iface 98 (ptrAt B (k + 2)), .iface 96 (ptrAt B (k + 3))]
set_option maxHeartbeats 16000000 in
set_option maxRecDepth 100000 in
theorem parts_108 (B k : Nat) (w : World) : Calls Tryd.prog 48 #[.iface 108 (ptrAt B k)] w fun e w' => e = .returned (.slice (some ⟨w.heap.size, 0, none⟩) 4 4) ∧ Box w' w.heap.size (row108 B k) 20 ∧ Below w.heap.size w w' := by
  have T := (Below.refl w.heap.size w).drew.alloc (Nat.le_refl _) (.cells (row108 B k) 20)
  have X : Box (w.drew.alloc (.cells (row108 B k) 20)) w.heap.size (row108 B k) 20 := Box.new w.drew 20 (row108 B k)
  unfold row108 at T X ⊢
  replace X := Lib.hid X
  replace T := Lib.hid T
  go_enter Tryd.func48, Tryd.ntmps48
  go_upto_region 16 with fail
  go_still_tail 16, (by kernel_rfl)
  go_wp2
  go_ret
  exact ⟨rfl, X.out, T.out⟩
def row80 (B k : Nat) : Array Value := #[.iface 100 (ptrAt B k), .iface 96 (ptrAt B (k + 1)), .iface 117 (ptrAt B (k + 2))]
set_option maxHeartbeats 16000000 in
set_option maxRecDepth 100000 in
theorem parts_80 (B k : Nat) (w : World) : Calls Tryd.prog 48 #[.iface 80 (ptrAt B k)] w fun e w' => e = .returned (.slice (some ⟨w.heap.size, 0, none⟩) 3 3) ∧ Box w' w.heap.size (row80 B k) 20 ∧ Below w.heap.size w w' := by
  have T := (Below.refl w.heap.size w).drew.alloc (Nat.le_refl _) (.cells (row80 B k) 20)
  have X : Box (w.drew.alloc (.cells (row80 B k) 20)) w.heap.size (row80 B k) 20 := Box.new w.drew 20 (row80 B k)
  unfold row80 at T X ⊢
  replace X := Lib.hid X
  replace T := Lib.hid T
  go_enter Tryd.func48, Tryd.ntmps48
  go_upto_region 19 with fail
  go_still_tail 12, (by kernel_rfl)
  go_wp2
  go_ret
  exact ⟨rfl, X.out, T.out⟩
def row117 (B k : Nat) : Array Value := #[.iface 96 (ptrAt B k), .iface 96 (ptrAt B (k + 1)), .iface 96 (ptrAt B (k + 2)), .iface 96 (ptrAt B (k + 3)), .iface 96 (ptrAt B (k + 4)), .iface 96 (ptrAt B (k + 5)), .iface 96 (ptrAt B (k + 6)), .iface 96 (ptrAt B (k + 7))]
set_option maxHeartbeats 16000000 in
set_option maxRecDepth 100000 in
theorem parts_117 (B k : Nat) (w : World) : Calls Tryd.prog 48 #[.iface 117 (ptrAt B k)] w fun e w' => e = .returned (.slice (some ⟨w.heap.size, 0, none⟩) 8 8) ∧ Box w' w.heap.size (row117 B k) 20 ∧ Below w.heap.size w w' := by
  have T := (Below.refl w.heap.size w).drew.alloc (Nat.le_refl _) (.cells (row117 B k) 20)
  have X : Box (w.drew.alloc (.cells (row117 B k) 20)) w.heap.size (row117 B k) 20 := Box.new w.drew 20 (row117 B k)
  unfold row117 at T X ⊢
  replace X := Lib.hid X
  replace T := Lib.hid T
  go_enter Tryd.func48, Tryd.ntmps48
  go_upto_region 22 with fail
  go_still_tail 32, (by kernel_rfl)
  go_wp2
  go_ret
  exact ⟨rfl, X.out, T.out⟩
end Go.Proofs.YtamjnekdfhocdaaDoor
