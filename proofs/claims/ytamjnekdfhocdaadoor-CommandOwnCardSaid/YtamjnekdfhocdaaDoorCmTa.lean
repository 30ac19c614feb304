/- What an assertion on a pointer under an interface tells. No condition. -/
import Derived.Test.YtamjnekdfhocdaaDoorCmA
namespace Go.Proofs.YtamjnekdfhocdaaDoor
open Go.ChangeShapes Go.WideShapes Go.Deep Go.RowKit
set_option linter.unusedVariables false
abbrev ptrAt (B k : Nat) : Value := .pointer (some ⟨B, k, none⟩)
theorem ta105_yes (W : World) (v : Value) : (Instr.typeAssert (.iface 105 v) 20 105 true).run Tryd.prog W = .ok (.tuple #[v, .bool true]) W := by kernel_rfl
theorem ta105_nil (W : World) : (Instr.typeAssert .nilIface 20 105 true).run Tryd.prog W = .ok (.tuple #[.pointer none, .bool false]) W := by kernel_rfl
theorem ta105_z (W : World) : (do pure (Value.tuple #[← zeroValue 105, .bool false]) : Sem Value).run Tryd.prog W = .ok (.tuple #[.pointer none, .bool false]) W := by kernel_rfl
theorem ta105_no (W : World) (u : TypeId) (v : Value) (h : u ≠ 105) : (Instr.typeAssert (.iface u v) 20 105 true).run Tryd.prog W = .ok (.tuple #[.pointer none, .bool false]) W := by
  have e : (Instr.typeAssert (.iface u v) 20 105 true).run Tryd.prog W = (if u = 105 then (pure (Value.tuple #[v, .bool true]) : Sem Value) else (do pure (Value.tuple #[← zeroValue 105, .bool false]))).run Tryd.prog W := by kernel_rfl
  rw [e, if_neg h]
  exact ta105_z W
theorem ta106_yes (W : World) (v : Value) : (Instr.typeAssert (.iface 106 v) 20 106 true).run Tryd.prog W = .ok (.tuple #[v, .bool true]) W := by kernel_rfl
theorem ta106_nil (W : World) : (Instr.typeAssert .nilIface 20 106 true).run Tryd.prog W = .ok (.tuple #[.pointer none, .bool false]) W := by kernel_rfl
theorem ta106_z (W : World) : (do pure (Value.tuple #[← zeroValue 106, .bool false]) : Sem Value).run Tryd.prog W = .ok (.tuple #[.pointer none, .bool false]) W := by kernel_rfl
theorem ta106_no (W : World) (u : TypeId) (v : Value) (h : u ≠ 106) : (Instr.typeAssert (.iface u v) 20 106 true).run Tryd.prog W = .ok (.tuple #[.pointer none, .bool false]) W := by
  have e : (Instr.typeAssert (.iface u v) 20 106 true).run Tryd.prog W = (if u = 106 then (pure (Value.tuple #[v, .bool true]) : Sem Value) else (do pure (Value.tuple #[← zeroValue 106, .bool false]))).run Tryd.prog W := by kernel_rfl
  rw [e, if_neg h]
  exact ta106_z W
theorem ta107_yes (W : World) (v : Value) : (Instr.typeAssert (.iface 107 v) 20 107 true).run Tryd.prog W = .ok (.tuple #[v, .bool true]) W := by kernel_rfl
theorem ta107_nil (W : World) : (Instr.typeAssert .nilIface 20 107 true).run Tryd.prog W = .ok (.tuple #[.pointer none, .bool false]) W := by kernel_rfl
theorem ta107_z (W : World) : (do pure (Value.tuple #[← zeroValue 107, .bool false]) : Sem Value).run Tryd.prog W = .ok (.tuple #[.pointer none, .bool false]) W := by kernel_rfl
theorem ta107_no (W : World) (u : TypeId) (v : Value) (h : u ≠ 107) : (Instr.typeAssert (.iface u v) 20 107 true).run Tryd.prog W = .ok (.tuple #[.pointer none, .bool false]) W := by
  have e : (Instr.typeAssert (.iface u v) 20 107 true).run Tryd.prog W = (if u = 107 then (pure (Value.tuple #[v, .bool true]) : Sem Value) else (do pure (Value.tuple #[← zeroValue 107, .bool false]))).run Tryd.prog W := by kernel_rfl
  rw [e, if_neg h]
  exact ta107_z W
theorem ta98_yes (W : World) (v : Value) : (Instr.typeAssert (.iface 98 v) 20 98 true).run Tryd.prog W = .ok (.tuple #[v, .bool true]) W := by kernel_rfl
theorem ta98_nil (W : World) : (Instr.typeAssert .nilIface 20 98 true).run Tryd.prog W = .ok (.tuple #[.pointer none, .bool false]) W := by kernel_rfl
theorem ta98_z (W : World) : (do pure (Value.tuple #[← zeroValue 98, .bool false]) : Sem Value).run Tryd.prog W = .ok (.tuple #[.pointer none, .bool false]) W := by kernel_rfl
theorem ta98_no (W : World) (u : TypeId) (v : Value) (h : u ≠ 98) : (Instr.typeAssert (.iface u v) 20 98 true).run Tryd.prog W = .ok (.tuple #[.pointer none, .bool false]) W := by
  have e : (Instr.typeAssert (.iface u v) 20 98 true).run Tryd.prog W = (if u = 98 then (pure (Value.tuple #[v, .bool true]) : Sem Value) else (do pure (Value.tuple #[← zeroValue 98, .bool false]))).run Tryd.prog W := by kernel_rfl
  rw [e, if_neg h]
  exact ta98_z W
theorem ta108_yes (W : World) (v : Value) : (Instr.typeAssert (.iface 108 v) 20 108 true).run Tryd.prog W = .ok (.tuple #[v, .bool true]) W := by kernel_rfl
theorem ta108_nil (W : World) : (Instr.typeAssert .nilIface 20 108 true).run Tryd.prog W = .ok (.tuple #[.pointer none, .bool false]) W := by kernel_rfl
theorem ta108_z (W : World) : (do pure (Value.tuple #[← zeroValue 108, .bool false]) : Sem Value).run Tryd.prog W = .ok (.tuple #[.pointer none, .bool false]) W := by kernel_rfl
theorem ta108_no (W : World) (u : TypeId) (v : Value) (h : u ≠ 108) : (Instr.typeAssert (.iface u v) 20 108 true).run Tryd.prog W = .ok (.tuple #[.pointer none, .bool false]) W := by
  have e : (Instr.typeAssert (.iface u v) 20 108 true).run Tryd.prog W = (if u = 108 then (pure (Value.tuple #[v, .bool true]) : Sem Value) else (do pure (Value.tuple #[← zeroValue 108, .bool false]))).run Tryd.prog W := by kernel_rfl
  rw [e, if_neg h]
  exact ta108_z W
theorem ta96_yes (W : World) (v : Value) : (Instr.typeAssert (.iface 96 v) 20 96 true).run Tryd.prog W = .ok (.tuple #[v, .bool true]) W := by kernel_rfl
theorem ta96_nil (W : World) : (Instr.typeAssert .nilIface 20 96 true).run Tryd.prog W = .ok (.tuple #[.pointer none, .bool false]) W := by kernel_rfl
theorem ta96_z (W : World) : (do pure (Value.tuple #[← zeroValue 96, .bool false]) : Sem Value).run Tryd.prog W = .ok (.tuple #[.pointer none, .bool false]) W := by kernel_rfl
theorem ta96_no (W : World) (u : TypeId) (v : Value) (h : u ≠ 96) : (Instr.typeAssert (.iface u v) 20 96 true).run Tryd.prog W = .ok (.tuple #[.pointer none, .bool false]) W := by
  have e : (Instr.typeAssert (.iface u v) 20 96 true).run Tryd.prog W = (if u = 96 then (pure (Value.tuple #[v, .bool true]) : Sem Value) else (do pure (Value.tuple #[← zeroValue 96, .bool false]))).run Tryd.prog W := by kernel_rfl
  rw [e, if_neg h]
  exact ta96_z W
theorem ta116_yes (W : World) (v : Value) : (Instr.typeAssert (.iface 116 v) 20 116 true).run Tryd.prog W = .ok (.tuple #[v, .bool true]) W := by kernel_rfl
theorem ta116_nil (W : World) : (Instr.typeAssert .nilIface 20 116 true).run Tryd.prog W = .ok (.tuple #[.pointer none, .bool false]) W := by kernel_rfl
theorem ta116_z (W : World) : (do pure (Value.tuple #[← zeroValue 116, .bool false]) : Sem Value).run Tryd.prog W = .ok (.tuple #[.pointer none, .bool false]) W := by kernel_rfl
theorem ta116_no (W : World) (u : TypeId) (v : Value) (h : u ≠ 116) : (Instr.typeAssert (.iface u v) 20 116 true).run Tryd.prog W = .ok (.tuple #[.pointer none, .bool false]) W := by
  have e : (Instr.typeAssert (.iface u v) 20 116 true).run Tryd.prog W = (if u = 116 then (pure (Value.tuple #[v, .bool true]) : Sem Value) else (do pure (Value.tuple #[← zeroValue 116, .bool false]))).run Tryd.prog W := by kernel_rfl
  rw [e, if_neg h]
  exact ta116_z W
theorem ta80_yes (W : World) (v : Value) : (Instr.typeAssert (.iface 80 v) 20 80 true).run Tryd.prog W = .ok (.tuple #[v, .bool true]) W := by kernel_rfl
theorem ta80_nil (W : World) : (Instr.typeAssert .nilIface 20 80 true).run Tryd.prog W = .ok (.tuple #[.pointer none, .bool false]) W := by kernel_rfl
theorem ta80_z (W : World) : (do pure (Value.tuple #[← zeroValue 80, .bool false]) : Sem Value).run Tryd.prog W = .ok (.tuple #[.pointer none, .bool false]) W := by kernel_rfl
theorem ta80_no (W : World) (u : TypeId) (v : Value) (h : u ≠ 80) : (Instr.typeAssert (.iface u v) 20 80 true).run Tryd.prog W = .ok (.tuple #[.pointer none, .bool false]) W := by
  have e : (Instr.typeAssert (.iface u v) 20 80 true).run Tryd.prog W = (if u = 80 then (pure (Value.tuple #[v, .bool true]) : Sem Value) else (do pure (Value.tuple #[← zeroValue 80, .bool false]))).run Tryd.prog W := by kernel_rfl
  rw [e, if_neg h]
  exact ta80_z W
theorem ta117_yes (W : World) (v : Value) : (Instr.typeAssert (.iface 117 v) 20 117 true).run Tryd.prog W = .ok (.tuple #[v, .bool true]) W := by kernel_rfl
theorem ta117_nil (W : World) : (Instr.typeAssert .nilIface 20 117 true).run Tryd.prog W = .ok (.tuple #[.pointer none, .bool false]) W := by kernel_rfl
theorem ta117_z (W : World) : (do pure (Value.tuple #[← zeroValue 117, .bool false]) : Sem Value).run Tryd.prog W = .ok (.tuple #[.pointer none, .bool false]) W := by kernel_rfl
theorem ta117_no (W : World) (u : TypeId) (v : Value) (h : u ≠ 117) : (Instr.typeAssert (.iface u v) 20 117 true).run Tryd.prog W = .ok (.tuple #[.pointer none, .bool false]) W := by
  have e : (Instr.typeAssert (.iface u v) 20 117 true).run Tryd.prog W = (if u = 117 then (pure (Value.tuple #[v, .bool true]) : Sem Value) else (do pure (Value.tuple #[← zeroValue 117, .bool false]))).run Tryd.prog W := by kernel_rfl
  rw [e, if_neg h]
  exact ta117_z W
theorem ta100_yes (W : World) (v : Value) : (Instr.typeAssert (.iface 100 v) 20 100 true).run Tryd.prog W = .ok (.tuple #[v, .bool true]) W := by kernel_rfl
theorem ta100_nil (W : World) : (Instr.typeAssert .nilIface 20 100 true).run Tryd.prog W = .ok (.tuple #[.pointer none, .bool false]) W := by kernel_rfl
theorem ta100_z (W : World) : (do pure (Value.tuple #[← zeroValue 100, .bool false]) : Sem Value).run Tryd.prog W = .ok (.tuple #[.pointer none, .bool false]) W := by kernel_rfl
theorem ta100_no (W : World) (u : TypeId) (v : Value) (h : u ≠ 100) : (Instr.typeAssert (.iface u v) 20 100 true).run Tryd.prog W = .ok (.tuple #[.pointer none, .bool false]) W := by
  have e : (Instr.typeAssert (.iface u v) 20 100 true).run Tryd.prog W = (if u = 100 then (pure (Value.tuple #[v, .bool true]) : Sem Value) else (do pure (Value.tuple #[← zeroValue 100, .bool false]))).run Tryd.prog W := by kernel_rfl
  rw [e, if_neg h]
  exact ta100_z W
theorem ta101_yes (W : World) (v : Value) : (Instr.typeAssert (.iface 101 v) 20 101 true).run Tryd.prog W = .ok (.tuple #[v, .bool true]) W := by kernel_rfl
theorem ta101_nil (W : World) : (Instr.typeAssert .nilIface 20 101 true).run Tryd.prog W = .ok (.tuple #[.pointer none, .bool false]) W := by kernel_rfl
theorem ta101_z (W : World) : (do pure (Value.tuple #[← zeroValue 101, .bool false]) : Sem Value).run Tryd.prog W = .ok (.tuple #[.pointer none, .bool false]) W := by kernel_rfl
theorem ta101_no (W : World) (u : TypeId) (v : Value) (h : u ≠ 101) : (Instr.typeAssert (.iface u v) 20 101 true).run Tryd.prog W = .ok (.tuple #[.pointer none, .bool false]) W := by
  have e : (Instr.typeAssert (.iface u v) 20 101 true).run Tryd.prog W = (if u = 101 then (pure (Value.tuple #[v, .bool true]) : Sem Value) else (do pure (Value.tuple #[← zeroValue 101, .bool false]))).run Tryd.prog W := by kernel_rfl
  rw [e, if_neg h]
  exact ta101_z W
end Go.Proofs.YtamjnekdfhocdaaDoor
