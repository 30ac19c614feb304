/- math/bits.OnesCount64 and TrailingZeros64, every x. Condition of the second: the library's table. -/
import Derived.Test.YtenghpgnhmglpaaDoorTbO
import Derived.Shelf.Spec.TrailingZeros
import Derived.Laws.Bits128
namespace Go.Proofs.YtenghpgnhmglpaaDoor
open Go.RowKit
set_option linter.unusedVariables false
theorem and_u64 (a b : Nat) (c : Int) (ha : a < 18446744073709551616) (hc : c = (b : Int)) (hb : b < 18446744073709551616) : bits .and .u64 (a : Int) c = ((a &&& b : Nat) : Int) := by subst hc; exact u64_and_nat a b ha hb
theorem and_u64_div (a d b : Nat) (D c : Int) (ha : a < 18446744073709551616) (hD : D = (d : Int)) (hc : c = (b : Int)) (hb : b < 18446744073709551616) : bits .and .u64 ((a : Int) / D) c = ((a / d &&& b : Nat) : Int) := by
  subst hc hD
  exact u64_and_nat (a / d) b (Nat.lt_of_le_of_lt (Nat.div_le_self _ _) ha) hb
theorem wrap_id {n : Int} (h0 : 0 ≤ n) (h1 : n < 18446744073709551616) : IntKind.u64.wrap n = n := by
  simp [IntKind.wrap, IntKind.bits, IntKind.signed]; omega
set_option maxHeartbeats 1000000 in
theorem ones_any (x : Nat) (hx : x < 18446744073709551616) (w : World) : Calls Tryd.prog 47 #[eU (x : Int)] w fun e w' => e = .returned (eI (popN x 64 : Int)) ∧ w = w' := by
  obtain ⟨x1, x2, x3, e1, e2, e3, l1, l2, l3, l4, e4⟩ := swar x hx
  have a1 := and_u64_div x 2 6148914691236517205 2 6148914691236517205 hx rfl rfl (by decide)
  have a2 := and_u64 x 6148914691236517205 6148914691236517205 hx rfl (by decide)
  generalize (x / 2 &&& 6148914691236517205) = p at *
  generalize (x &&& 6148914691236517205) = q at *
  have a3 : IntKind.u64.wrap ((p : Int) + (q : Int)) = (x1 : Int) := by rw [wrap_id (by omega) (by omega)]; omega
  have a4 := and_u64_div x1 4 3689348814741910323 4 3689348814741910323 l1 rfl rfl (by decide)
  have a5 := and_u64 x1 3689348814741910323 3689348814741910323 l1 rfl (by decide)
  generalize (x1 / 4 &&& 3689348814741910323) = p2 at *
  generalize (x1 &&& 3689348814741910323) = q2 at *
  have a6 : IntKind.u64.wrap ((p2 : Int) + (q2 : Int)) = (x2 : Int) := by rw [wrap_id (by omega) (by omega)]; omega
  have a7 : IntKind.u64.wrap ((x2 : Int) / 16 + (x2 : Int)) = ((x2 / 16 + x2 : Nat) : Int) := by rw [wrap_id (by omega) (by omega)]; omega
  have a8 := and_u64 (x2 / 16 + x2) 1085102592571150095 1085102592571150095 l3 rfl (by decide)
  rw [e3] at a8
  generalize x2 / 16 + x2 = y at *
  obtain ⟨z1, hz1⟩ : ∃ z, x3 + x3 / 256 = z := ⟨_, rfl⟩
  rw [hz1] at e4
  have a9 : IntKind.u64.wrap ((x3 : Int) + (x3 : Int) / 256) = (z1 : Int) := by rw [wrap_id (by omega) (by omega)]; omega
  obtain ⟨z2, hz2⟩ : ∃ z, z1 + z1 / 65536 = z := ⟨_, rfl⟩
  rw [hz2] at e4
  have b1 : IntKind.u64.wrap ((z1 : Int) + (z1 : Int) / 65536) = (z2 : Int) := by rw [wrap_id (by omega) (by omega)]; omega
  obtain ⟨z3, hz3⟩ : ∃ z, z2 + z2 / 4294967296 = z := ⟨_, rfl⟩
  rw [hz3] at e4
  have b2 : IntKind.u64.wrap ((z2 : Int) + (z2 : Int) / 4294967296) = (z3 : Int) := by rw [wrap_id (by omega) (by omega)]; omega
  have b3 : IntKind.i64.wrap (z3 : Int) = (z3 : Int) := i64_id (by omega)
  have b4 := i64_and127 (z3 : Int)
  have b5 : (z3 : Int) % 128 = (popN x 64 : Int) := by omega
  generalize popN x 64 = n at *
  clear e1 e2 e3 e4 hz1 hz2 hz3 l1 l2 l3 l4
  go_enter Tryd.func47, Tryd.ntmps47
  go_wp2
  go_ret
  exact ⟨rfl, rfl⟩
/-- The library's table, in its variable. -/
def Tab (w : World) : Prop := 0 < w.heap.size ∧ TabAt 0 Lib.deBruijn64tab w
theorem Tab.below {w w' : World} (h : Tab w) (hb : Below w.heap.size w w') : Tab w' :=
  ⟨Nat.lt_of_lt_of_le h.1 hb.size, fun j hj => (hb.cell (p := ⟨0, j, none⟩) h.1).trans (h.2 j hj)⟩
theorem Tab.block {w w' : World} (h : Tab w) (h1 : w.heap.size ≤ w'.heap.size) (h2 : w'.heap[0]? = w.heap[0]?) : Tab w' :=
  ⟨Nat.lt_of_lt_of_le h.1 h1, fun j hj => (World.cell?_of_block (a := ⟨0, j, none⟩) h2).trans (h.2 j hj)⟩
theorem ctz_zero (w : World) : Calls Tryd.prog 51 #[eU 0] w fun e w' => e = .returned (eI 64) ∧ w = w' := by
  go_enter Tryd.func51, Tryd.ntmps51
  go_wp2
  go_ret
  exact ⟨rfl, rfl⟩
set_option maxHeartbeats 1000000 in
theorem ctz_core (x k idx : Nat) (w : World) (hx0 : ((x : Int) == 0) = false)
    (key : IntKind.u64.wrap (bits BinOp.and IntKind.u64 (x : Int) (IntKind.u64.wrap (-(x : Int))) * 285870213051353865) / 288230376151711744 = (idx : Int))
    (hi : idx < 64) (hk : k < 64) (hcell : w.cell? ⟨0, idx, none⟩ = some (.int .u8 k)) :
    Calls Tryd.prog 51 #[.int .u64 x] w fun e w' => e = .returned (eI k) ∧ w = w' := by
  have hw : IntKind.i64.wrap (k : Int) = (k : Int) := i64_id (by omega)
  go_enter Tryd.func51, Tryd.ntmps51
  go_wp2_with (simp only [key])
  go_ret
  exact ⟨rfl, rfl⟩
/-- The number of trailing zero bits, every x. -/
theorem ctz_any (x : Nat) (hx : x < 18446744073709551616) (w : World) (hT : Tab w) : Calls Tryd.prog 51 #[eU (x : Int)] w fun e w' => e = .returned (eI (Lib.ctz 64 x : Int)) ∧ w = w' := by
  by_cases hx0 : x = 0
  · subst hx0
    exact ctz_zero w
  · obtain ⟨hlow, hk⟩ := Lib.lowest_bit 64 x hx0 hx
    obtain ⟨hi, htab⟩ := Lib.deBruijn64_at _ hk
    have hcell := hT.2 _ hi
    rw [htab] at hcell
    exact ctz_core x _ _ w (by simp; omega) (tz64_key x _ hx hx0 hlow) hi hk hcell
end Go.Proofs.YtenghpgnhmglpaaDoor
