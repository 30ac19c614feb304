/- The kind of a name, by the program and by the document. No condition. -/
import Derived.Test.YtamjnekdfhocdaaDoorCmV
namespace Go.Proofs.YtamjnekdfhocdaaDoor
open Go.ChangeShapes Go.WideShapes Go.Deep Go.RowKit
set_option linter.unusedVariables false
set_option linter.unusedSimpArgs false
/-- The kind whose name it is, from kind j + 1 on. -/
def kdF (s : ByteArray) : Nat → Nat → Nat
  | 0, _ => 0
  | n + 1, j => if nmT j = s then j + 1 else kdF s n (j + 1)
def kdN (s : ByteArray) : Nat := kdF s 7 0
def kdV (s : ByteArray) : Value := .tuple #[.int .u8 (kdN s : Int), .bool (decide (kdN s ≠ 0))]
theorem bytes_inj {a b : ByteArray} (h : a.toList = b.toList) : a = b := by
  rw [ByteArray.toList_eq, ByteArray.toList_eq] at h
  exact ByteArray.ext (Array.ext' h)
theorem bytes_eq (a b : ByteArray) : (a.toList == b.toList) = decide (a = b) := by
  by_cases h : a = b
  · subst h
    rw [decide_eq_true rfl, beq_self_eq_true]
  · rw [decide_eq_false h]
    exact beq_eq_false_iff_ne.2 (fun e => h (bytes_inj e))
set_option maxHeartbeats 16000000 in
set_option maxRecDepth 100000 in
theorem RName_any (w : World) (k : Nat) (hk : k < 256) : Calls Tryd.prog 14 #[.int .u8 (k : Int)] w fun e w' => e = .returned (.tuple #[.string (nmK k), .bool (isK k)]) ∧ w = w' := by
  by_cases h1 : k = 1
  · subst h1
    go_enter Tryd.func14, Tryd.ntmps14
    go_wp2
    go_ret2
    exact ⟨rfl, rfl⟩
  by_cases h2 : k = 2
  · subst h2
    go_enter Tryd.func14, Tryd.ntmps14
    go_wp2
    go_ret2
    exact ⟨rfl, rfl⟩
  by_cases h3 : k = 3
  · subst h3
    go_enter Tryd.func14, Tryd.ntmps14
    go_wp2
    go_ret2
    exact ⟨rfl, rfl⟩
  by_cases h4 : k = 4
  · subst h4
    go_enter Tryd.func14, Tryd.ntmps14
    go_wp2
    go_ret2
    exact ⟨rfl, rfl⟩
  by_cases h5 : k = 5
  · subst h5
    go_enter Tryd.func14, Tryd.ntmps14
    go_wp2
    go_ret2
    exact ⟨rfl, rfl⟩
  by_cases h6 : k = 6
  · subst h6
    go_enter Tryd.func14, Tryd.ntmps14
    go_wp2
    go_ret2
    exact ⟨rfl, rfl⟩
  by_cases h7 : k = 7
  · subst h7
    go_enter Tryd.func14, Tryd.ntmps14
    go_wp2
    go_ret2
    exact ⟨rfl, rfl⟩
  have hk2 : ¬ (1 ≤ k ∧ k ≤ 7) := by omega
  rw [show nmK k = ⟨#[]⟩ from if_neg hk2, show isK k = false from decide_eq_false hk2]
  have j1 : ((k : Int) == 1) = false := beq_eq_false_iff_ne.2 (by omega)
  have j2 : ((k : Int) == 2) = false := beq_eq_false_iff_ne.2 (by omega)
  have j3 : ((k : Int) == 3) = false := beq_eq_false_iff_ne.2 (by omega)
  have j4 : ((k : Int) == 4) = false := beq_eq_false_iff_ne.2 (by omega)
  have j5 : ((k : Int) == 5) = false := beq_eq_false_iff_ne.2 (by omega)
  have j6 : ((k : Int) == 6) = false := beq_eq_false_iff_ne.2 (by omega)
  have j7 : ((k : Int) == 7) = false := beq_eq_false_iff_ne.2 (by omega)
  clear h1 h2 h3 h4 h5 h6 h7 hk2
  go_enter Tryd.func14, Tryd.ntmps14
  go_wp2
  go_ret2
  exact ⟨rfl, rfl⟩
theorem kdF_next {s : ByteArray} {n j : Nat} (h : ¬ nmT j = s) : kdF s (n + 1) j = kdF s n (j + 1) := by rw [kdF, if_neg h]
theorem kdF_here {s : ByteArray} {n j : Nat} (h : nmT j = s) : kdF s (n + 1) j = j + 1 := by rw [kdF, if_pos h]
set_option maxHeartbeats 16000000 in
set_option maxRecDepth 100000 in
theorem RKind_any (w : World) (s : ByteArray) : Calls Tryd.prog 16 #[.string s] w fun e w' => e = .returned (kdV s) ∧ w = w' := by
  unfold kdV
  obtain ⟨K, hK⟩ : ∃ K, kdN s = K := ⟨_, rfl⟩
  rw [hK]
  replace hK : kdF s 7 0 = K := hK
  replace hK := Lib.hid hK
  go_enter Tryd.func16, Tryd.ntmps16
  go_wp2
  go_loopw [4] (fun s4 wr => ∃ j : Nat, s4 = .int .u8 ((j : Int) + 1) ∧ j ≤ 7 ∧ Hid (kdF s (7 - j) j = K) ∧ w = wr) (fun s4 _ => 8 - (intOf s4).toNat)
  case atStart => exact ⟨0, rfl, Nat.zero_le _, hK, rfl⟩
  case round =>
    obtain ⟨j, rfl, hj, hF, rfl⟩ := hrel
    by_cases hlt : j < 7
    · have j0 : (j : Int) + 1 < 8 := by omega
      have hN := RName_any w (j + 1) (by omega)
      rw [show (((j + 1 : Nat) : Int)) = (j : Int) + 1 by omega, show nmK (j + 1) = nmT j by unfold nmK; rw [if_pos ⟨by omega, by omega⟩]; rfl, show isK (j + 1) = true from decide_eq_true ⟨by omega, by omega⟩] at hN
      have hw : IntKind.u8.wrap ((j : Int) + 1 + 1) = (j : Int) + 1 + 1 := by rw [IntKind.wrap_u8]; omega
      have hq := bytes_eq (nmT j) s
      have h7 : 7 - j = (6 - j) + 1 := by omega
      have h8 : 7 - (j + 1) = 6 - j := by omega
      by_cases he : nmT j = s
      · rw [decide_eq_true he] at hq
        have hv : K = j + 1 := by have := hF.out; rw [h7, kdF_here he] at this; exact this.symm
        have hvd : decide (K ≠ 0) = true := by rw [hv]; rfl
        have hvi : (K : Int) = (j : Int) + 1 := by omega
        clear he hF hK hv h7 h8
        go_wp2_with (go_at_call 14; (with_reducible refine hN.mono ?_); rintro e w1 ⟨rfl, rfl⟩)
        go_ret2
        exact ⟨by rw [hvd, hvi]; rfl, rfl⟩
      · rw [decide_eq_false he] at hq
        have hF2 : Hid (kdF s (7 - (j + 1)) (j + 1) = K) := Lib.hid (by have := hF.out; rw [h7, kdF_next he] at this; rw [h8]; exact this)
        clear he hF hK h7 h8
        go_wp2_with (go_at_call 14; (with_reducible refine hN.mono ?_); rintro e w1 ⟨rfl, rfl⟩)
        go_roundw
        case rel => exact ⟨j + 1, by simp, hlt, hF2, trivial⟩
        case measure => simp only [intOf]; omega
    · obtain rfl : j = 7 := by omega
      have hv : K = 0 := hF.out.symm
      subst hv
      go_wp2
      go_ret2
      exact ⟨rfl, rfl⟩
abbrev nmA : Array Value := #[.string (nmT 0), .string (nmT 1), .string (nmT 2), .string (nmT 3), .string (nmT 4), .string (nmT 5), .string (nmT 6)]
theorem idx_at (j : Nat) (hj : j < 7) (W : World) : (Instr.index 83 (.agg nmA) (.int .i64 (j : Int))).run Tryd.prog W = .ok (.string (nmT j)) W := by
  rcases (by omega : j = 0 ∨ j = 1 ∨ j = 2 ∨ j = 3 ∨ j = 4 ∨ j = 5 ∨ j = 6) with rfl | rfl | rfl | rfl | rfl | rfl | rfl <;> kernel_rfl
set_option maxHeartbeats 16000000 in
set_option maxRecDepth 100000 in
theorem Kind_any {w : World} (h : Names w) (s : ByteArray) : Calls Tryd.prog 15 #[.string s] w fun e w' => e = .returned (kdV s) ∧ w = w' := by
  have c0 := h.2 0 (by decide)
  have c1 := h.2 1 (by decide)
  have c2 := h.2 2 (by decide)
  have c3 := h.2 3 (by decide)
  have c4 := h.2 4 (by decide)
  have c5 := h.2 5 (by decide)
  have c6 := h.2 6 (by decide)
  clear h
  unfold kdV
  obtain ⟨K, hK⟩ : ∃ K, kdN s = K := ⟨_, rfl⟩
  rw [hK]
  replace hK : kdF s 7 0 = K := hK
  replace hK := Lib.hid hK
  go_enter Tryd.func15, Tryd.ntmps15
  go_wp2
  clear c0 c1 c2 c3 c4 c5 c6
  go_loopw [7] (fun s7 wr => ∃ j : Nat, s7 = .int .i64 (j : Int) ∧ j ≤ 7 ∧ Hid (kdF s (7 - j) j = K) ∧ w = wr) (fun s7 _ => 8 - (intOf s7).toNat)
  case atStart => exact ⟨0, rfl, Nat.zero_le _, hK, rfl⟩
  case round =>
    obtain ⟨j, rfl, hj, hF, rfl⟩ := hrel
    by_cases hlt : j < 7
    · have j0 : (j : Int) < 7 := by omega
      have hI := idx_at j hlt w
      have hw : IntKind.u8.wrap (1 + (j : Int)) = (j : Int) + 1 := by rw [IntKind.wrap_u8]; omega
      have hw2 : IntKind.u8.wrap (j : Int) = (j : Int) := by rw [IntKind.wrap_u8]; omega
      have hq := bytes_eq (nmT j) s
      have h7 : 7 - j = (6 - j) + 1 := by omega
      have h8 : 7 - (j + 1) = 6 - j := by omega
      by_cases he : nmT j = s
      · rw [decide_eq_true he] at hq
        have hv : K = j + 1 := by have := hF.out; rw [h7, kdF_here he] at this; exact this.symm
        have hvd : decide (K ≠ 0) = true := by rw [hv]; rfl
        have hvi : (K : Int) = (j : Int) + 1 := by omega
        clear he hF hK hv h7 h8
        go_wp2
        go_ret2
        exact ⟨by rw [hvd, hvi]; rfl, rfl⟩
      · rw [decide_eq_false he] at hq
        have hF2 : Hid (kdF s (7 - (j + 1)) (j + 1) = K) := Lib.hid (by have := hF.out; rw [h7, kdF_next he] at this; rw [h8]; exact this)
        clear he hF hK h7 h8
        go_wp2
        go_roundw
        case rel => exact ⟨j + 1, by simp, hlt, hF2, trivial⟩
        case measure => simp only [intOf]; omega
    · obtain rfl : j = 7 := by omega
      have hv : K = 0 := hF.out.symm
      subst hv
      go_wp2
      go_ret2
      exact ⟨rfl, rfl⟩
theorem xl_neb32 {o : Oper} {a : Act} {w : World} {x y : Operand} {C D : Cm} {t : TypeId} {b : Bool} (hb : (!decide (C = D)) = b) (ho : o.op = .binOp .neq 32 x y t) (hx : a.eval x = .agg (cmV C)) (hy : a.eval y = .agg (cmV D)) : (execOp a.eval o).run Tryd.prog w = .ok (.value (.bool b)) w := by rw [← hb]; exact xl_neq32 ho hx hy
theorem xl_eqb32 {o : Oper} {a : Act} {w : World} {x y : Operand} {C D : Cm} {t : TypeId} {b : Bool} (hb : (decide (C = D)) = b) (ho : o.op = .binOp .eql 32 x y t) (hx : a.eval x = .agg (cmV C)) (hy : a.eval y = .agg (cmV D)) : (execOp a.eval o).run Tryd.prog w = .ok (.value (.bool b)) w := by rw [← hb]; exact xl_eql32 ho hx hy
theorem xl_neb37 {o : Oper} {a : Act} {w : World} {x y : Operand} {C D : Rp} {t : TypeId} {b : Bool} (hb : (!decide (C = D)) = b) (ho : o.op = .binOp .neq 37 x y t) (hx : a.eval x = .agg (rpV C)) (hy : a.eval y = .agg (rpV D)) : (execOp a.eval o).run Tryd.prog w = .ok (.value (.bool b)) w := by rw [← hb]; exact xl_neq37 ho hx hy
theorem xl_eqb37 {o : Oper} {a : Act} {w : World} {x y : Operand} {C D : Rp} {t : TypeId} {b : Bool} (hb : (decide (C = D)) = b) (ho : o.op = .binOp .eql 37 x y t) (hx : a.eval x = .agg (rpV C)) (hy : a.eval y = .agg (rpV D)) : (execOp a.eval o).run Tryd.prog w = .ok (.value (.bool b)) w := by rw [← hb]; exact xl_eql37 ho hx hy
end Go.Proofs.YtamjnekdfhocdaaDoor
