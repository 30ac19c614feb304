/- Kinds and their names; the bytes of a command, of a reply. No condition. -/
import Derived.Test.YtamjnekdfhocdaaDoorCmC
import Derived.Test.YtamjnekdfhocdaaDoorCmF
import Derived.Test.YtamjnekdfhocdaaDoorCmQ
namespace Go.Proofs.YtamjnekdfhocdaaDoor
open Go.ChangeShapes Go.WideShapes Go.Deep Go.RowKit
set_option linter.unusedVariables false
set_option linter.unusedSimpArgs false
section
variable {P : Program} {ops : Array Oper} {rest : List Oper} {o : Oper} {a : Act} {w : World} {Q : Exit → Act → World → Prop}
/-- An operation that is wanted and yields a value. -/
theorem wl_run {v : Value} (hr : (execOp a.eval o).run P w = .ok (.value v) w) (hw : Region.wanted o (yielded ops a.tmps) = true) (h : wpList P ops Q rest (a.put o.dst v) w) : wpList P ops Q (o :: rest) a w := by
  refine wpList_step fun K hK => ?_
  rw [if_pos hw]
  unfold Oper.wp
  rw [hr]
  exact hK _ _ h
end
/-- The names of the kinds. -/
def nmL : List ByteArray := [⟨#[99, 111, 110, 102, 105, 103]⟩, ⟨#[97, 100, 100]⟩, ⟨#[99, 104, 97, 110, 103, 101]⟩, ⟨#[100, 101, 108, 101, 116, 101]⟩, ⟨#[97, 114, 114, 105, 118, 101]⟩, ⟨#[97, 100, 118, 97, 110, 99, 101]⟩, ⟨#[97, 115, 107]⟩]
def nmT (j : Nat) : ByteArray := nmL.getD j ⟨#[]⟩
/-- The program's own row of names lies where its text lays it. -/
def Names (w : World) : Prop := 0 < w.heap.size ∧ ∀ j, j < 7 → w.cell? ⟨0, j, none⟩ = some (.string (nmT j))
theorem Names.below {w w' : World} {n : Nat} (h : Names w) (hb : Below n w w') (hn : 0 < n) : Names w' :=
  ⟨Nat.lt_of_lt_of_le h.1 hb.size, fun j hj => (hb.cell (p := ⟨0, j, none⟩) hn).trans (h.2 j hj)⟩
theorem Names.up {w w' : World} (h : Names w) (hb : Below w.heap.size w w') : Names w' := h.below hb h.1
/-- A kind's name, and whether it is one. -/
def isK (k : Nat) : Bool := decide (1 ≤ k ∧ k ≤ 7)
def nmK (k : Nat) : ByteArray := if 1 ≤ k ∧ k ≤ 7 then nmT (k - 1) else ⟨#[]⟩
set_option maxHeartbeats 16000000 in
set_option maxRecDepth 100000 in
theorem Name_any {w : World} (h : Names w) (k : Nat) (hk : k < 256) : Calls Tryd.prog 13 #[.int .u8 (k : Int)] w fun e w' => e = .returned (.tuple #[.string (nmK k), .bool (isK k)]) ∧ w = w' := by
  by_cases h1 : k = 1
  · subst h1
    have hc := h.2 0 (by omega)
    rw [show nmK 1 = nmT 0 from rfl, show isK 1 = true from rfl]
    generalize nmT 0 = q at hc ⊢
    clear h
    go_enter Tryd.func13, Tryd.ntmps13
    go_wp2
    go_ret2
    exact ⟨rfl, rfl⟩
  by_cases h2 : k = 2
  · subst h2
    have hc := h.2 1 (by omega)
    rw [show nmK 2 = nmT 1 from rfl, show isK 2 = true from rfl]
    generalize nmT 1 = q at hc ⊢
    clear h
    go_enter Tryd.func13, Tryd.ntmps13
    go_wp2
    go_ret2
    exact ⟨rfl, rfl⟩
  by_cases h3 : k = 3
  · subst h3
    have hc := h.2 2 (by omega)
    rw [show nmK 3 = nmT 2 from rfl, show isK 3 = true from rfl]
    generalize nmT 2 = q at hc ⊢
    clear h
    go_enter Tryd.func13, Tryd.ntmps13
    go_wp2
    go_ret2
    exact ⟨rfl, rfl⟩
  by_cases h4 : k = 4
  · subst h4
    have hc := h.2 3 (by omega)
    rw [show nmK 4 = nmT 3 from rfl, show isK 4 = true from rfl]
    generalize nmT 3 = q at hc ⊢
    clear h
    go_enter Tryd.func13, Tryd.ntmps13
    go_wp2
    go_ret2
    exact ⟨rfl, rfl⟩
  by_cases h5 : k = 5
  · subst h5
    have hc := h.2 4 (by omega)
    rw [show nmK 5 = nmT 4 from rfl, show isK 5 = true from rfl]
    generalize nmT 4 = q at hc ⊢
    clear h
    go_enter Tryd.func13, Tryd.ntmps13
    go_wp2
    go_ret2
    exact ⟨rfl, rfl⟩
  by_cases h6 : k = 6
  · subst h6
    have hc := h.2 5 (by omega)
    rw [show nmK 6 = nmT 5 from rfl, show isK 6 = true from rfl]
    generalize nmT 5 = q at hc ⊢
    clear h
    go_enter Tryd.func13, Tryd.ntmps13
    go_wp2
    go_ret2
    exact ⟨rfl, rfl⟩
  by_cases h7 : k = 7
  · subst h7
    have hc := h.2 6 (by omega)
    rw [show nmK 7 = nmT 6 from rfl, show isK 7 = true from rfl]
    generalize nmT 6 = q at hc ⊢
    clear h
    go_enter Tryd.func13, Tryd.ntmps13
    go_wp2
    go_ret2
    exact ⟨rfl, rfl⟩
  have hk2 : ¬ (1 ≤ k ∧ k ≤ 7) := by omega
  rw [show nmK k = ⟨#[]⟩ from if_neg hk2, show isK k = false from decide_eq_false hk2]
  clear h
  by_cases h0 : k = 0
  · subst h0
    go_enter Tryd.func13, Tryd.ntmps13
    go_wp2
    go_ret2
    exact ⟨rfl, rfl⟩
  · have j1 : ¬ (k : Int) < 1 := by omega
    have j2 : 7 < (k : Int) := by omega
    go_enter Tryd.func13, Tryd.ntmps13
    go_wp2
    go_ret2
    exact ⟨rfl, rfl⟩
end Go.Proofs.YtamjnekdfhocdaaDoor
