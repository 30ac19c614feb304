/- Rows of words in memory: a cell, a row, what is appended. No condition. -/
import Derived.Test.YtiieehnfbemleaaDotAny
import Derived.Laws.AppendOwn
import Derived.Laws.OwnMore
import Derived.BigQuiet
import Derived.Deep.QuietTactic
import Derived.LoopTactic
namespace Go.Proofs.Ytiieehnfbemleaa
open Go.RowKit W
set_option linter.unusedVariables false
def At (w : World) (b o : Nat) (v : Int) : Prop := b < w.heap.size ∧ w.cell? ⟨b, o, none⟩ = some (.int .u64 v)
theorem At.below {W w : World} {b o : Nat} {v : Int} (h : At W b o v) (hb : Below W.heap.size W w) : At w b o v :=
  ⟨Nat.lt_of_lt_of_le h.1 hb.size, (hb.cell (p := ⟨b, o, none⟩) h.1).trans h.2⟩
theorem At.alloc {w : World} {b o : Nat} {v : Int} (h : At w b o v) (x : Obj) : At (w.alloc x) b o v := h.below (up1 w x)
theorem At.setNe {w : World} {b o : Nat} {v : Int} (h : At w b o v) {a : Addr} (hl : b ≠ a.block) (u : Value) : At (w.setCell a u) b o v := by
  obtain ⟨h1, h2⟩ := h
  have e : (w.setCell a u).heap[b]? = w.heap[b]? := Below.heap_setCell w a u b hl
  exact ⟨by simpa [World.setCell] using h1, (World.cell?_of_block (a := ⟨b, o, none⟩) e).trans h2⟩

theorem Row.at {w : World} {b o n : Nat} {f : Nat → Int} (h : Row w (some ⟨b, o, none⟩) n f) {k : Nat} (hk : k < n) : w.cell? ⟨b, o + k, none⟩ = some (.int .u64 (f k)) := by
  rcases h with h | ⟨b', o', h1, h2, h3⟩
  · omega
  · obtain ⟨rfl, rfl⟩ : b = b' ∧ o = o' := by simpa using h1
    exact h3 k hk
theorem info24 : (Try.prog.info? 24).map (fun i => (i.zero, i.size, i.bytes)) = some (some (.int .u64 0), 1, 8) := by kernel_rfl
/-- What is appended. -/
def newsOf (f : Nat → Int) (n : Nat) : List Value := (List.range n).map fun j => .int .u64 (f j)
theorem newsOf_len (f : Nat → Int) (n : Nat) : (newsOf f n).length = n := by simp [newsOf]
theorem newsOf_at (f : Nat → Int) (n j : Nat) (h : j < n) : (newsOf f n)[j]? = some (.int .u64 (f j)) := by simp [newsOf, h]
theorem newsOf_of (f : Nat → Int) (n j : Nat) (u : Value) (h : (newsOf f n)[j]? = some u) : j < n ∧ u = .int .u64 (f j) := by
  have hj : j < n := by
    have := (List.getElem?_eq_some_iff.1 h).1
    simpa [newsOf] using this
  rw [newsOf_at f n j hj] at h
  exact ⟨hj, (Option.some.inj h).symm⟩
end Go.Proofs.Ytiieehnfbemleaa
