/- What the program's own Dot answers. Conditions: words; rows as long as an int can count. What both calls of Dot answer, rows of whatever length. Conditions: words; rows as long as an int can count. -/
import Derived.Test.YtpopcnebndgblaaGreatGC
import Derived.Test.YtpopcnebndgblaaGreatGA
import Derived.WalkLawsBesides
import Derived.Deep.RegionHeld3
import Derived.LoopTactic
import Derived.Deep.RegionWith
import Derived.Deep.CutRange
namespace Go.Proofs.YtpopcnebndgblaaGreat
open Go.RowKit W
set_option linter.unusedVariables false
end Go.Proofs.YtpopcnebndgblaaGreat
namespace Go.Proofs.YtpopcnebndgblaaGreat
open Go.RowKit W
set_option linter.unusedVariables false
/-- A row of n words f 0, f 1, .. at an address. -/
def Row (w : World) (ad : Option Addr) (n : Nat) (f : Nat → Int) : Prop := n = 0 ∨ ∃ b o, ad = some ⟨b, o, none⟩ ∧ b < w.heap.size ∧ ∀ j, j < n → w.cell? ⟨b, o + j, none⟩ = some (.int .u64 (f j))
theorem Row.below {W w : World} {ad : Option Addr} {n : Nat} {f : Nat → Int} (h : Row W ad n f) (hb : Below W.heap.size W w) : Row w ad n f := by
  rcases h with h | ⟨b, o, h1, h2, h3⟩
  · exact .inl h
  · exact .inr ⟨b, o, h1, Nat.lt_of_lt_of_le h2 hb.size, fun j hj => (hb.cell (p := ⟨b, o + j, none⟩) h2).trans (h3 j hj)⟩
theorem Row.alloc {w : World} {ad : Option Addr} {n : Nat} {f : Nat → Int} (h : Row w ad n f) (x : Obj) : Row (w.alloc x) ad n f := h.below (up1 w x)

end Go.Proofs.YtpopcnebndgblaaGreat
