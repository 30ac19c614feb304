/- What curves have together at a tick: the walk of the program's own sum. -/
import Derived.Test.YtpopcnebndgblaaGreatAtS
namespace Go.Proofs.YtpopcnebndgblaaGreat
open Go.RowKit Go.Shelf W
set_option linter.unusedVariables false
attribute [local go_sem] Oper.semAt_some
theorem wrapU {x : Int} (h : Word x) : IntKind.u64.wrap x = x := by unfold Word at h; simp [IntKind.wrap, IntKind.bits, IntKind.signed]; omega
theorem two_new (w : World) (x y : Int) : ∀ j u, [eU x, eU y][j]? = some u → (w.alloc (.cells #[eU x, eU y] 30)).cell? ((⟨w.heap.size, 0, none⟩ : Addr).add j) = some u := by
  intro j u hj
  have hb : (w.alloc (.cells #[eU x, eU y] 30)).heap[w.heap.size]? = some (.cells #[eU x, eU y] 30 (0, 0)) := World.alloc_heap_new w _
  exact World.news_of_block hb j u (by simpa using hj)
theorem two_at (w : World) (B : Nat) (hB : w.heap.size = B) (x y : Int) : ∀ j u, [eU x, eU y][j]? = some u → (w.alloc (.cells #[eU x, eU y] 30)).cell? ((⟨B, 0, none⟩ : Addr).add j) = some u := by
  subst hB; exact two_new w x y
/-- Between two rounds. -/
def AtI (w : World) (t : Int) (pre : List CW) (W : World) : Prop :=
  (∃ v u, Two w.heap.size (w.heap.size + 5) (w.heap.size + 1 + 1) (w.heap.size + 1 + 1 + 1) (slL (unW pre)) (tkL t (unW pre)) v u W) ∧ (Boxed W w.heap.size 30 (eU t) ∧ Box W (w.heap.size + 1) #[eU 0, eU 0] 89) ∧ Below w.heap.size w W ∧ w.heap.size + 5 ≤ W.heap.size
theorem AtI.own (w : World) (t : Int) (B : Nat) (hB : w.heap.size ≤ B) : OwnFrom B (AtI w t) := by
  rintro s X Y row ⟨⟨v, u, h2⟩, ⟨hb, hx⟩, hw, hz⟩ hg hr
  have hne : ∀ {b : Nat} {cs : Array Value} {ty : TypeId}, Box X b cs ty → some b ≠ row := fun hb' e => by
    obtain ⟨_, o, ho, hc⟩ := hr _ e.symm
    rw [show X.heap[_]? = _ from hb'] at ho; cases ho; cases hc
  exact ⟨⟨v, u, h2.kept hg (fun r e => (hr r e).2)⟩, ⟨hb.kept hg (hne (cs := #[eU t]) (ty := 30) hb), (hg.block _ hx.lt (hne hx)).trans hx⟩, hw.grown hg hw.size (fun k e => Nat.le_trans hB (hr k e).1), Nat.le_trans hz hg.size⟩
end Go.Proofs.YtpopcnebndgblaaGreat
