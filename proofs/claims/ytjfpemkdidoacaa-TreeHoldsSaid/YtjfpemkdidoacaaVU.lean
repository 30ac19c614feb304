/- The document's row that owns its memory; a key that isn't there isn't dropped, one that is there isn't put. No condition but that it isn't long. -/
import Derived.Test.YtjfpemkdidoacaaVT
namespace Go.Proofs.Ytjfpemkdidoacaa
open Go.RowKit Go.Shelf
set_option linter.unusedVariables false
/-- Block R is a row of the items L, which lie in a block of its own behind m. -/
def RwO (W : World) (m R : Nat) (L : List It) : Prop := m ≤ R ∧ ∃ v : Value, Box W R #[v] 28 ∧ W.ownsRow m 43 3 v L.length (itC L) ∧ v.ownBlock ≠ some R
theorem itC_row {w : World} {m g cap : Nat} {L : List It} (h : w.ownsRow m 43 3 (.slice (some ⟨g, 0, none⟩) L.length cap) L.length (itC L)) : ItR w (some ⟨g, 0, none⟩) L := by
  have hg : g < w.heap.size := by
    rcases h.2 with ⟨e, _⟩ | ⟨g', cap', cur, e, hb, hg, _⟩
    · cases e
    · cases e; exact (Array.getElem?_eq_some_iff.1 hg).1
  refine .inr ⟨g, 0, rfl, hg, fun i hi => ?_⟩
  obtain ⟨g0, g1, g2⟩ := itC_get L i hi
  have hadd : ∀ j, (⟨g, 0, none⟩ : Addr).add j = ⟨g, 0 + j, none⟩ := fun j => by unfold Addr.add; split <;> simp_all
  have c0 := h.cells (g := g) rfl _ _ g0
  have c1 := h.cells (g := g) rfl _ _ g1
  have c2 := h.cells (g := g) rfl _ _ g2
  rw [hadd] at c0 c1 c2
  exact ⟨c0, c1, c2⟩
theorem RwO.rw {W : World} {m R : Nat} {L : List It} (h : RwO W m R L) : Rw W R L := by
  obtain ⟨_, v, h1, h2, _⟩ := h
  have h2' := h2
  rcases h2.2 with ⟨rfl, hn⟩ | ⟨g, cap, cur, rfl, hb, hg, hc, _⟩
  · have e : L = [] := List.length_eq_zero_iff.1 hn
    subst e
    exact ⟨none, 0, h1, Nat.le_refl _, .inl rfl⟩
  · exact ⟨some ⟨g, 0, none⟩, cap, h1, hc, itC_row h2'⟩
theorem atK_has {k : Ky} {L : List It} : (atK k L).isSome = has k L := by
  unfold atK has
  rw [List.findIdx?_isSome]
theorem atV_neg {o : Option Nat} : (0 ≤ atV o) ↔ o.isSome = true := by
  cases o with
  | none => simp [atV]
  | some i => simp [atV]
set_option maxRecDepth 100000 in
theorem rw_drop_no (R : Nat) (k : Ky) (L : List It) (w : World) (hl : L.length ≤ 100000) (h : Rw w R L) (hk : has k L = false) :
    Calls Try.prog 15 #[.pointer (some ⟨R, 0, none⟩), ky k] w fun e w' => e = .returned (eI 81) ∧ Below w.heap.size w w' := by
  have hA : ∀ w1, Below w.heap.size w w1 → Calls Try.prog 18 #[.pointer (some ⟨R, 0, none⟩), ky k] w1 fun e w' => e = .returned (.int .i64 (-1)) ∧ Below w1.heap.size w1 w' := fun w1 T => by
    have := rw_at R k L w1 hl (h.below T)
    have e : atK k L = none := by rw [← Option.isSome_eq_false_iff.trans Option.isNone_iff_eq_none, atK_has]; exact hk
    rw [e] at this
    exact this
  have T := up1 w (.cells #[eU k.1, eI k.2] 32)
  have b := Box.new w 32 #[eU k.1, eI k.2]
  obtain ⟨k0, k1⟩ := kyC b
  obtain ⟨W0, hW0⟩ : ∃ v, w.alloc (.cells #[eU k.1, eI k.2] 32) = v := ⟨_, rfl⟩
  rw [hW0] at T b k0 k1
  go_enter Try.func15, Try.ntmps15
  go_wp2_with (go_at_call 18; (with_reducible refine (hA _ T).mono ?_); rintro e w1 ⟨rfl, hb⟩)
  go_ret
  exact ⟨rfl, upp T hb⟩
set_option maxRecDepth 100000 in
theorem rw_put_twice (R : Nat) (k : Ky) (v : Int) (L : List It) (w : World) (hl : L.length ≤ 100000) (h : Rw w R L) (hk : has k L = true) :
    Calls Try.prog 16 #[.pointer (some ⟨R, 0, none⟩), ky k, eU v] w fun e w' => e = .returned (eI 80) ∧ Below w.heap.size w w' := by
  have hA : ∀ w1, Below w.heap.size w w1 → Calls Try.prog 18 #[.pointer (some ⟨R, 0, none⟩), ky k] w1 fun e w' => ∃ i : Nat, e = .returned (.int .i64 (i : Int)) ∧ Below w1.heap.size w1 w' := fun w1 T => by
    have hs : (atK k L).isSome = true := by rw [atK_has]; exact hk
    obtain ⟨i, hi⟩ := Option.isSome_iff_exists.1 hs
    refine (rw_at R k L w1 hl (h.below T)).mono fun e w' ⟨e1, e2⟩ => ⟨i, ?_, e2⟩
    rw [e1, hi]; rfl
  have T := up1 w (.cells #[eU k.1, eI k.2] 32)
  have b := Box.new w 32 #[eU k.1, eI k.2]
  obtain ⟨k0, k1⟩ := kyC b
  obtain ⟨W0, hW0⟩ : ∃ v, w.alloc (.cells #[eU k.1, eI k.2] 32) = v := ⟨_, rfl⟩
  rw [hW0] at T b k0 k1
  go_enter Try.func16, Try.ntmps16
  go_wp2_with (go_at_call 18; (with_reducible refine (hA _ T).mono ?_); rintro e w1 ⟨i, rfl, hb⟩; have hi0 : (0 : Int) ≤ (i : Int) := Int.natCast_nonneg i)
  go_ret
  exact ⟨rfl, upp T hb⟩
end Go.Proofs.Ytjfpemkdidoacaa
