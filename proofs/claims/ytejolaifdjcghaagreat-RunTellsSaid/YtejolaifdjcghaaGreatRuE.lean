/- A run goes on: other starts that are the same so far; one start more. -/
import Derived.Test.YtejolaifdjcghaaGreatRuC
namespace Go.Proofs.YtejolaifdjcghaaGreat
open Go.RowKit Go.Shelf W
set_option linter.unusedVariables false
set_option maxRecDepth 100000
namespace W
theorem xS_congr {X X' : Nat → Int} : ∀ {n : Nat}, (∀ i, i < n → X i = X' i) → xS X n = xS X' n
  | 0, _ => rfl
  | n + 1, h => by rw [xS_succ, xS_succ, h n (by omega), xS_congr (n := n) (fun i hi => h i (by omega))]
theorem allL_congr {X X' Y Y' : Nat → Int} : ∀ {n : Nat}, (∀ i, i < n → X i = X' i) → (∀ i, i < n → Y i = Y' i) → allL X Y n = allL X' Y' n
  | 0, _, _ => rfl
  | n + 1, h, g => by
    rw [allL_succ, allL_succ, allL_congr (n := n) (fun i hi => h i (by omega)) (fun i hi => g i (by omega))]
    unfold cpy
    rw [xS_congr (n := n + 1) h, g n (by omega)]
theorem hS_congr {s o : Int} {X X' Y Y' : Nat → Int} : ∀ {n : Nat}, (∀ i, i < n → X i = X' i) → (∀ i, i < n → Y i = Y' i) → hS s o X Y n = hS s o X' Y' n
  | 0, _, _ => rfl
  | 1, h, g => by rw [hS_one, hS_one, g 0 (by omega)]
  | n + 2, h, g => by
    have e1 := hS_succ (s := s) (o := o) (X := X) (Y := Y) (k := n + 1) (by omega)
    have e2 := hS_succ (s := s) (o := o) (X := X') (Y := Y') (k := n + 1) (by omega)
    have e3 := hS_congr (s := s) (o := o) (X := X) (X' := X') (Y := Y) (Y' := Y') (n := n + 1) (fun i hi => h i (by omega)) (fun i hi => g i (by omega))
    have e4 := xS_congr (X := X) (X' := X') (n := n + 1 + 1) h
    have e5 := xS_congr (X := X) (X' := X') (n := n + 1) (fun i hi => h i (by omega))
    show hS s o X Y (n + 1 + 1) = hS s o X' Y' (n + 1 + 1)
    rw [e1, e2, e3, e4, e5, g (n + 1) (by omega)]
/-- The starts so far, and one more. -/
def upd (X : Nat → Int) (n : Nat) (x : Int) (i : Nat) : Int := if i < n then X i else x
theorem upd_lt {X : Nat → Int} {n : Nat} {x : Int} {i : Nat} (h : i < n) : upd X n x i = X i := by unfold upd; rw [if_pos h]
theorem upd_at {X : Nat → Int} {n : Nat} {x : Int} : upd X n x n = x := by unfold upd; rw [if_neg (by omega)]
theorem upd_nn {X : Nat → Int} {n : Nat} {x : Int} (h : ∀ k, 0 ≤ X k) (hx : 0 ≤ x) (k : Nat) : 0 ≤ upd X n x k := by
  unfold upd
  split
  · exact h k
  · exact hx
theorem xS_upd {X : Nat → Int} {n : Nat} {x : Int} : xS (upd X n x) n = xS X n := xS_congr (fun i hi => upd_lt hi)
theorem allL_upd {X Y : Nat → Int} {n : Nat} {x y : Int} : allL (upd X n x) (upd Y n y) (n + 1) = allL X Y n ++ [(max (min x 9223372036854775808) (xS X n), min y 4611686018427387904)] := by
  rw [allL_succ, allL_congr (X' := X) (Y' := Y) (fun i hi => upd_lt hi) (fun i hi => upd_lt hi)]
  unfold cpy
  rw [xS_succ, xS_upd, upd_at, upd_at]
theorem xS_upd1 {X : Nat → Int} {n : Nat} {x : Int} : xS (upd X n x) (n + 1) = max (min x 9223372036854775808) (xS X n) := by rw [xS_succ, xS_upd, upd_at]
end W
section
variable {w : World} {S : Nat → Prop} {B n : Nat} {f l r : Int} {X X' Y Y' : Nat → Int}
theorem Rn.congr (h : Rn w B f l r X Y n) (hX : ∀ i, i < n → X i = X' i) (hY : ∀ i, i < n → Y i = Y' i) : Rn w B f l r X' Y' n := by
  unfold Rn at *
  rwa [xS_congr hX, hS_congr hX hY, hS_congr hX hY] at h
theorem RgF.congr (h : RgF w S B f l r X Y n) (hX : ∀ i, i < n → X i = X' i) (hY : ∀ i, i < n → Y i = Y' i) : RgF w S B f l r X' Y' n := by
  obtain ⟨K, ⟨h1, h2, h3, h4, h5, h6⟩, v, a, b, c, d, e⟩ := h
  rw [xS_congr hX] at h1 h2 a
  rw [allL_congr hX hY] at h2 h3
  exact ⟨K, ⟨h1, h2, h3, h4, h5, h6⟩, v, a, b, c, d, e⟩
theorem Ru.congr (h : Ru w S B f l r X Y n) (hX : ∀ i, i < n → X i = X' i) (hY : ∀ i, i < n → Y i = Y' i) : Ru w S B f l r X' Y' n := by
  obtain ⟨v, h1, h2, h3⟩ := h
  refine ⟨v, h1, h2, ?_⟩
  rcases h3 with ⟨a, Q, b, c, d⟩ | ⟨a, Q, b, c⟩
  · exact .inl ⟨a, Q, b, c, d.congr hX hY⟩
  · exact .inr ⟨a, Q, b, c.congr hX hY⟩
theorem ru_next (hY : ∀ k, 0 ≤ Y k) (x y : Int) (hx : Word x) (hy : Word y) (hn2 : n ≤ 800) (h : Ru w S B f l r X Y n) :
    Calls Tryz.prog 8 #[.pointer (some ⟨B, 0, none⟩), eU x, eU y] w fun e w' => e = .returned (.tuple #[]) ∧ (Ru w' (fun k => S k ∨ (w.heap.size ≤ k ∧ k < w'.heap.size)) B f l r (upd X n x) (upd Y n y) (n + 1) ∧ Off S w w') := by
  have := ru_start (X := upd X n x) (Y := upd Y n y) (upd_nn hY hy.1) S B n w hn2 (by rw [upd_at]; exact hx) (by rw [upd_at]; exact hy) (h.congr (fun i hi => (upd_lt hi).symm) (fun i hi => (upd_lt hi).symm))
  rwa [upd_at, upd_at] at this
end
end Go.Proofs.YtejolaifdjcghaaGreat
