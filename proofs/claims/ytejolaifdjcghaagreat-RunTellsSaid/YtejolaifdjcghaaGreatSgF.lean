/- A run's own blocks: what a start leaves of all else. -/
import Derived.Test.YtejolaifdjcghaaGreatSgX
import Derived.Test.YtejolaifdjcghaaGreatBnS
namespace Go.Proofs.YtejolaifdjcghaaGreat
open Go.RowKit Go.Shelf W
set_option linter.unusedVariables false
set_option maxRecDepth 100000
/-- All blocks that lie, but those of a set, lie as they lay. -/
structure Off (S : Nat → Prop) (w w' : World) : Prop where
  os : w'.os = w.os
  tape : w'.tape = w.tape
  output : w'.output = w.output
  size : w.heap.size ≤ w'.heap.size
  block : ∀ k, k < w.heap.size → ¬ S k → w'.heap[k]? = w.heap[k]?
theorem Off.of {S : Nat → Prop} {w w' : World} (h : Below w.heap.size w w') : Off S w w' := ⟨h.os, h.tape, h.output, h.size, fun k hk _ => h.block k hk⟩
theorem Off.mono {S T : Nat → Prop} {w w' : World} (h : Off S w w') (hS : ∀ k, k < w.heap.size → S k → T k) : Off T w w' :=
  ⟨h.os, h.tape, h.output, h.size, fun k hk hT => h.block k hk (fun hs => hT (hS k hk hs))⟩
theorem Off.trans {S T : Nat → Prop} {a b c : World} (h : Off S a b) (k : Off T b c) (hT : ∀ i, i < a.heap.size → T i → S i) : Off S a c :=
  ⟨k.os.trans h.os, k.tape.trans h.tape, k.output.trans h.output, Nat.le_trans h.size k.size, fun i hi hS => (k.block i (Nat.lt_of_lt_of_le hi h.size) (fun ht => hS (hT i hi ht))).trans (h.block i hi hS)⟩
theorem Off.below {S : Nat → Prop} {n : Nat} {w w' : World} (h : Off S w w') (hS : ∀ k, k < w.heap.size → S k → n ≤ k) (hn : n ≤ w.heap.size) : Below n w w' :=
  ⟨h.os, h.tape, h.output, h.size, fun k hk => h.block k (by omega) (fun hs => by have := hS k (by omega) hs; omega)⟩
theorem Off.box {S : Nat → Prop} {w w' : World} {B : Nat} {vs : Array Value} {t : TypeId} (h : Off S w w') (b : Box w B vs t) (hn : ¬ S B) : Box w' B vs t := (h.block B b.lt hn).trans b
/-- Block B holds a run of a sagging curve behind n starts; all of its blocks are in S. -/
def RgF (w : World) (S : Nat → Prop) (B : Nat) (f l r : Int) (X Y : Nat → Int) (n : Nat) : Prop :=
  ∃ K, KeptOk f l r X Y n K ∧ ∃ v, SgB w B f l r v (xS X n) n true ∧ KeptAt w 0 v K ∧ (K = [] → v = .slice none 0 0) ∧ S B ∧ ∀ g, v.ownBlock = some g → S g
section
variable {w W : World} {S T : Nat → Prop} {m B : Nat} {f l r : Int} {X Y : Nat → Int} {n : Nat} {K : List (Int × Int)}
theorem RgF.rg (h : RgF w S B f l r X Y n) : ∃ K, Rg w 0 B f l r X Y n K := by
  obtain ⟨K, h1, v, h2, h3, h4, _, _⟩ := h
  exact ⟨K, h1, v, h2, h3, h4⟩
theorem RgF.off (h : RgF W S B f l r X Y n) (hb : Off T W w) (hd : ∀ k, S k → ¬ T k) : RgF w S B f l r X Y n := by
  obtain ⟨K, h1, v, h2, h3, h4, h5, h6⟩ := h
  exact ⟨K, h1, v, hb.box h2 (hd B h5), h3.of fun g hg => hb.block g (h3.lt g hg).2 (hd g (h6 g hg)), h4, h5, h6⟩
theorem RgF.below (h : RgF W S B f l r X Y n) (hb : Below W.heap.size W w) : RgF w S B f l r X Y n := h.off (T := fun _ => False) (Off.of hb) (fun _ _ h => h)
theorem RgF.mono (h : RgF w S B f l r X Y n) (hS : ∀ k, S k → T k) : RgF w T B f l r X Y n := by
  obtain ⟨K, h1, v, h2, h3, h4, h5, h6⟩ := h
  exact ⟨K, h1, v, h2, h3, h4, hS B h5, fun g hg => hS g (h6 g hg)⟩
theorem Rg.foot (h : Rg w m B f l r X Y n K) (hm : m ≤ B) : RgF w (fun k => m ≤ k ∧ k < w.heap.size) B f l r X Y n := by
  obtain ⟨h1, v, h2, h3, h4⟩ := h
  exact ⟨K, h1, v, h2, h3.mono (Nat.zero_le _), h4, ⟨hm, h2.lt⟩, fun g hg => h3.lt g hg⟩
end
section
variable {f l r : Int} {X Y : Nat → Int} (hc : CvS f l r) (hY : ∀ k, 0 ≤ Y k)
include hc hY
theorem rgf_start (S : Nat → Prop) (B n : Nat) (w : World) (hn2 : n ≤ 800) (hX : Word (X n)) (hYw : Word (Y n)) (h : RgF w S B f l r X Y n) :
    Calls Tryz.prog 103 #[.pointer (some ⟨B, 0, none⟩), eU (X n), eU (Y n)] w fun e w' => e = .returned (.tuple #[]) ∧ RgF w' (fun k => S k ∨ (w.heap.size ≤ k ∧ k < w'.heap.size)) B f l r X Y (n + 1) ∧ Off S w w' := by
  obtain ⟨K, h1, v, h2, h3, h4, h5, h6⟩ := h
  have hlt := h2.lt
  have hlen := h1.len
  refine (sg_start 0 B K f l r (xS X n) n (X n) (Y n) _ _ (xS X (n + 1)) v w (by omega) h2 h3 (by omega) hc ⟨xS_nn _ _, xS_never _ _⟩ hX hYw rfl (by rw [xS_succ]; omega) rfl (i64_id _ ⟨by omega, by omega⟩) h1.good.1).mono ?_
  rintro e w' ⟨rfl, ⟨v', K', a1, a2, a3, a4⟩, F⟩
  have hk := h1.start hc hY a3
  refine ⟨rfl, ⟨K', hk, v', by rw [show ((n + 1 : Nat) : Int) = (n : Int) + 1 by omega]; exact a1, a2, fun e => by have := hk.pos (by omega); rw [e] at this; simp at this, .inl h5, fun g hg => ?_⟩, ⟨F.os, F.tape, F.output, F.size, fun k hk hS => F.block k hk (fun e => hS (by rw [e]; exact h5)) (fun e => hS (h6 k e.symm))⟩⟩
  rcases a4 with a4 | ⟨g', a4, a5⟩
  · exact .inl (h6 g (by rw [← a4]; exact hg))
  · have e : g' = g := by rw [a4] at hg; simpa using hg
    subst e
    exact .inr ⟨a5, (a2.lt g' hg).2⟩
end
/-- So of a bent curve's run. -/
theorem Rn.off {w W : World} {T : Nat → Prop} {B : Nat} {f l r : Int} {X Y : Nat → Int} {n : Nat} (h : Rn W B f l r X Y n) (hb : Off T W w) (hn : ¬ T B) : Rn w B f l r X Y n := hb.box h hn
theorem But.foot {B : Nat} {S : Nat → Prop} {w w' : World} (h : But B w w') (hB : S B) : Off S w w' := ⟨h.os, h.tape, h.output, h.size, fun k hk hS => h.block k hk (fun e => hS (by rw [e]; exact hB))⟩
end Go.Proofs.YtejolaifdjcghaaGreat
