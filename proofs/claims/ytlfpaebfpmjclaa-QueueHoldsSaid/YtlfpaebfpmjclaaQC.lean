/- A queue as an object in memory: a ring behind a pointer; what the calls that only read answer. No condition. -/
import Derived.Test.YtlfpaebfpmjclaaQB
import Derived.Deep.DeepCutAuto
import Derived.Deep.CutBlock
import Derived.Deep.RegionHeld3
import Derived.Deep.RegionLaw
import Derived.StillTailTactics
namespace Go.Proofs.Ytlfpaebfpmjclaa
open Go.RowKit
set_option linter.unusedVariables false
theorem i64_id {x : Int} (h : -9223372036854775808 ≤ x ∧ x < 9223372036854775808) : IntKind.i64.wrap x = x := by
  simp [IntKind.wrap, IntKind.bits, IntKind.signed]; omega
theorem box_ne {W : World} {B B' : Nat} {vs vs' : Array Value} {t t' : TypeId} (h : Box W B vs t) (h' : Box W B' vs' t') (ht : t ≠ t') : B ≠ B' := fun e => by
  subst e
  have h1 : W.heap[B]? = some (.cells vs t (0, 0)) := h
  rw [show W.heap[B]? = some (.cells vs' t' (0, 0)) from h'] at h1
  injection h1 with h3
  injection h3 with _ h4 _
  exact ht h4.symm
/-- All blocks that lie, but those of a set, lie as they lay. -/
structure Off (S : Nat → Prop) (w w' : World) : Prop where
  os : w'.os = w.os
  tape : w'.tape = w.tape
  output : w'.output = w.output
  size : w.heap.size ≤ w'.heap.size
  block : ∀ k, k < w.heap.size → ¬ S k → w'.heap[k]? = w.heap[k]?
theorem Off.of {S : Nat → Prop} {w w' : World} (h : Below w.heap.size w w') : Off S w w' := ⟨h.os, h.tape, h.output, h.size, fun k hk _ => h.block k hk⟩
theorem Off.mono {S T : Nat → Prop} {w w' : World} (h : Off S w w') (hS : ∀ k, k < w.heap.size → S k → T k) : Off T w w' :=
  ⟨h.os, h.tape, h.output, h.size, fun k hk hT => h.block k hk (fun hs => hT (hS k hk hs))⟩
theorem Off.trans {S T : Nat → Prop} {a b c : World} (h : Off S a b) (k : Off T b c) (hT : ∀ i, i < a.heap.size → T i → S i) : Off S a c :=
  ⟨k.os.trans h.os, k.tape.trans h.tape, k.output.trans h.output, Nat.le_trans h.size k.size, fun i hi hS => (k.block i (Nat.lt_of_lt_of_le hi h.size) (fun ht => hS (hT i hi ht))).trans (h.block i hi hS)⟩
theorem Off.below {S : Nat → Prop} {n : Nat} {w w' : World} (h : Off S w w') (hS : ∀ k, k < w.heap.size → S k → n ≤ k) (hn : n ≤ w.heap.size) : Below n w w' :=
  ⟨h.os, h.tape, h.output, h.size, fun k hk => h.block k (by omega) (fun hs => by have := hS k (by omega) hs; omega)⟩
theorem Off.box {S : Nat → Prop} {w w' : World} {B : Nat} {vs : Array Value} {t : TypeId} (h : Off S w w') (b : Box w B vs t) (hn : ¬ S B) : Box w' B vs t := (h.block B b.lt hn).trans b
theorem Off.set {S : Nat → Prop} {w w' : World} (h : Off S w w') {B : Nat} (hB : S B) (i : Nat) (v : Value) : Off S w (w'.setCell ⟨B, i, none⟩ v) :=
  ⟨h.os, h.tape, h.output, by simpa [World.setCell] using h.size, fun k hk hn => (Below.heap_setCell _ _ _ k (fun e => hn (by rw [show k = B from e]; exact hB))).trans (h.block k hk hn)⟩
theorem Off.owns {S : Nat → Prop} {w w' : World} {base n : Nat} {e : TypeId} {size : Nat} {v : Value} {xs : List Value} (h : Off S w w') (o : w.ownsRow base e size v n xs) (hn : ∀ g, v.ownBlock = some g → ¬ S g) : w'.ownsRow base e size v n xs := by
  obtain ⟨h1, h2⟩ := o
  refine ⟨h1, h2.imp id ?_⟩
  rintro ⟨g, cap, cur, rfl, a2, a3, a4⟩
  exact ⟨g, cap, cur, rfl, a2, (h.block g (Array.getElem?_eq_some_iff.1 a3).1 (hn g rfl)).trans a3, a4⟩
theorem own_below {w w' : World} {base : Nat} {e : TypeId} {size : Nat} {v : Value} {n : Nat} {xs : List Value} (h : w.ownsRow base e size v n xs) (hb : Below w.heap.size w w') : w'.ownsRow base e size v n xs :=
  h.kept (row := none) ⟨hb.os, hb.tape, hb.output, hb.size, fun k hk _ => hb.block k hk⟩ (by cases hv : v.ownBlock <;> simp)
theorem own_mono {w : World} {base base' size n : Nat} {e : TypeId} {v : Value} {xs : List Value} (h : w.ownsRow base e size v n xs) (hb : base' ≤ base) : w.ownsRow base' e size v n xs := by
  obtain ⟨h1, h2⟩ := h
  refine ⟨h1, h2.imp id ?_⟩
  rintro ⟨g, cap, cur, a1, a2, a3⟩
  exact ⟨g, cap, cur, a1, Nat.le_trans hb a2, a3⟩
theorem own_some {w : World} {base : Nat} {e : TypeId} {size : Nat} {v : Value} {n : Nat} {xs : List Value} (h : w.ownsRow base e size v n xs) (hn : 0 < n) :
    ∃ g cap cur, v = .slice (some ⟨g, 0, none⟩) n cap ∧ base ≤ g ∧ g < w.heap.size ∧ n ≤ cap ∧ cap ≤ maxLen ∧ Box w g cur e ∧ ∀ j u, xs[j]? = some u → w.cell? ((⟨g, 0, none⟩ : Addr).add j) = some u := by
  have hc := fun g (e : v.ownBlock = some g) => h.cells e
  have hl := h.lt
  rcases h.2 with ⟨_, h0⟩ | ⟨g, cap, cur, rfl, hb, hB, hk, hm, _, _⟩
  · omega
  · exact ⟨g, cap, cur, rfl, hb, (hl g rfl).2, hk, hm, hB, hc g rfl⟩
theorem own_len {w : World} {base : Nat} {e : TypeId} {size : Nat} {v : Value} {n : Nat} {xs : List Value} (h : w.ownsRow base e size v n xs) : ∃ a cap, v = .slice a n cap ∧ n ≤ cap ∧ cap ≤ maxLen := by
  rcases h.2 with ⟨rfl, rfl⟩ | ⟨g, cap, cur, rfl, _, _, hk, hm, _, _⟩
  · exact ⟨none, 0, rfl, Nat.le_refl _, by decide⟩
  · exact ⟨_, cap, rfl, hk, hm⟩

/-- A ring's places from f on hold a row. -/
def RingIs (D : List Pk) (f : Nat) (L : List Pk) : Prop :=
  L.length ≤ D.length ∧ (f < D.length ∨ (D = [] ∧ f = 0)) ∧ ∀ i, i < L.length → D[(f + i) % D.length]? = L[i]?
abbrev quA (P R k s : Int) (v : Value) (f : Int) : Array Value := #[eI P, eI R, eI k, eI s, v, eI f]
/-- Block B holds a queue of the row L, with room for P packets and R bytes: its ring is v, whose packets are D, the first one's place is f. -/
structure Qr (w : World) (B : Nat) (P R : Int) (L : List Pk) (v : Value) (n f : Nat) (D : List Pk) : Prop where
  box : Box w B (quA P R L.length (bsum L) v f) 44
  row : w.ownsRow 0 31 4 v n (rowV D)
  len : D.length = n
  ring : RingIs D f L
  cap : (n : Int) ≤ P
  hP : 1 ≤ P ∧ P ≤ 4096
  hR : 1 ≤ R ∧ R ≤ 16777216
  fit : Fit P R L
abbrev quC (w : World) (B : Nat) (P R k s : Int) (v : Value) (f : Int) : Prop :=
  w.cell? ⟨B, 0, none⟩ = some (.int .i64 P) ∧ w.cell? ⟨B, 1, none⟩ = some (.int .i64 R) ∧ w.cell? ⟨B, 2, none⟩ = some (.int .i64 k) ∧ w.cell? ⟨B, 3, none⟩ = some (.int .i64 s) ∧ w.cell? ⟨B, 4, none⟩ = some v ∧ w.cell? ⟨B, 5, none⟩ = some (.int .i64 f)
theorem Box.qu {w : World} {B : Nat} {P R k s : Int} {v : Value} {f : Int} {t : TypeId} (h : Box w B (quA P R k s v f) t) : quC w B P R k s v f :=
  ⟨h.cell 0, h.cell 1, h.cell 2, h.cell 3, h.cell 4, h.cell 5⟩
section
variable {w w' : World} {B : Nat} {P R : Int} {L : List Pk} {v : Value} {n f : Nat} {D : List Pk}
theorem Qr.below (h : Qr w B P R L v n f D) (hb : Below w.heap.size w w') : Qr w' B P R L v n f D :=
  ⟨h.box.below hb, own_below h.row hb, h.len, h.ring, h.cap, h.hP, h.hR, h.fit⟩
theorem Qr.drew (h : Qr w B P R L v n f D) : Qr w.drew B P R L v n f D := h.below (Below.refl _ w).drew
theorem Qr.off {S : Nat → Prop} (h : Qr w B P R L v n f D) (hO : Off S w w') (hB : ¬ S B) (hv : ∀ g, v.ownBlock = some g → ¬ S g) : Qr w' B P R L v n f D :=
  ⟨hO.box h.box hB, hO.owns h.row hv, h.len, h.ring, h.cap, h.hP, h.hR, h.fit⟩
theorem Qr.nz (h : Qr w B P R L v n f D) : (P == 0) = false := by have := h.hP; simp; omega
theorem Qr.form (h : Qr w B P R L v n f D) : ∃ a cap, v = .slice a n cap ∧ n ≤ cap ∧ cap ≤ maxLen := own_len h.row
theorem Qr.pos (h : Qr w B P R L v n f D) (h0 : 0 < L.length) : 0 < n := by have := h.ring.1; rw [h.len] at this; omega
theorem Qr.first (h : Qr w B P R L v n f D) (h0 : 0 < n) : f < n := by
  rcases h.ring.2.1 with h1 | ⟨h1, _⟩
  · rw [h.len] at h1; exact h1
  · have := h.len; rw [h1] at this; simp at this; omega
theorem Qr.few (h : Qr w B P R L v n f D) : n ≤ 4096 := by have := h.cap; have := h.hP; omega
theorem Qr.f_lt (h : Qr w B P R L v n f D) : f ≤ 4096 := by
  have := h.few
  rcases Nat.eq_zero_or_pos n with h0 | h0
  · rcases h.ring.2.1 with h1 | ⟨_, h1⟩
    · rw [h.len] at h1; omega
    · omega
  · have := h.first h0; omega
theorem Qr.many (h : Qr w B P R L v n f D) : L.length ≤ n := by have := h.ring.1; rw [h.len] at this; exact this
end
section
variable (B : Nat) (P R k s f : Int) (v : Value) (w : World)
theorem none_any (h : Box w B (quA P R k s v f) 44) (hP : (P == 0) = false) :
    Calls Try.prog 24 #[.pointer (some ⟨B, 0, none⟩)] w fun e w' => e = .returned (.bool false) ∧ w = w' := by
  obtain ⟨c0, c1, c2, c3, c4, c5⟩ := h.qu
  clear h
  go_enter Try.func24, Try.ntmps24
  go_wp2
  go_ret
  exact ⟨rfl, rfl⟩
theorem none_nil : Calls Try.prog 24 #[.pointer none] w fun e w' => e = .returned (.bool true) ∧ w = w' := by
  go_enter Try.func24, Try.ntmps24
  go_wp2
  go_ret
  exact ⟨rfl, rfl⟩
theorem none_zero (h : Box w B (quA 0 0 k s v f) 44) :
    Calls Try.prog 24 #[.pointer (some ⟨B, 0, none⟩)] w fun e w' => e = .returned (.bool true) ∧ w = w' := by
  obtain ⟨c0, c1, c2, c3, c4, c5⟩ := h.qu
  clear h
  go_enter Try.func24, Try.ntmps24
  go_wp2
  go_ret
  exact ⟨rfl, rfl⟩
end
end Go.Proofs.Ytlfpaebfpmjclaa
