/- What the tree's calls Height and Upto answer. No condition but that the tree is no higher than there is room. -/
import Derived.Test.YtjfpemkdidoacaaTV
import Derived.StillTailTactics
namespace Go.Proofs.Ytjfpemkdidoacaa
open Go.RowKit Go.Shelf
set_option linter.unusedVariables false
/-- All blocks outside S lie as they lay. -/
structure Off (S : Nat → Prop) (w w' : World) : Prop where
  os : w'.os = w.os
  tape : w'.tape = w.tape
  output : w'.output = w.output
  size : w.heap.size ≤ w'.heap.size
  block : ∀ k, k < w.heap.size → ¬ S k → w'.heap[k]? = w.heap[k]?
section
variable {S : Nat → Prop} {w w' : World}
theorem Off.of (h : Below w.heap.size w w') : Off S w w' := ⟨h.os, h.tape, h.output, h.size, fun k hk _ => h.block k hk⟩
theorem Off.set {a : World} (h : Off S a w) {B : Nat} (hB : S B) (i : Nat) (v : Value) : Off S a (w.setCell ⟨B, i, none⟩ v) :=
  ⟨h.os, h.tape, h.output, by simpa [World.setCell] using h.size, fun k hk hn => (Below.heap_setCell _ _ _ k (fun e => hn (by rw [show k = B from e]; exact hB))).trans (h.block k hk hn)⟩
theorem Off.box {B : Nat} {vs : Array Value} {t : TypeId} (h : Off S w w') (b : Box w B vs t) (hne : ¬ S B) : Box w' B vs t := (h.block B b.lt hne).trans b
theorem Off.below {n : Nat} (h : Off S w w') (hS : ∀ k, S k → n ≤ k) (hn : n ≤ w.heap.size) : Below n w w' :=
  ⟨h.os, h.tape, h.output, h.size, fun k hk => h.block k (Nat.lt_of_lt_of_le hk hn) (fun hs => by have := hS k hs; omega)⟩
end
theorem heightT_any (tp : Value) (p : Pt) (t : Tr) (w : World) (hT : Calls Try.prog 45 #[tp] w fun e w' => e = .returned (.pointer p) ∧ w = w') (hh : t.hgt < 4611686018427387904) (h : Tre w p t) :
    Calls Try.prog 28 #[tp] w fun e w' => e = .returned (eI t.hgt) ∧ Below w.heap.size w w' := by
  have hH := height_any t p w hh h
  go_enter Try.func28, Try.ntmps28
  go_wp2_with (first
    | (go_at_call 45; (with_reducible refine hT.mono ?_); rintro e w1 ⟨rfl, rfl⟩)
    | (go_at_call 54; (with_reducible refine hH.mono ?_); rintro e w2 ⟨rfl, hb2⟩))
  go_ret
  exact ⟨rfl, hb2⟩
set_option maxRecDepth 100000 in
set_option maxHeartbeats 2000000 in
theorem upto1_any (P0 P1 P2 P3 : Nat) (tp : Value) (p : Pt) (q u : Int) (s : Bool) (w : World) (hd : P0 < P2 ∧ P1 < P2 ∧ P2 < P3)
    (b0 : Box w P0 #[tp] 23) (b1 : Box w P1 #[eU q] 30) (b2 : Box w P2 #[eU 0] 30) (b3 : Box w P3 #[.bool false] 4)
    (hT : ∀ w1, Below w.heap.size w w1 → Calls Try.prog 45 #[tp] w1 fun e w' => e = .returned (.pointer p) ∧ w1 = w')
    (hU : ∀ w1, Below w.heap.size w w1 → Calls Try.prog 48 #[tp, .pointer p, eU q] w1 fun e w' => e = .returned (.tuple #[eU u, .bool s]) ∧ Below w1.heap.size w1 w') :
    Calls Try.prog 47 #[.pointer (some ⟨P0, 0, none⟩), .pointer (some ⟨P1, 0, none⟩), .pointer (some ⟨P2, 0, none⟩), .pointer (some ⟨P3, 0, none⟩)] w fun e w' =>
      e = .returned (.tuple #[]) ∧ Box w' P2 #[eU u] 30 ∧ Box w' P3 #[.bool s] 4 ∧ Off (fun k => k = P2 ∨ k = P3) w w' := by
  have hS : ∀ w', Box w' P0 #[tp] 23 → Box w' P1 #[eU q] 30 → w'.cell? ⟨P0, 0, none⟩ = some tp ∧ w'.cell? ⟨P1, 0, none⟩ = some (.int .u64 q) := fun w' h1 h2 => ⟨h1.cell 0, h2.cell 0⟩
  have hS0 := hS w b0 b1
  have n0 : P0 ≠ P2 := by omega
  have n1 : P1 ≠ P2 := by omega
  have n2 : P0 ≠ P3 := by omega
  have n3 : P1 ≠ P3 := by omega
  have n4 : P3 ≠ P2 := by omega
  go_enter Try.func47, Try.ntmps47
  go_upto_region 0 with (fail)
  obtain ⟨c0, c1⟩ := id hS0
  go_region_held3 (fun w' => w'.cell? ⟨P0, 0, none⟩ = some tp ∧ w'.cell? ⟨P1, 0, none⟩ = some (.int .u64 q))
    (first | exact hS0 | exact hS _ (b0.below hb1) (b1.below hb1) | exact hS _ ((b0.below hb1).setNe n0 _) ((b1.below hb1).setNe n1 _) | exact hS _ ((b0.below hb1).setNe n2 _) ((b1.below hb1).setNe n3 _) | exact hS _ (((b0.below hb1).setNe n0 _).setNe n2 _) (((b1.below hb1).setNe n1 _).setNe n3 _) | exact hS _ (((b0.below hb1).setNe n2 _).setNe n0 _) (((b1.below hb1).setNe n3 _).setNe n1 _))
    (first
      | (go_at_call 45; (with_reducible refine (hT _ (by first | exact Below.refl _ _ | exact (Below.refl _ _).drew | exact below_drewN (Below.refl _ _) _)).mono ?_); rintro e w0 ⟨rfl, rfl⟩)
      | (go_at_call 48; (with_reducible refine (hU _ (by first | exact Below.refl _ _ | exact (Below.refl _ _).drew | exact below_drewN (Below.refl _ _) _)).mono ?_); rintro e w1 ⟨rfl, hb1⟩; (first | replace hb1 := undrew hb1 | replace hb1 := undrewN hb1 | skip); have c2 := (b2.below hb1).cell 0; have f2 := (b2.below hb1).thaw 0; have c3 := (b3.below hb1).cell 0; have f3 := (b3.below hb1).thaw 0; have l2 := (b2.below hb1).lt; have l3 := (b3.below hb1).lt))
  all_goals go_wp2
  all_goals go_end0
  all_goals exact ⟨rfl, ((b2.below hb1).set 0 (eU u)).setNe (Ne.symm n4) _, ((b3.below hb1).setNe n4 _).set 0 (.bool s), ((Off.of hb1).set (.inl rfl) 0 _).set (.inr rfl) 0 _⟩
set_option maxRecDepth 100000 in
set_option maxHeartbeats 2000000 in
theorem uptoT_any (tq p : Pt) (q u : Int) (s : Bool) (w : World)
    (hT : ∀ w1, Below w.heap.size w w1 → Calls Try.prog 45 #[.pointer tq] w1 fun e w' => e = .returned (.pointer p) ∧ w1 = w')
    (hU : ∀ w1, Below w.heap.size w w1 → Calls Try.prog 48 #[.pointer tq, .pointer p, eU q] w1 fun e w' => e = .returned (.tuple #[eU u, .bool s]) ∧ Below w1.heap.size w1 w') :
    Calls Try.prog 19 #[.pointer tq, eU q] w fun e w' => e = .returned (.tuple #[eU u, .bool s]) ∧ Below w.heap.size w w' := by
  have hmf : ∀ (fn : Fn) (first cap : Array Value) (w : World), (Instr.makeFunc fn first cap).run Try.prog w = .ok (.func fn first cap) w := fun _ _ _ _ => rfl
  have T0 := (up3 w (.cells #[.pointer tq] 23) (.cells #[eU q] 30) (.cells #[eU 0] 30)).alloc (by simp; omega) (.cells #[.bool false] 4)
  have b0 := (((Box.new w 23 #[.pointer tq]).alloc (.cells #[eU q] 30)).alloc (.cells #[eU 0] 30)).alloc (.cells #[.bool false] 4)
  have b1 := ((Box.new (w.alloc (.cells #[.pointer tq] 23)) 30 #[eU q]).alloc (.cells #[eU 0] 30)).alloc (.cells #[.bool false] 4)
  have b2 := (Box.new ((w.alloc (.cells #[.pointer tq] 23)).alloc (.cells #[eU q] 30)) 30 #[eU 0]).alloc (.cells #[.bool false] 4)
  have b3 := Box.new (((w.alloc (.cells #[.pointer tq] 23)).alloc (.cells #[eU q] 30)).alloc (.cells #[eU 0] 30)) 4 #[.bool false]
  have hsz : ((((w.alloc (.cells #[.pointer tq] 23)).alloc (.cells #[eU q] 30)).alloc (.cells #[eU 0] 30)).alloc (.cells #[.bool false] 4)).heap.size = w.heap.size + 4 := by simp
  simp only [World.size_alloc] at b1 b2 b3
  obtain ⟨W0, hW0⟩ : ∃ v, (((w.alloc (.cells #[.pointer tq] 23)).alloc (.cells #[eU q] 30)).alloc (.cells #[eU 0] 30)).alloc (.cells #[.bool false] 4) = v := ⟨_, rfl⟩
  rw [hW0] at T0 b0 b1 b2 b3 hsz
  have b4 := Box.new W0 4 #[.bool false]
  rw [hsz] at b4
  have T1 := up1 W0 (.cells #[.bool false] 4)
  have hC := calm_47 #[.pointer (some ⟨w.heap.size, 0, none⟩), .pointer (some ⟨w.heap.size + 1, 0, none⟩), .pointer (some ⟨w.heap.size + 1 + 1, 0, none⟩), .pointer (some ⟨w.heap.size + 1 + 1 + 1, 0, none⟩)]
    (fun w' => Box w' (w.heap.size + 1 + 1) #[eU u] 30 ∧ Box w' (w.heap.size + 1 + 1 + 1) #[.bool s] 4 ∧ Below w.heap.size w w') W0
    ((upto1_any w.heap.size (w.heap.size + 1) (w.heap.size + 1 + 1) (w.heap.size + 1 + 1 + 1) (.pointer tq) p q u s _ (by omega) (b0.below T1) (b1.below T1) (b2.below T1) (b3.below T1)
      (fun w1 h => hT w1 (upp (upp T0 T1) h)) (fun w1 h => hU w1 (upp (upp T0 T1) h))).mono fun e w' ⟨e1, e2, e3, e4⟩ => by
        rw [hsz]
        exact ⟨e1, ⟨e2, e3, (upp T0 T1).trans (e4.below (fun k hk => by omega) (upp T0 T1).size)⟩, e4.box b4 (by omega)⟩)
  rw [hsz] at hC
  clear hT hU b0 b1 b2 b3 b4 hsz T1
  go_enter Try.func19, Try.ntmps19
  go_upto_region 2 with (go_at_call 46; (with_reducible refine hC.mono ?_); rintro e w1 ⟨rfl, w2, ⟨r1, r2, r3⟩, hlt, hbu⟩)
  have d2 := hbu.box r1 (by omega)
  have d3 := hbu.box r2 (by omega)
  have hBl := r3.trans (hbu.below (by omega) r3.size)
  have c2 := d2.cell 0
  have c3 := d3.cell 0
  have f2 := d2.thaw 0
  have f3 := d3.thaw 0
  have l2 := d2.lt
  have l3 := d3.lt
  clear hW0 hC
  have hS : ∀ w', Box w' (w.heap.size + 1 + 1) #[eU u] 30 → Box w' (w.heap.size + 1 + 1 + 1) #[.bool s] 4 → w'.cell? ⟨w.heap.size + 1 + 1, 0, none⟩ = some (.int .u64 u) ∧ w'.cell? ⟨w.heap.size + 1 + 1 + 1, 0, none⟩ = some (.bool s) := fun w' h1 h2 => ⟨h1.cell 0, h2.cell 0⟩
  have e1 : ∀ w', Box w' (w.heap.size + 1 + 1) #[eU u] 30 → Box (w'.setCell ⟨w.heap.size + 1 + 1, 0, none⟩ (.int .u64 u)) (w.heap.size + 1 + 1) #[eU u] 30 := fun w' h => h.set 0 _
  have e2 : ∀ w', Box w' (w.heap.size + 1 + 1) #[eU u] 30 → Box (w'.setCell ⟨w.heap.size + 1 + 1 + 1, 0, none⟩ (.bool s)) (w.heap.size + 1 + 1) #[eU u] 30 := fun w' h => h.setNe (by show w.heap.size + 1 + 1 ≠ w.heap.size + 1 + 1 + 1; omega) _
  have e3 : ∀ w', Box w' (w.heap.size + 1 + 1 + 1) #[.bool s] 4 → Box (w'.setCell ⟨w.heap.size + 1 + 1, 0, none⟩ (.int .u64 u)) (w.heap.size + 1 + 1 + 1) #[.bool s] 4 := fun w' h => h.setNe (by show w.heap.size + 1 + 1 + 1 ≠ w.heap.size + 1 + 1; omega) _
  have e4 : ∀ w', Box w' (w.heap.size + 1 + 1 + 1) #[.bool s] 4 → Box (w'.setCell ⟨w.heap.size + 1 + 1 + 1, 0, none⟩ (.bool s)) (w.heap.size + 1 + 1 + 1) #[.bool s] 4 := fun w' h => h.set 0 _
  go_region_held3 (fun w' => w'.cell? ⟨w.heap.size + 1 + 1, 0, none⟩ = some (.int .u64 u) ∧ w'.cell? ⟨w.heap.size + 1 + 1 + 1, 0, none⟩ = some (.bool s))
    (first | exact hS _ d2 d3 | exact hS _ (e1 _ d2) (e3 _ d3) | exact hS _ (e2 _ d2) (e4 _ d3) | exact hS _ (e2 _ (e1 _ d2)) (e4 _ (e3 _ d3)) | exact hS _ (e1 _ (e2 _ d2)) (e3 _ (e4 _ d3)))
    (fail)
  have g2 := e2 _ (e1 _ d2)
  have g3 := e4 _ (e3 _ d3)
  have hBl2 : Below w.heap.size w ((w1.setCell ⟨w.heap.size + 1 + 1, 0, none⟩ (.int .u64 u)).setCell ⟨w.heap.size + 1 + 1 + 1, 0, none⟩ (.bool s)).drew := ((hBl.setCell (p := ⟨w.heap.size + 1 + 1, 0, none⟩) (by simp; omega) _).setCell (p := ⟨w.heap.size + 1 + 1 + 1, 0, none⟩) (by simp; omega) _).drew
  have k2 : ((w1.setCell ⟨w.heap.size + 1 + 1, 0, none⟩ (.int .u64 u)).setCell ⟨w.heap.size + 1 + 1 + 1, 0, none⟩ (.bool s)).drew.cell? ⟨w.heap.size + 1 + 1, 0, none⟩ = some (.int .u64 u) := g2.cell 0
  have k3 : ((w1.setCell ⟨w.heap.size + 1 + 1, 0, none⟩ (.int .u64 u)).setCell ⟨w.heap.size + 1 + 1 + 1, 0, none⟩ (.bool s)).drew.cell? ⟨w.heap.size + 1 + 1 + 1, 0, none⟩ = some (.bool s) := g3.cell 0
  clear g2 g3 e1 e2 e3 e4 hS d2 d3 hBl r1 r2 r3 hbu c2 c3 f2 f3 l2 l3
  generalize ((w1.setCell ⟨w.heap.size + 1 + 1, 0, none⟩ (.int .u64 u)).setCell ⟨w.heap.size + 1 + 1 + 1, 0, none⟩ (.bool s)).drew = w6 at *
  go_wp2
  exact bodyPost_ret (v := .tuple #[eU u, .bool s]) (by simp [results, Try.results19, go_sem, k2, k3]) rfl ⟨rfl, hBl2⟩
end Go.Proofs.Ytjfpemkdidoacaa
