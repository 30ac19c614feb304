/- What the tree's call Well answers of a tree that is well. No condition but that, and that there aren't more items than there is room. -/
import Derived.Test.YtjfpemkdidoacaaUC
namespace Go.Proofs.Ytjfpemkdidoacaa
open Go.RowKit Go.Shelf
set_option linter.unusedVariables false
set_option maxRecDepth 100000 in
set_option maxHeartbeats 1000000 in
theorem well1_any (Bt P0 P1 P2 : Nat) (p : Pt) (n : Int) (t : Tr) (h : Nat) (w : World) (hd : P0 < P2 ∧ P1 < P2)
    (b0 : Box w P0 #[.pointer (some ⟨Bt, 0, none⟩)] 23) (b1 : Box w P1 #[eqV] 65) (b2 : Box w P2 #[.bool false] 4) (ht : Box w Bt (tree p n) 57) (hp : Tre w p t) (hrd : t.isRed = false)
    (hL : ∀ w1, Below w.heap.size w w1 → Calls Try.prog 56 #[.pointer (some ⟨Bt, 0, none⟩), .pointer p, eqV] w1 fun e w' => e = .returned (.tuple #[eI h, .bool true]) ∧ Below w1.heap.size w1 w')
    (hR : ∀ w1, Below w.heap.size w w1 → Calls Try.prog 58 #[.pointer (some ⟨Bt, 0, none⟩)] w1 fun e w' => e = .returned (.bool true) ∧ Below w1.heap.size w1 w') :
    Calls Try.prog 55 #[.pointer (some ⟨P0, 0, none⟩), .pointer (some ⟨P1, 0, none⟩), .pointer (some ⟨P2, 0, none⟩)] w fun e w' => e = .returned (.tuple #[]) ∧ Box w' P2 #[.bool true] 4 ∧ But P2 w w' := by
  have hI := fun w1 (k : Below w.heap.size w w1) => isRed_tre p t w1 (hp.below k)
  rw [hrd] at hI
  have hX : ∀ w1, Below w.heap.size w w1 → (w1.cell? ⟨P0, 0, none⟩ = some (.pointer (some ⟨Bt, 0, none⟩)) ∧ w1.cell? ⟨P1, 0, none⟩ = some eqV ∧ w1.cell? ⟨Bt, 2, none⟩ = some (.pointer p)) := fun w1 k => ⟨(b0.below k).cell 0, (b1.below k).cell 0, (trC (ht.below k)).2.2.1⟩
  have hS0 := hX _ (Below.refl _ _)
  go_enter Try.func55, Try.ntmps55
  go_upto_region 0 with (fail)
  obtain ⟨c0, c1, c2⟩ := id hS0
  go_region_held3 (fun w' => w'.cell? ⟨P0, 0, none⟩ = some (.pointer (some ⟨Bt, 0, none⟩)) ∧ w'.cell? ⟨P1, 0, none⟩ = some eqV ∧ w'.cell? ⟨Bt, 2, none⟩ = some (.pointer p))
    (first | exact hS0 | exact hX _ hb1)
    (first
      | (go_at_call 56; (with_reducible refine (hL _ (by first | exact Below.refl _ _ | exact (Below.refl _ _).drew | exact below_drewN (Below.refl _ _) _)).mono ?_); rintro e w1 ⟨rfl, hb1⟩; (first | replace hb1 := undrew hb1 | replace hb1 := undrewN hb1 | skip)))
  clear hS0 c0 c1 c2
  obtain ⟨c0, c1, c2⟩ := hX _ hb1
  go_wp2_with (first
    | (go_at_call 57; (with_reducible refine (hI _ hb1).mono ?_); rintro e w2 ⟨rfl, rfl⟩)
    | (go_at_call 58; (with_reducible refine (hR _ hb1).mono ?_); rintro e w3 ⟨rfl, hb3⟩; have T3 := upp hb1 hb3; have d2 := (b2.below T3).cell 0; have f2 := (b2.below T3).thaw 0))
  go_end0
  exact ⟨rfl, (b2.below T3).set 0 _, (But.mk_below T3).trans (But.set P2 w3 0 _)⟩
set_option maxRecDepth 100000 in
set_option maxHeartbeats 1000000 in
theorem well_any (Bt : Nat) (p : Pt) (n : Int) (t : Tr) (h : Nat) (w : World) (ht : Box w Bt (tree p n) 57) (hp : Tre w p t) (hrd : t.isRed = false)
    (hL : ∀ w1, Below w.heap.size w w1 → Calls Try.prog 56 #[.pointer (some ⟨Bt, 0, none⟩), .pointer p, eqV] w1 fun e w' => e = .returned (.tuple #[eI h, .bool true]) ∧ Below w1.heap.size w1 w')
    (hR : ∀ w1, Below w.heap.size w w1 → Calls Try.prog 58 #[.pointer (some ⟨Bt, 0, none⟩)] w1 fun e w' => e = .returned (.bool true) ∧ Below w1.heap.size w1 w') :
    Calls Try.prog 29 #[.pointer (some ⟨Bt, 0, none⟩), eqV] w fun e w' => e = .returned (.bool true) ∧ Below w.heap.size w w' := by
  have hmf : ∀ (fn : Fn) (first cap : Array Value) (w : World), (Instr.makeFunc fn first cap).run Try.prog w = .ok (.func fn first cap) w := fun _ _ _ _ => rfl
  have T0 := up3 w (.cells #[.pointer (some ⟨Bt, 0, none⟩)] 23) (.cells #[eqV] 65) (.cells #[.bool false] 4)
  have b0 := ((Box.new w 23 #[.pointer (some ⟨Bt, 0, none⟩)]).alloc (.cells #[eqV] 65)).alloc (.cells #[.bool false] 4)
  have b1 := (Box.new (w.alloc (.cells #[.pointer (some ⟨Bt, 0, none⟩)] 23)) 65 #[eqV]).alloc (.cells #[.bool false] 4)
  have b2 := Box.new ((w.alloc (.cells #[.pointer (some ⟨Bt, 0, none⟩)] 23)).alloc (.cells #[eqV] 65)) 4 #[.bool false]
  have hsz : (((w.alloc (.cells #[.pointer (some ⟨Bt, 0, none⟩)] 23)).alloc (.cells #[eqV] 65)).alloc (.cells #[.bool false] 4)).heap.size = w.heap.size + 3 := by simp
  simp only [World.size_alloc] at b1 b2
  obtain ⟨W0, hW0⟩ : ∃ v, ((w.alloc (.cells #[.pointer (some ⟨Bt, 0, none⟩)] 23)).alloc (.cells #[eqV] 65)).alloc (.cells #[.bool false] 4) = v := ⟨_, rfl⟩
  rw [hW0] at T0 b0 b1 b2 hsz
  have b4 := Box.new W0 4 #[.bool false]
  rw [hsz] at b4
  have T1 := up1 W0 (.cells #[.bool false] 4)
  have hM := made_any Bt p n W0 (ht.below T0)
  have hC := calm_55 #[.pointer (some ⟨w.heap.size, 0, none⟩), .pointer (some ⟨w.heap.size + 1, 0, none⟩), .pointer (some ⟨w.heap.size + 1 + 1, 0, none⟩)]
    (fun w' => Box w' (w.heap.size + 1 + 1) #[.bool true] 4 ∧ Below w.heap.size w w') W0
    ((well1_any Bt w.heap.size (w.heap.size + 1) (w.heap.size + 1 + 1) p n t h _ (by omega) (b0.below T1) (b1.below T1) (b2.below T1) (ht.below (upp T0 T1)) (hp.below (upp T0 T1)) hrd
      (fun w1 k => hL w1 (upp (upp T0 T1) k)) (fun w1 k => hR w1 (upp (upp T0 T1) k))).mono fun e w' ⟨e1, e2, e3⟩ => by
        rw [hsz]
        exact ⟨e1, ⟨e2, (upp T0 T1).trans (e3.below (by omega) (upp T0 T1).size)⟩, e3.box b4 (by omega)⟩)
  rw [hsz] at hC
  have c0 := b0.cell 0
  clear hL hR b1 b2 b4 hsz T1
  go_enter Try.func29, Try.ntmps29
  go_wp2_with (first
    | (go_at_call 37; (with_reducible refine hM.mono ?_); rintro e w1 ⟨rfl, rfl⟩)
    | (go_at_call 46; (with_reducible refine hC.mono ?_); rintro e w1 ⟨rfl, w2, ⟨r1, r2⟩, hlt, hbu⟩; have d2 := hbu.box r1 (by omega); have hBl := r2.trans (hbu.below (by omega) r2.size); have g2 := d2.cell 0; have f2 := d2.thaw 0; have l2 := d2.lt))
  have d3 := (d2.set 0 (.bool true)).cell 0
  refine bodyPost_ret (v := .bool true) (by simp [results, Try.results29, go_sem, d3]) rfl ⟨rfl, ?_⟩
  exact hBl.setCell (p := ⟨w.heap.size + 1 + 1, 0, none⟩) (by simp; omega) _
end Go.Proofs.Ytjfpemkdidoacaa
