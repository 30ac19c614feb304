/- What the tree's call Find answers, where the question is whether a value is at most a number. No condition. -/
import Derived.Test.YtjfpemkdidoacaaTX
namespace Go.Proofs.Ytjfpemkdidoacaa
open Go.RowKit Go.Shelf
set_option linter.unusedVariables false
theorem fstV_eq (o : Option It) : ∃ (k : Ky) (s : Bool), fstV o = .tuple #[ky k, .bool s] := by
  cases o with
  | none => exact ⟨(0, 0), false, rfl⟩
  | some m => exact ⟨m.1, true, rfl⟩
theorem setKey {w : World} {B : Nat} {k : Ky} (h : Box w B #[eU k.1, eI k.2] 32) (k' : Ky) : Box ((w.setCell ⟨B, 0, none⟩ (.int .u64 k'.1)).setCell ⟨B, 1, none⟩ (.int .i64 k'.2)) B #[eU k'.1, eI k'.2] 32 := (h.set 0 (eU k'.1)).set 1 (eI k'.2)
set_option maxRecDepth 100000 in
set_option maxHeartbeats 400000 in
theorem find1_any (P0 P1 P2 P3 : Nat) (tp : Value) (p : Pt) (y : Int) (u : Ky) (s : Bool) (w : World) (hd : P0 < P2 ∧ P1 < P2 ∧ P2 < P3)
    (b0 : Box w P0 #[tp] 23) (b1 : Box w P1 #[okV y] 49) (b2 : Box w P2 #[eU 0, eI 0] 32) (b3 : Box w P3 #[.bool false] 4)
    (hT : ∀ w1, Below w.heap.size w w1 → Calls Try.prog 45 #[tp] w1 fun e w' => e = .returned (.pointer p) ∧ w1 = w')
    (hU : ∀ w1, Below w.heap.size w w1 → Calls Try.prog 50 #[tp, .pointer p, okV y] w1 fun e w' => e = .returned (.tuple #[ky u, .bool s]) ∧ Below w1.heap.size w1 w') :
    Calls Try.prog 49 #[.pointer (some ⟨P0, 0, none⟩), .pointer (some ⟨P1, 0, none⟩), .pointer (some ⟨P2, 0, none⟩), .pointer (some ⟨P3, 0, none⟩)] w fun e w' =>
      e = .returned (.tuple #[]) ∧ Box w' P2 #[eU u.1, eI u.2] 32 ∧ Box w' P3 #[.bool s] 4 ∧ Off (fun k => k = P2 ∨ k = P3) w w' := by
  have hS : ∀ w', Box w' P0 #[tp] 23 → Box w' P1 #[okV y] 49 → w'.cell? ⟨P0, 0, none⟩ = some tp ∧ w'.cell? ⟨P1, 0, none⟩ = some (okV y) := fun w' h1 h2 => ⟨h1.cell 0, h2.cell 0⟩
  have hS0 := hS w b0 b1
  have n0 : P0 ≠ P2 := by omega
  have n1 : P1 ≠ P2 := by omega
  have n2 : P0 ≠ P3 := by omega
  have n3 : P1 ≠ P3 := by omega
  have n4 : P3 ≠ P2 := by omega
  go_enter Try.func49, Try.ntmps49
  go_upto_region 0 with (fail)
  obtain ⟨c0, c1⟩ := id hS0
  go_region_held3 (fun w' => w'.cell? ⟨P0, 0, none⟩ = some tp ∧ w'.cell? ⟨P1, 0, none⟩ = some (okV y))
    (first | exact hS0 | exact hS _ (b0.below hb1) (b1.below hb1) | (with_reducible refine hS _ ?_ ?_ <;> repeat' (first | (with_reducible exact b0.below hb1) | (with_reducible exact b1.below hb1) | (with_reducible refine Box.setNe (a := ⟨P2, 0, none⟩) ?_ n0 _) | (with_reducible refine Box.setNe (a := ⟨P2, 1, none⟩) ?_ n0 _) | (with_reducible refine Box.setNe (a := ⟨P3, 0, none⟩) ?_ n2 _) | (with_reducible refine Box.setNe (a := ⟨P2, 0, none⟩) ?_ n1 _) | (with_reducible refine Box.setNe (a := ⟨P2, 1, none⟩) ?_ n1 _) | (with_reducible refine Box.setNe (a := ⟨P3, 0, none⟩) ?_ n3 _))))
    (first
      | (go_at_call 45; (with_reducible refine (hT _ (by first | exact Below.refl _ _ | exact (Below.refl _ _).drew | exact below_drewN (Below.refl _ _) _)).mono ?_); rintro e w0 ⟨rfl, rfl⟩)
      | (go_at_call 50; (with_reducible refine (hU _ (by first | exact Below.refl _ _ | exact (Below.refl _ _).drew | exact below_drewN (Below.refl _ _) _)).mono ?_); rintro e w1 ⟨rfl, hb1⟩; (first | replace hb1 := undrew hb1 | replace hb1 := undrewN hb1 | skip); obtain ⟨c2, c2'⟩ := kyC (k := (0, 0)) (b2.below hb1); have f2 := (b2.below hb1).thaw 0; have f2' := (b2.below hb1).thaw 1; have c3 := (b3.below hb1).cell 0; have f3 := (b3.below hb1).thaw 0; have l2 := (b2.below hb1).lt; have l3 := (b3.below hb1).lt))
  all_goals go_wp2
  all_goals go_end0
  all_goals exact ⟨rfl, (setKey (k := (0, 0)) (b2.below hb1) u).setNe (Ne.symm n4) _, (((b3.below hb1).setNe n4 _).setNe n4 _).set 0 (.bool s), (((Off.of hb1).set (.inl rfl) 0 _).set (.inl rfl) 1 _).set (.inr rfl) 0 _⟩
set_option maxRecDepth 100000 in
set_option maxHeartbeats 2000000 in
theorem findT_any (tq p : Pt) (y : Int) (o : Option It) (w : World)
    (hT : ∀ w1, Below w.heap.size w w1 → Calls Try.prog 45 #[.pointer tq] w1 fun e w' => e = .returned (.pointer p) ∧ w1 = w')
    (hU : ∀ w1, Below w.heap.size w w1 → Calls Try.prog 50 #[.pointer tq, .pointer p, okV y] w1 fun e w' => e = .returned (fstV o) ∧ Below w1.heap.size w1 w') :
    Calls Try.prog 22 #[.pointer tq, okV y] w fun e w' => e = .returned (fstV o) ∧ Below w.heap.size w w' := by
  obtain ⟨u, s, hus⟩ := fstV_eq o
  rw [hus] at hU ⊢
  clear hus
  have hmf : ∀ (fn : Fn) (first cap : Array Value) (w : World), (Instr.makeFunc fn first cap).run Try.prog w = .ok (.func fn first cap) w := fun _ _ _ _ => rfl
  have T0 := (up3 w (.cells #[.pointer tq] 23) (.cells #[okV y] 49) (.cells #[eU 0, eI 0] 32)).alloc (by simp; omega) (.cells #[.bool false] 4)
  have b0 := (((Box.new w 23 #[.pointer tq]).alloc (.cells #[okV y] 49)).alloc (.cells #[eU 0, eI 0] 32)).alloc (.cells #[.bool false] 4)
  have b1 := ((Box.new (w.alloc (.cells #[.pointer tq] 23)) 49 #[okV y]).alloc (.cells #[eU 0, eI 0] 32)).alloc (.cells #[.bool false] 4)
  have b2 := (Box.new ((w.alloc (.cells #[.pointer tq] 23)).alloc (.cells #[okV y] 49)) 32 #[eU 0, eI 0]).alloc (.cells #[.bool false] 4)
  have b3 := Box.new (((w.alloc (.cells #[.pointer tq] 23)).alloc (.cells #[okV y] 49)).alloc (.cells #[eU 0, eI 0] 32)) 4 #[.bool false]
  have hsz : ((((w.alloc (.cells #[.pointer tq] 23)).alloc (.cells #[okV y] 49)).alloc (.cells #[eU 0, eI 0] 32)).alloc (.cells #[.bool false] 4)).heap.size = w.heap.size + 4 := by simp
  simp only [World.size_alloc] at b1 b2 b3
  obtain ⟨W0, hW0⟩ : ∃ v, (((w.alloc (.cells #[.pointer tq] 23)).alloc (.cells #[okV y] 49)).alloc (.cells #[eU 0, eI 0] 32)).alloc (.cells #[.bool false] 4) = v := ⟨_, rfl⟩
  rw [hW0] at T0 b0 b1 b2 b3 hsz
  have b4 := Box.new W0 4 #[.bool false]
  rw [hsz] at b4
  have T1 := up1 W0 (.cells #[.bool false] 4)
  have hC := calm_49 #[.pointer (some ⟨w.heap.size, 0, none⟩), .pointer (some ⟨w.heap.size + 1, 0, none⟩), .pointer (some ⟨w.heap.size + 1 + 1, 0, none⟩), .pointer (some ⟨w.heap.size + 1 + 1 + 1, 0, none⟩)]
    (fun w' => Box w' (w.heap.size + 1 + 1) #[eU u.1, eI u.2] 32 ∧ Box w' (w.heap.size + 1 + 1 + 1) #[.bool s] 4 ∧ Below w.heap.size w w') W0
    ((find1_any w.heap.size (w.heap.size + 1) (w.heap.size + 1 + 1) (w.heap.size + 1 + 1 + 1) (.pointer tq) p y u s _ (by omega) (b0.below T1) (b1.below T1) (b2.below T1) (b3.below T1)
      (fun w1 h => hT w1 (upp (upp T0 T1) h)) (fun w1 h => hU w1 (upp (upp T0 T1) h))).mono fun e w' ⟨e1, e2, e3, e4⟩ => by
        rw [hsz]
        exact ⟨e1, ⟨e2, e3, (upp T0 T1).trans (e4.below (fun k hk => by omega) (upp T0 T1).size)⟩, e4.box b4 (by omega)⟩)
  rw [hsz] at hC
  clear hT hU b0 b1 b2 b3 b4 hsz T1
  go_enter Try.func22, Try.ntmps22
  go_upto_region 2 with (go_at_call 46; (with_reducible refine hC.mono ?_); rintro e w1 ⟨rfl, w2, ⟨r1, r2, r3⟩, hlt, hbu⟩)
  have d2 := hbu.box r1 (by omega)
  have d3 := hbu.box r2 (by omega)
  have hBl := r3.trans (hbu.below (by omega) r3.size)
  obtain ⟨c2, c2'⟩ := kyC d2
  have c3 := d3.cell 0
  have f2 := d2.thaw 0
  have f2' := d2.thaw 1
  have f3 := d3.thaw 0
  have l2 := d2.lt
  have l3 := d3.lt
  clear hW0 hC
  have hS : ∀ w', Box w' (w.heap.size + 1 + 1) #[eU u.1, eI u.2] 32 → Box w' (w.heap.size + 1 + 1 + 1) #[.bool s] 4 → (w'.cell? ⟨w.heap.size + 1 + 1, 0, none⟩ = some (.int .u64 u.1) ∧ w'.cell? ⟨w.heap.size + 1 + 1, 1, none⟩ = some (.int .i64 u.2)) ∧ w'.cell? ⟨w.heap.size + 1 + 1 + 1, 0, none⟩ = some (.bool s) := fun w' h1 h2 => ⟨kyC h1, h2.cell 0⟩
  have hD : ∀ w', Box w' (w.heap.size + 1 + 1) #[eU u.1, eI u.2] 32 → Box w' (w.heap.size + 1 + 1 + 1) #[.bool s] 4 → (w'.drew.cell? ⟨w.heap.size + 1 + 1, 0, none⟩ = some (.int .u64 u.1) ∧ w'.drew.cell? ⟨w.heap.size + 1 + 1, 1, none⟩ = some (.int .i64 u.2)) ∧ w'.drew.cell? ⟨w.heap.size + 1 + 1 + 1, 0, none⟩ = some (.bool s) := fun w' h1 h2 => hS w' h1 h2
  have e1 : ∀ w', Box w' (w.heap.size + 1 + 1) #[eU u.1, eI u.2] 32 → Box ((w'.setCell ⟨w.heap.size + 1 + 1, 0, none⟩ (.int .u64 u.1)).setCell ⟨w.heap.size + 1 + 1, 1, none⟩ (.int .i64 u.2)) (w.heap.size + 1 + 1) #[eU u.1, eI u.2] 32 := fun w' h => setKey h u
  have e2 : ∀ w', Box w' (w.heap.size + 1 + 1) #[eU u.1, eI u.2] 32 → Box (w'.setCell ⟨w.heap.size + 1 + 1 + 1, 0, none⟩ (.bool s)) (w.heap.size + 1 + 1) #[eU u.1, eI u.2] 32 := fun w' h => h.setNe (by show w.heap.size + 1 + 1 ≠ w.heap.size + 1 + 1 + 1; omega) _
  have e3 : ∀ w', Box w' (w.heap.size + 1 + 1 + 1) #[.bool s] 4 → Box ((w'.setCell ⟨w.heap.size + 1 + 1, 0, none⟩ (.int .u64 u.1)).setCell ⟨w.heap.size + 1 + 1, 1, none⟩ (.int .i64 u.2)) (w.heap.size + 1 + 1 + 1) #[.bool s] 4 := fun w' h => (h.setNe (by show w.heap.size + 1 + 1 + 1 ≠ w.heap.size + 1 + 1; omega) _).setNe (by show w.heap.size + 1 + 1 + 1 ≠ w.heap.size + 1 + 1; omega) _
  have e4 : ∀ w', Box w' (w.heap.size + 1 + 1 + 1) #[.bool s] 4 → Box (w'.setCell ⟨w.heap.size + 1 + 1 + 1, 0, none⟩ (.bool s)) (w.heap.size + 1 + 1 + 1) #[.bool s] 4 := fun w' h => h.set 0 _
  go_region_held3 (fun w' => (w'.cell? ⟨w.heap.size + 1 + 1, 0, none⟩ = some (.int .u64 u.1) ∧ w'.cell? ⟨w.heap.size + 1 + 1, 1, none⟩ = some (.int .i64 u.2)) ∧ w'.cell? ⟨w.heap.size + 1 + 1 + 1, 0, none⟩ = some (.bool s))
    (with_reducible first | exact hD _ d2 d3 | exact hD _ (e1 _ d2) (e3 _ d3) | exact hD _ (e2 _ d2) (e4 _ d3) | exact hD _ (e2 _ (e1 _ d2)) (e4 _ (e3 _ d3)) | exact hD _ (e1 _ (e2 _ d2)) (e3 _ (e4 _ d3)) | exact hS _ d2 d3 | exact hS _ (e1 _ d2) (e3 _ d3) | exact hS _ (e2 _ d2) (e4 _ d3) | exact hS _ (e2 _ (e1 _ d2)) (e4 _ (e3 _ d3)) | exact hS _ (e1 _ (e2 _ d2)) (e3 _ (e4 _ d3)))
    (fail)
  have g2 := e2 _ (e1 _ d2)
  have g3 := e4 _ (e3 _ d3)
  have hBl2 : Below w.heap.size w (((w1.setCell ⟨w.heap.size + 1 + 1, 0, none⟩ (.int .u64 u.1)).setCell ⟨w.heap.size + 1 + 1, 1, none⟩ (.int .i64 u.2)).setCell ⟨w.heap.size + 1 + 1 + 1, 0, none⟩ (.bool s)).drew := (((hBl.setCell (p := ⟨w.heap.size + 1 + 1, 0, none⟩) (by simp; omega) _).setCell (p := ⟨w.heap.size + 1 + 1, 1, none⟩) (by simp; omega) _).setCell (p := ⟨w.heap.size + 1 + 1 + 1, 0, none⟩) (by simp; omega) _).drew
  have g2' : Box (((w1.setCell ⟨w.heap.size + 1 + 1, 0, none⟩ (.int .u64 u.1)).setCell ⟨w.heap.size + 1 + 1, 1, none⟩ (.int .i64 u.2)).setCell ⟨w.heap.size + 1 + 1 + 1, 0, none⟩ (.bool s)).drew (w.heap.size + 1 + 1) #[eU u.1, eI u.2] 32 := g2
  have g3' : Box (((w1.setCell ⟨w.heap.size + 1 + 1, 0, none⟩ (.int .u64 u.1)).setCell ⟨w.heap.size + 1 + 1, 1, none⟩ (.int .i64 u.2)).setCell ⟨w.heap.size + 1 + 1 + 1, 0, none⟩ (.bool s)).drew (w.heap.size + 1 + 1 + 1) #[.bool s] 4 := g3
  clear g2 g3 e1 e2 e3 e4 hS hD d2 d3 hBl r1 r2 r3 hbu c2 c2' c3 f2 f2' f3 l2 l3
  generalize (((w1.setCell ⟨w.heap.size + 1 + 1, 0, none⟩ (.int .u64 u.1)).setCell ⟨w.heap.size + 1 + 1, 1, none⟩ (.int .i64 u.2)).setCell ⟨w.heap.size + 1 + 1 + 1, 0, none⟩ (.bool s)).drew = w6 at *
  obtain ⟨k2, k2'⟩ := kyC g2'
  have k3 := g3'.cell 0
  go_wp2
  exact bodyPost_ret (v := .tuple #[ky u, .bool s]) (by simp [results, Try.results22, go_sem, k2, k2', k3]) rfl ⟨rfl, hBl2⟩
end Go.Proofs.Ytjfpemkdidoacaa
