/- A spec with another one's curves, as the program answers it. No condition. -/
import Derived.Test.YtpopcnebndgblaaGreatSpK
namespace Go.Proofs.YtpopcnebndgblaaGreat
open Go.RowKit W
set_option linter.unusedVariables false
/-- A block of those cells. -/
def Bk (W : World) (B : Nat) (vs : Array Value) (t : TypeId) : Prop := W.heap[B]? = some (.cells vs t (0, 0))
theorem Bk.new (W : World) (t : TypeId) (vs : Array Value) : Bk (W.alloc (.cells vs t)) W.heap.size vs t := World.alloc_heap_new W _
theorem Bk.lt {W : World} {B : Nat} {t : TypeId} {v : Array Value} (h : Bk W B v t) : B < W.heap.size := (Array.getElem?_eq_some_iff.1 h).1
theorem Bk.alloc {W : World} {B : Nat} {t : TypeId} {v : Array Value} (h : Bk W B v t) (o : Obj) : Bk (W.alloc o) B v t := (Below.heap_alloc W o B h.lt).trans h
theorem Bk.cell {W : World} {B : Nat} {vs : Array Value} {t : TypeId} (h : Bk W B vs t) (i : Nat) : W.cell? ⟨B, i, none⟩ = vs[i]? := by
  have e : W.heap[B]? = some (.cells vs t (0, 0)) := h
  simp [World.cell?, e]
theorem Bk.thaw {W : World} {B : Nat} {vs : Array Value} {t : TypeId} (h : Bk W B vs t) (i : Nat) : W.frozen? ⟨B, i, none⟩ = false := by
  have e : W.heap[B]? = some (.cells vs t (0, 0)) := h
  simp [World.frozen?, e]
theorem Bk.below {W w : World} {B : Nat} {t : TypeId} {v : Array Value} (h : Bk W B v t) (hb : Below W.heap.size W w) : Bk w B v t := (hb.block B h.lt).trans h
theorem Bk.setNe {W : World} {B : Nat} {t : TypeId} {vs : Array Value} (h : Bk W B vs t) {a : Addr} (hne : B ≠ a.block) (v : Value) : Bk (W.setCell a v) B vs t := (Below.heap_setCell W a v B hne).trans h
theorem Bk.set {W : World} {B : Nat} {vs : Array Value} {t : TypeId} (h : Bk W B vs t) (i : Nat) (v : Value) : Bk (W.setCell ⟨B, i, none⟩ v) B (vs.setIfInBounds i v) t := heap_setCell_same W B i vs t v h
/-- The cells of a block of fourteen. -/
theorem Bk.cells14 {W : World} {B : Nat} {t : TypeId} {x0 x1 x2 x3 x4 x5 x6 x7 x8 x9 x10 x11 x12 x13 : Value} (h : Bk W B #[x0, x1, x2, x3, x4, x5, x6, x7, x8, x9, x10, x11, x12, x13] t) :
    W.cell? ⟨B, 0, none⟩ = some x0 ∧ W.cell? ⟨B, 1, none⟩ = some x1 ∧ W.cell? ⟨B, 2, none⟩ = some x2 ∧ W.cell? ⟨B, 3, none⟩ = some x3 ∧ W.cell? ⟨B, 4, none⟩ = some x4 ∧ W.cell? ⟨B, 5, none⟩ = some x5 ∧ W.cell? ⟨B, 6, none⟩ = some x6 ∧
    W.cell? ⟨B, 7, none⟩ = some x7 ∧ W.cell? ⟨B, 8, none⟩ = some x8 ∧ W.cell? ⟨B, 9, none⟩ = some x9 ∧ W.cell? ⟨B, 10, none⟩ = some x10 ∧ W.cell? ⟨B, 11, none⟩ = some x11 ∧ W.cell? ⟨B, 12, none⟩ = some x12 ∧ W.cell? ⟨B, 13, none⟩ = some x13 :=
  ⟨h.cell 0, h.cell 1, h.cell 2, h.cell 3, h.cell 4, h.cell 5, h.cell 6, h.cell 7, h.cell 8, h.cell 9, h.cell 10, h.cell 11, h.cell 12, h.cell 13⟩
theorem Bk.thaw14 {W : World} {B : Nat} {t : TypeId} {vs : Array Value} (h : Bk W B vs t) :
    W.frozen? ⟨B, 0, none⟩ = false ∧ W.frozen? ⟨B, 1, none⟩ = false ∧ W.frozen? ⟨B, 2, none⟩ = false ∧ W.frozen? ⟨B, 3, none⟩ = false ∧ W.frozen? ⟨B, 4, none⟩ = false ∧ W.frozen? ⟨B, 5, none⟩ = false ∧ W.frozen? ⟨B, 6, none⟩ = false ∧
    W.frozen? ⟨B, 7, none⟩ = false ∧ W.frozen? ⟨B, 8, none⟩ = false ∧ W.frozen? ⟨B, 9, none⟩ = false ∧ W.frozen? ⟨B, 10, none⟩ = false ∧ W.frozen? ⟨B, 11, none⟩ = false ∧ W.frozen? ⟨B, 12, none⟩ = false ∧ W.frozen? ⟨B, 13, none⟩ = false :=
  ⟨h.thaw 0, h.thaw 1, h.thaw 2, h.thaw 3, h.thaw 4, h.thaw 5, h.thaw 6, h.thaw 7, h.thaw 8, h.thaw 9, h.thaw 10, h.thaw 11, h.thaw 12, h.thaw 13⟩
theorem Bk.ne9 {W : World} {C B : Nat} {vs : Array Value} {t : TypeId} (h : Bk W C vs t) (hne : C ≠ B) (x0 x1 x2 x3 x4 x5 x6 x7 x8 : Value) : Bk (((((((((W.setCell ⟨B, 3, none⟩ x0).setCell ⟨B, 4, none⟩ x1).setCell ⟨B, 5, none⟩ x2).setCell ⟨B, 6, none⟩ x3).setCell ⟨B, 7, none⟩ x4).setCell ⟨B, 8, none⟩ x5).setCell ⟨B, 9, none⟩ x6).setCell ⟨B, 10, none⟩ x7).setCell ⟨B, 11, none⟩ x8) C vs t :=
  Bk.setNe (Bk.setNe (Bk.setNe (Bk.setNe (Bk.setNe (Bk.setNe (Bk.setNe (Bk.setNe (Bk.setNe h hne x0) hne x1) hne x2) hne x3) hne x4) hne x5) hne x6) hne x7) hne x8
theorem below9 {W w : World} {B : Nat} (h : Below w.heap.size w W) (hB : w.heap.size ≤ B) (x0 x1 x2 x3 x4 x5 x6 x7 x8 : Value) : Below w.heap.size w (((((((((W.setCell ⟨B, 3, none⟩ x0).setCell ⟨B, 4, none⟩ x1).setCell ⟨B, 5, none⟩ x2).setCell ⟨B, 6, none⟩ x3).setCell ⟨B, 7, none⟩ x4).setCell ⟨B, 8, none⟩ x5).setCell ⟨B, 9, none⟩ x6).setCell ⟨B, 10, none⟩ x7).setCell ⟨B, 11, none⟩ x8) :=
  Below.setCell (Below.setCell (Below.setCell (Below.setCell (Below.setCell (Below.setCell (Below.setCell (Below.setCell (Below.setCell h hB x0) hB x1) hB x2) hB x3) hB x4) hB x5) hB x6) hB x7) hB x8
theorem Bk.set9 {W : World} {B : Nat} {t : TypeId} {y0 y1 y2 y3 y4 y5 y6 y7 y8 y9 y10 y11 y12 y13 : Value} (h : Bk W B #[y0, y1, y2, y3, y4, y5, y6, y7, y8, y9, y10, y11, y12, y13] t) (x0 x1 x2 x3 x4 x5 x6 x7 x8 : Value) : Bk (((((((((W.setCell ⟨B, 3, none⟩ x0).setCell ⟨B, 4, none⟩ x1).setCell ⟨B, 5, none⟩ x2).setCell ⟨B, 6, none⟩ x3).setCell ⟨B, 7, none⟩ x4).setCell ⟨B, 8, none⟩ x5).setCell ⟨B, 9, none⟩ x6).setCell ⟨B, 10, none⟩ x7).setCell ⟨B, 11, none⟩ x8) B #[y0, y1, y2, x0, x1, x2, x3, x4, x5, x6, x7, x8, y12, y13] t := by
  replace h := Bk.set h 3 x0
  simp only [List.setIfInBounds_toArray, List.set_cons_zero, List.set_cons_succ] at h
  replace h := Bk.set h 4 x1
  simp only [List.setIfInBounds_toArray, List.set_cons_zero, List.set_cons_succ] at h
  replace h := Bk.set h 5 x2
  simp only [List.setIfInBounds_toArray, List.set_cons_zero, List.set_cons_succ] at h
  replace h := Bk.set h 6 x3
  simp only [List.setIfInBounds_toArray, List.set_cons_zero, List.set_cons_succ] at h
  replace h := Bk.set h 7 x4
  simp only [List.setIfInBounds_toArray, List.set_cons_zero, List.set_cons_succ] at h
  replace h := Bk.set h 8 x5
  simp only [List.setIfInBounds_toArray, List.set_cons_zero, List.set_cons_succ] at h
  replace h := Bk.set h 9 x6
  simp only [List.setIfInBounds_toArray, List.set_cons_zero, List.set_cons_succ] at h
  replace h := Bk.set h 10 x7
  simp only [List.setIfInBounds_toArray, List.set_cons_zero, List.set_cons_succ] at h
  replace h := Bk.set h 11 x8
  simp only [List.setIfInBounds_toArray, List.set_cons_zero, List.set_cons_succ] at h
  exact h
theorem Bk.drew {W : World} {B : Nat} {vs : Array Value} {t : TypeId} (h : Bk W B vs t) : Bk W.drew B vs t := h
theorem name_w {F : Act → World → Prop} {a : Act} {W : World} {P : World → Prop} (h : P W) (k : ∀ W', P W' → F a W') : F a W := k W h
abbrev z14 : Array Value := #[.int .i64 0, .int .i64 0, .bool false, .int .u64 0, .int .u64 0, .int .u64 0, .int .u64 0, .int .u64 0, .int .u64 0, .int .u64 0, .int .u64 0, .int .u64 0, .int .i64 0, .int .i64 0]
abbrev TS : TypeId := 34
set_option maxHeartbeats 4000000 in
set_option maxRecDepth 100000 in
theorem With_any (p q : Sp) (w : World) :
    Calls Tryz.prog 37 #[spV p, spV q] w fun e w' => e = .returned (spV (withS p q)) ∧ Below w.heap.size w w' := by
  have BP : Bk (((w.alloc (.cells (spC p) TS)).alloc (.cells (spC q) TS)).alloc (.cells z14 TS)) w.heap.size (spC p) TS := ((Bk.new w TS (spC p)).alloc _).alloc _
  have BQ : Bk (((w.alloc (.cells (spC p) TS)).alloc (.cells (spC q) TS)).alloc (.cells z14 TS)) (w.heap.size + 1) (spC q) TS := by
    have h := (Bk.new (w.alloc (.cells (spC p) TS)) TS (spC q)).alloc (.cells z14 TS)
    rwa [World.size_alloc] at h
  have BZ : Bk (((w.alloc (.cells (spC p) TS)).alloc (.cells (spC q) TS)).alloc (.cells z14 TS)) (w.heap.size + 2) z14 TS := by
    have h := Bk.new ((w.alloc (.cells (spC p) TS)).alloc (.cells (spC q) TS)) TS z14
    rwa [World.size_alloc, World.size_alloc] at h
  have T := up2 w (.cells (spC p) TS) (.cells (spC q) TS)
  replace T := T.alloc T.size (.cells z14 TS)
  go_enter Tryz.func37, Tryz.ntmps37
  go_upto_region 1 with (fail)
  change (Code.region _ _ _).wp _ _ _ (((w.alloc (.cells (spC p) TS)).alloc (.cells (spC q) TS)).alloc (.cells z14 TS)) at *
  generalize ((w.alloc (.cells (spC p) TS)).alloc (.cells (spC q) TS)).alloc (.cells z14 TS) = W3 at BP BQ BZ T ⊢
  obtain ⟨a0, a1, a2, a3, a4, a5, a6, a7, a8, a9, a10, a11, a12, a13⟩ := BQ.cells14
  obtain ⟨b0, b1, b2, b3, b4, b5, b6, b7, b8, b9, b10, b11, b12, b13⟩ := BP.cells14
  obtain ⟨f0, f1, f2, f3, f4, f5, f6, f7, f8, f9, f10, f11, f12, f13⟩ := BP.thaw14
  go_region
  refine name_w (P := fun W' => Bk W' w.heap.size (spC (withS p q)) TS ∧ Bk W' (w.heap.size + 1 + 1) z14 TS ∧ Below w.heap.size w W')
    ⟨(Bk.set9 BP (.int .u64 q.re.f) (.int .u64 q.re.l) (.int .u64 q.re.r) (.int .u64 q.sh.f) (.int .u64 q.sh.l) (.int .u64 q.sh.r) (.int .u64 q.up.f) (.int .u64 q.up.l) (.int .u64 q.up.r)).drew, (Bk.ne9 BZ (by simp) (.int .u64 q.re.f) (.int .u64 q.re.l) (.int .u64 q.re.r) (.int .u64 q.sh.f) (.int .u64 q.sh.l) (.int .u64 q.sh.r) (.int .u64 q.up.f) (.int .u64 q.up.l) (.int .u64 q.up.r)).drew, (below9 T (Nat.le_refl _) (.int .u64 q.re.f) (.int .u64 q.re.l) (.int .u64 q.re.r) (.int .u64 q.sh.f) (.int .u64 q.sh.l) (.int .u64 q.sh.r) (.int .u64 q.up.f) (.int .u64 q.up.l) (.int .u64 q.up.r)).drew⟩ (fun W4 h4 => ?_)
  clear a0 a1 a2 a3 a4 a5 a6 a7 a8 a9 a10 a11 a12 a13 b0 b1 b2 b3 b4 b5 b6 b7 b8 b9 b10 b11 b12 b13 f0 f1 f2 f3 f4 f5 f6 f7 f8 f9 f10 f11 f12 f13 BP BQ BZ T
  obtain ⟨B4, Z4, T4⟩ := h4
  obtain ⟨c0, c1, c2, c3, c4, c5, c6, c7, c8, c9, c10, c11, c12, c13⟩ := B4.cells14
  obtain ⟨g0, g1, g2, g3, g4, g5, g6, g7, g8, g9, g10, g11, g12, g13⟩ := Z4.thaw14
  obtain ⟨z0, z1, z2, z3, z4, z5, z6, z7, z8, z9, z10, z11, z12, z13⟩ := Z4.cells14
  clear B4 Z4
  go_wp2
  exact bodyPost_ret (v := spV (withS p q)) (by simp [results, Tryz.results37, go_sem, z0, z1, z2, z3, z4, z5, z6, z7, z8, z9, z10, z11, z12, z13]) rfl ⟨rfl, ((((((((((((((T4.setCell (by simp; omega) _).setCell (by simp; omega) _).setCell (by simp; omega) _).setCell (by simp; omega) _).setCell (by simp; omega) _).setCell (by simp; omega) _).setCell (by simp; omega) _).setCell (by simp; omega) _).setCell (by simp; omega) _).setCell (by simp; omega) _).setCell (by simp; omega) _).setCell (by simp; omega) _).setCell (by simp; omega) _).setCell (by simp; omega) _)⟩
end Go.Proofs.YtpopcnebndgblaaGreat
