/- A spec's text, read by the program. Condition: the library's tables and errors are laid; the text isn't as long as four thousand million bytes. -/
import Derived.Test.YtkcmfcgoknhodaaGreatDoorSpC
namespace Go.Proofs.YtkcmfcgoknhodaaGreatDoor
open Go.RowKit Go.Lib W
set_option linter.unusedVariables false
abbrev zsp : Array Value := #[.int .i64 0, .int .i64 0, .bool false, .int .u64 0, .int .u64 0, .int .u64 0, .int .u64 0, .int .u64 0, .int .u64 0, .int .u64 0, .int .u64 0, .int .u64 0, .int .i64 0, .int .i64 0]
abbrev TSp : TypeId := 26
theorem nameW {F : Act → World → Prop} {a : Act} {W : World} {P : World → Prop} (h : P W) (k : ∀ W', P W' → F a W') : F a W := k W h
theorem Bl.at14 {W : World} {B : Nat} {t : TypeId} {x0 x1 x2 x3 x4 x5 x6 x7 x8 x9 x10 x11 x12 x13 : Value} (h : Bl W B #[x0, x1, x2, x3, x4, x5, x6, x7, x8, x9, x10, x11, x12, x13] t) :
    W.cell? ⟨B, 0, none⟩ = some x0 ∧ W.cell? ⟨B, 1, none⟩ = some x1 ∧ W.cell? ⟨B, 2, none⟩ = some x2 ∧ W.cell? ⟨B, 3, none⟩ = some x3 ∧ W.cell? ⟨B, 4, none⟩ = some x4 ∧ W.cell? ⟨B, 5, none⟩ = some x5 ∧ W.cell? ⟨B, 6, none⟩ = some x6 ∧ W.cell? ⟨B, 7, none⟩ = some x7 ∧ W.cell? ⟨B, 8, none⟩ = some x8 ∧ W.cell? ⟨B, 9, none⟩ = some x9 ∧ W.cell? ⟨B, 10, none⟩ = some x10 ∧ W.cell? ⟨B, 11, none⟩ = some x11 ∧ W.cell? ⟨B, 12, none⟩ = some x12 ∧ W.cell? ⟨B, 13, none⟩ = some x13 :=
  ⟨h.cell 0, h.cell 1, h.cell 2, h.cell 3, h.cell 4, h.cell 5, h.cell 6, h.cell 7, h.cell 8, h.cell 9, h.cell 10, h.cell 11, h.cell 12, h.cell 13⟩
theorem Bl.thaw14 {W : World} {B : Nat} {t : TypeId} {vs : Array Value} (h : Bl W B vs t) :
    W.frozen? ⟨B, 0, none⟩ = false ∧ W.frozen? ⟨B, 1, none⟩ = false ∧ W.frozen? ⟨B, 2, none⟩ = false ∧ W.frozen? ⟨B, 3, none⟩ = false ∧ W.frozen? ⟨B, 4, none⟩ = false ∧ W.frozen? ⟨B, 5, none⟩ = false ∧ W.frozen? ⟨B, 6, none⟩ = false ∧ W.frozen? ⟨B, 7, none⟩ = false ∧ W.frozen? ⟨B, 8, none⟩ = false ∧ W.frozen? ⟨B, 9, none⟩ = false ∧ W.frozen? ⟨B, 10, none⟩ = false ∧ W.frozen? ⟨B, 11, none⟩ = false ∧ W.frozen? ⟨B, 12, none⟩ = false ∧ W.frozen? ⟨B, 13, none⟩ = false :=
  ⟨h.thaw 0, h.thaw 1, h.thaw 2, h.thaw 3, h.thaw 4, h.thaw 5, h.thaw 6, h.thaw 7, h.thaw 8, h.thaw 9, h.thaw 10, h.thaw 11, h.thaw 12, h.thaw 13⟩
theorem Bl.cur3 {W : World} {B : Nat} {t : TypeId} {x0 x1 x2 x3 x4 x5 x6 x7 x8 x9 x10 x11 x12 x13 : Value} (h : Bl W B #[x0, x1, x2, x3, x4, x5, x6, x7, x8, x9, x10, x11, x12, x13] t) (a b c : Value) : Bl (((W.setCell ⟨B, 3, none⟩ a).setCell ⟨B, 4, none⟩ b).setCell ⟨B, 5, none⟩ c) B #[x0, x1, x2, a, b, c, x6, x7, x8, x9, x10, x11, x12, x13] t := by
  replace h := Bl.set h 3 a
  simp only [List.setIfInBounds_toArray, List.set_cons_zero, List.set_cons_succ] at h
  replace h := Bl.set h 4 b
  simp only [List.setIfInBounds_toArray, List.set_cons_zero, List.set_cons_succ] at h
  replace h := Bl.set h 5 c
  simp only [List.setIfInBounds_toArray, List.set_cons_zero, List.set_cons_succ] at h
  exact h
theorem Bl.cur6 {W : World} {B : Nat} {t : TypeId} {x0 x1 x2 x3 x4 x5 x6 x7 x8 x9 x10 x11 x12 x13 : Value} (h : Bl W B #[x0, x1, x2, x3, x4, x5, x6, x7, x8, x9, x10, x11, x12, x13] t) (a b c : Value) : Bl (((W.setCell ⟨B, 6, none⟩ a).setCell ⟨B, 7, none⟩ b).setCell ⟨B, 8, none⟩ c) B #[x0, x1, x2, x3, x4, x5, a, b, c, x9, x10, x11, x12, x13] t := by
  replace h := Bl.set h 6 a
  simp only [List.setIfInBounds_toArray, List.set_cons_zero, List.set_cons_succ] at h
  replace h := Bl.set h 7 b
  simp only [List.setIfInBounds_toArray, List.set_cons_zero, List.set_cons_succ] at h
  replace h := Bl.set h 8 c
  simp only [List.setIfInBounds_toArray, List.set_cons_zero, List.set_cons_succ] at h
  exact h
theorem Bl.cur9 {W : World} {B : Nat} {t : TypeId} {x0 x1 x2 x3 x4 x5 x6 x7 x8 x9 x10 x11 x12 x13 : Value} (h : Bl W B #[x0, x1, x2, x3, x4, x5, x6, x7, x8, x9, x10, x11, x12, x13] t) (a b c : Value) : Bl (((W.setCell ⟨B, 9, none⟩ a).setCell ⟨B, 10, none⟩ b).setCell ⟨B, 11, none⟩ c) B #[x0, x1, x2, x3, x4, x5, x6, x7, x8, a, b, c, x12, x13] t := by
  replace h := Bl.set h 9 a
  simp only [List.setIfInBounds_toArray, List.set_cons_zero, List.set_cons_succ] at h
  replace h := Bl.set h 10 b
  simp only [List.setIfInBounds_toArray, List.set_cons_zero, List.set_cons_succ] at h
  replace h := Bl.set h 11 c
  simp only [List.setIfInBounds_toArray, List.set_cons_zero, List.set_cons_succ] at h
  exact h
theorem Bl.ne3 {W : World} {C B i j k : Nat} {vs : Array Value} {t : TypeId} (h : Bl W C vs t) (hne : C ≠ B) (a b c : Value) : Bl (((W.setCell ⟨B, i, none⟩ a).setCell ⟨B, j, none⟩ b).setCell ⟨B, k, none⟩ c) C vs t :=
  Bl.setNe (Bl.setNe (Bl.setNe h hne a) hne b) hne c
theorem below3 {W w : World} {B i j k m : Nat} (h : Below m w W) (hB : m ≤ B) (a b c : Value) : Below m w (((W.setCell ⟨B, i, none⟩ a).setCell ⟨B, j, none⟩ b).setCell ⟨B, k, none⟩ c) :=
  Below.setCell (Below.setCell (Below.setCell h hB a) hB b) hB c
/-- A word of a row of words. -/
theorem Bl.word {W : World} {B : Nat} {t : TypeId} {L : List ByteArray} {N : Nat} (h : Bl W B (cellsOf L N) t) (j : Nat) (x : ByteArray) (e : L[j]? = some x) : W.cell? ⟨B, j, none⟩ = some (.string x) := by
  rw [h.cell j]
  unfold cellsOf
  rw [List.getElem?_toArray, List.getElem?_append_left (by rw [List.length_map]; exact (List.getElem?_eq_some_iff.1 e).1), List.getElem?_map, e]
  rfl
set_option maxHeartbeats 4000000 in
set_option maxRecDepth 100000 in
theorem Parse_few (s : ByteArray) (L : List ByteArray) (N : Nat) (h8 : ((L.length : Int) == 8) = false) (w : World)
    (hS : ∀ w, Calls Tryz.prog 20 #[.string s, .string ⟨#[32]⟩, .int .i64 9] w fun e w' => e = .returned (.slice (some ⟨w.heap.size, 0, none⟩) L.length N) ∧ w' = w.alloc (.cells (cellsOf L N) 9)) :
    Calls Tryz.prog 9 #[.string s] w fun e w' => e = .returned (.tuple #[spW Sp.zero, .int .i64 2]) ∧ Below w.heap.size w w' := by
  have B := (Bl.new w TSp zsp).alloc (.cells (cellsOf L N) 9)
  have T := up2 w (.cells zsp TSp) (.cells (cellsOf L N) 9)
  go_enter Tryz.func9, Tryz.ntmps9
  go_upto_region 2 with (go_at_call 20; (with_reducible refine (hS _).mono ?_); rintro e w' ⟨rfl, hw⟩; rw [hw])
  generalize (w.alloc (.cells zsp TSp)).alloc (.cells (cellsOf L N) 9) = W1 at B T ⊢
  obtain ⟨c0, c1, c2, c3, c4, c5, c6, c7, c8, c9, c10, c11, c12, c13⟩ := B.at14
  obtain ⟨f0, f1, f2, f3, f4, f5, f6, f7, f8, f9, f10, f11, f12, f13⟩ := B.thaw14
  clear B
  go_wp2
  exact bodyPost_ret (v := .tuple #[spW Sp.zero, .int .i64 2]) (by simp [results, Tryz.results9, go_sem, c0, c1, c2, c3, c4, c5, c6, c7, c8, c9, c10, c11, c12, c13, Sp.zero, Cw.zero]) rfl ⟨rfl, ((((((((((((((T.setCell (Nat.le_refl _) _).setCell (Nat.le_refl _) _).setCell (Nat.le_refl _) _).setCell (Nat.le_refl _) _).setCell (Nat.le_refl _) _).setCell (Nat.le_refl _) _).setCell (Nat.le_refl _) _).setCell (Nat.le_refl _) _).setCell (Nat.le_refl _) _).setCell (Nat.le_refl _) _).setCell (Nat.le_refl _) _).setCell (Nat.le_refl _) _).setCell (Nat.le_refl _) _).setCell (Nat.le_refl _) _)⟩
theorem Bl.set14 {W : World} {B : Nat} {t : TypeId} {x0 x1 x2 x3 x4 x5 x6 x7 x8 x9 x10 x11 x12 x13 : Value} (h : Bl W B #[x0, x1, x2, x3, x4, x5, x6, x7, x8, x9, x10, x11, x12, x13] t) (y0 y1 y2 y3 y4 y5 y6 y7 y8 y9 y10 y11 y12 y13 : Value) : Bl ((((((((((((((W.setCell ⟨B, 0, none⟩ y0).setCell ⟨B, 1, none⟩ y1).setCell ⟨B, 2, none⟩ y2).setCell ⟨B, 3, none⟩ y3).setCell ⟨B, 4, none⟩ y4).setCell ⟨B, 5, none⟩ y5).setCell ⟨B, 6, none⟩ y6).setCell ⟨B, 7, none⟩ y7).setCell ⟨B, 8, none⟩ y8).setCell ⟨B, 9, none⟩ y9).setCell ⟨B, 10, none⟩ y10).setCell ⟨B, 11, none⟩ y11).setCell ⟨B, 12, none⟩ y12).setCell ⟨B, 13, none⟩ y13) B #[y0, y1, y2, y3, y4, y5, y6, y7, y8, y9, y10, y11, y12, y13] t := by
  replace h := Bl.set h 0 y0
  simp only [List.setIfInBounds_toArray, List.set_cons_zero] at h
  replace h := Bl.set h 1 y1
  simp only [List.setIfInBounds_toArray, List.set_cons_zero, List.set_cons_succ] at h
  replace h := Bl.set h 2 y2
  simp only [List.setIfInBounds_toArray, List.set_cons_zero, List.set_cons_succ] at h
  replace h := Bl.set h 3 y3
  simp only [List.setIfInBounds_toArray, List.set_cons_zero, List.set_cons_succ] at h
  replace h := Bl.set h 4 y4
  simp only [List.setIfInBounds_toArray, List.set_cons_zero, List.set_cons_succ] at h
  replace h := Bl.set h 5 y5
  simp only [List.setIfInBounds_toArray, List.set_cons_zero, List.set_cons_succ] at h
  replace h := Bl.set h 6 y6
  simp only [List.setIfInBounds_toArray, List.set_cons_zero, List.set_cons_succ] at h
  replace h := Bl.set h 7 y7
  simp only [List.setIfInBounds_toArray, List.set_cons_zero, List.set_cons_succ] at h
  replace h := Bl.set h 8 y8
  simp only [List.setIfInBounds_toArray, List.set_cons_zero, List.set_cons_succ] at h
  replace h := Bl.set h 9 y9
  simp only [List.setIfInBounds_toArray, List.set_cons_zero, List.set_cons_succ] at h
  replace h := Bl.set h 10 y10
  simp only [List.setIfInBounds_toArray, List.set_cons_zero, List.set_cons_succ] at h
  replace h := Bl.set h 11 y11
  simp only [List.setIfInBounds_toArray, List.set_cons_zero, List.set_cons_succ] at h
  replace h := Bl.set h 12 y12
  simp only [List.setIfInBounds_toArray, List.set_cons_zero, List.set_cons_succ] at h
  replace h := Bl.set h 13 y13
  simp only [List.setIfInBounds_toArray, List.set_cons_zero, List.set_cons_succ] at h
  exact h
theorem below14 {W w : World} {B m : Nat} (h : Below m w W) (hB : m ≤ B) (y0 y1 y2 y3 y4 y5 y6 y7 y8 y9 y10 y11 y12 y13 : Value) : Below m w ((((((((((((((W.setCell ⟨B, 0, none⟩ y0).setCell ⟨B, 1, none⟩ y1).setCell ⟨B, 2, none⟩ y2).setCell ⟨B, 3, none⟩ y3).setCell ⟨B, 4, none⟩ y4).setCell ⟨B, 5, none⟩ y5).setCell ⟨B, 6, none⟩ y6).setCell ⟨B, 7, none⟩ y7).setCell ⟨B, 8, none⟩ y8).setCell ⟨B, 9, none⟩ y9).setCell ⟨B, 10, none⟩ y10).setCell ⟨B, 11, none⟩ y11).setCell ⟨B, 12, none⟩ y12).setCell ⟨B, 13, none⟩ y13) :=
  Below.setCell (Below.setCell (Below.setCell (Below.setCell (Below.setCell (Below.setCell (Below.setCell (Below.setCell (Below.setCell (Below.setCell (Below.setCell (Below.setCell (Below.setCell (Below.setCell (h) hB y0) hB y1) hB y2) hB y3) hB y4) hB y5) hB y6) hB y7) hB y8) hB y9) hB y10) hB y11) hB y12) hB y13
set_option maxHeartbeats 16000000 in
set_option maxRecDepth 100000 in
theorem Parse_read (s w0 w1 w2 w3 w4 w5 w6 w7 D : ByteArray) (N : Nat) (ii qq pk bt te ex ey ez : Int) (lf : Bool) (x y z : Cw) (w : World) (hl : Lw w) (ca cb : Bool) (hca : (te == 0) = ca) (hcb : (D.toList == s.toList) = cb)
    (hS : ∀ w, Calls Tryz.prog 20 #[.string s, .string ⟨#[32]⟩, .int .i64 9] w fun e w' => e = .returned (.slice (some ⟨w.heap.size, 0, none⟩) 8 N) ∧ w' = w.alloc (.cells (cellsOf [w0, w1, w2, w3, w4, w5, w6, w7] N) 9))
    (hlf : (w0.toList == [108, 101, 97, 102]) = lf)
    (h1 : ∀ w, Lw w → Calls Tryz.prog 21 #[.string w1] w fun e w' => e = .returned (.int .i64 ii) ∧ Below w.heap.size w w')
    (h2 : ∀ w, Lw w → Calls Tryz.prog 21 #[.string w2] w fun e w' => e = .returned (.int .i64 qq) ∧ Below w.heap.size w w')
    (h6 : ∀ w, Lw w → Calls Tryz.prog 21 #[.string w6] w fun e w' => e = .returned (.int .i64 pk) ∧ Below w.heap.size w w')
    (h7 : ∀ w, Lw w → Calls Tryz.prog 21 #[.string w7] w fun e w' => e = .returned (.int .i64 bt) ∧ Below w.heap.size w w')
    (h3 : ∀ w, Lw w → Calls Tryz.prog 22 #[.string w3] w fun e w' => e = .returned (.tuple #[.agg #[.int .u64 x.f, .int .u64 x.l, .int .u64 x.r], .int .i64 ex]) ∧ Below w.heap.size w w')
    (h4 : ∀ w, Lw w → Calls Tryz.prog 22 #[.string w4] w fun e w' => e = .returned (.tuple #[.agg #[.int .u64 y.f, .int .u64 y.l, .int .u64 y.r], .int .i64 ey]) ∧ Below w.heap.size w w')
    (h5 : ∀ w, Lw w → Calls Tryz.prog 22 #[.string w5] w fun e w' => e = .returned (.tuple #[.agg #[.int .u64 z.f, .int .u64 z.l, .int .u64 z.r], .int .i64 ez]) ∧ Below w.heap.size w w')
    (hX : ∀ w, Lw w → Calls Tryz.prog 8 #[spW ⟨ii, qq, lf, x, y, z, pk, bt⟩] w fun e w' => e = .returned (.tuple #[.string D, .int .i64 te]) ∧ Below w.heap.size w w') :
    Calls Tryz.prog 9 #[.string s] w fun e w' => e = .returned (if ca && cb then (.tuple #[spW ⟨ii, qq, lf, x, y, z, pk, bt⟩, .int .i64 0]) else (.tuple #[spW Sp.zero, .int .i64 2])) ∧ Below w.heap.size w w' := by
  have B := (Bl.new w TSp zsp).alloc (.cells (cellsOf [w0, w1, w2, w3, w4, w5, w6, w7] N) 9)
  have T := up2 w (.cells zsp TSp) (.cells (cellsOf [w0, w1, w2, w3, w4, w5, w6, w7] N) 9)
  have L := hl.below T
  have R := Bl.new (w.alloc (.cells zsp TSp)) 9 (cellsOf [w0, w1, w2, w3, w4, w5, w6, w7] N)
  rw [World.size_alloc] at R
  have hlt : w.heap.size + 1 < ((w.alloc (.cells zsp TSp)).alloc (.cells (cellsOf [w0, w1, w2, w3, w4, w5, w6, w7] N) 9)).heap.size := by simp
  replace hcb := Lib.hid hcb
  replace hca := Lib.hid hca
  go_enter Tryz.func9, Tryz.ntmps9
  go_upto_region 4 with (go_at_call 20; (with_reducible refine (hS _).mono ?_); rintro e w' ⟨rfl, hw⟩; rw [hw])
  generalize (w.alloc (.cells zsp TSp)).alloc (.cells (cellsOf [w0, w1, w2, w3, w4, w5, w6, w7] N) 9) = W1 at B T L R hlt ⊢
  have q0 := R.word 0 w0 rfl
  have q1 := R.word 1 w1 rfl
  have q2 := R.word 2 w2 rfl
  have q6 := R.word 6 w6 rfl
  have q7 := R.word 7 w7 rfl
  have E := (Below.refl W1.heap.size W1).drew
  have Q : ∀ {v : World}, Below W1.heap.size W1 v → v.cell? ⟨w.heap.size + 1, 0, none⟩ = some (.string w0) ∧ v.cell? ⟨w.heap.size + 1, 1, none⟩ = some (.string w1) ∧ v.cell? ⟨w.heap.size + 1, 2, none⟩ = some (.string w2) ∧ v.cell? ⟨w.heap.size + 1, 6, none⟩ = some (.string w6) ∧ v.cell? ⟨w.heap.size + 1, 7, none⟩ = some (.string w7) := fun hb => ⟨(hb.cell (p := ⟨w.heap.size + 1, 0, none⟩) hlt).trans q0, (hb.cell (p := ⟨w.heap.size + 1, 1, none⟩) hlt).trans q1, (hb.cell (p := ⟨w.heap.size + 1, 2, none⟩) hlt).trans q2, (hb.cell (p := ⟨w.heap.size + 1, 6, none⟩) hlt).trans q6, (hb.cell (p := ⟨w.heap.size + 1, 7, none⟩) hlt).trans q7⟩
  go_cut [5] from 14 (fun s5 wx => ∃ M : Nat, s5 = .pointer (some ⟨M, 0, none⟩) ∧ W1.heap.size ≤ M ∧ Bl wx M (spA ⟨ii, qq, lf, Cw.zero, Cw.zero, Cw.zero, pk, bt⟩) TSp ∧ Below W1.heap.size W1 wx)
  case first =>
    refine wp_region_held_drew (S := fun w' => w'.cell? ⟨w.heap.size + 1, 0, none⟩ = some (.string w0) ∧ w'.cell? ⟨w.heap.size + 1, 1, none⟩ = some (.string w1) ∧ w'.cell? ⟨w.heap.size + 1, 2, none⟩ = some (.string w2) ∧ w'.cell? ⟨w.heap.size + 1, 6, none⟩ = some (.string w6) ∧ w'.cell? ⟨w.heap.size + 1, 7, none⟩ = some (.string w7)) (by kernel_rfl) (Q (Below.refl W1.heap.size W1).drew) (fun hHeld => ?_)
    generalize W1.drew = V0 at E hHeld ⊢
    refine wpAnyH_take (i := 0) (v := ?_) (by simp only [List.getElem?_toArray, List.getElem?_cons_zero]; rfl) (by kernel_rfl) (by kernel_rfl) (by kernel_rfl) (by exact fun _ _ _ h => h) (Or.inl ⟨by rfl, ?_⟩) (by assumption) ?_
    rotate_left
    · (intro w hSw; (try dsimp only at hSw); go_simp; (try with_reducible rfl))
    try simp only [Act.put, List.setIfInBounds_toArray, List.set_cons_zero, List.set_cons_succ]
    refine wpAnyH_take (i := 1) (v := ?_) (by simp only [List.getElem?_toArray, List.getElem?_cons_zero, List.getElem?_cons_succ]; rfl) (by kernel_rfl) (by kernel_rfl) (by kernel_rfl) (by exact fun _ _ _ h => h) (Or.inl ⟨by rfl, ?_⟩) (by assumption) ?_
    rotate_left
    · (intro w hSw; (try dsimp only at hSw); go_simp; (try with_reducible rfl))
    try simp only [Act.put, List.setIfInBounds_toArray, List.set_cons_zero, List.set_cons_succ]
    refine wpAnyH_take (i := 2) (v := ?_) (by simp only [List.getElem?_toArray, List.getElem?_cons_zero, List.getElem?_cons_succ]; rfl) (by kernel_rfl) (by kernel_rfl) (by kernel_rfl) (by exact fun _ _ _ h => h) (Or.inl ⟨by rfl, ?_⟩) (by assumption) ?_
    rotate_left
    · (intro w hSw; (try dsimp only at hSw); go_simp; (try with_reducible rfl))
    try simp only [Act.put, List.setIfInBounds_toArray, List.set_cons_zero, List.set_cons_succ]
    refine wpAnyH_take (i := 3) (v := ?_) (by simp only [List.getElem?_toArray, List.getElem?_cons_zero, List.getElem?_cons_succ]; rfl) (by kernel_rfl) (by kernel_rfl) (by kernel_rfl) (by exact fun _ _ _ h => h) (Or.inl ⟨by rfl, ?_⟩) (by assumption) ?_
    rotate_left
    · (intro w hSw; (try dsimp only at hSw); go_simp; (try with_reducible rfl))
    try simp only [Act.put, List.setIfInBounds_toArray, List.set_cons_zero, List.set_cons_succ]
    refine wpAnyH_take (i := 4) (v := ?_) (by simp only [List.getElem?_toArray, List.getElem?_cons_zero, List.getElem?_cons_succ]; rfl) (by kernel_rfl) (by kernel_rfl) (by kernel_rfl) (by exact fun _ _ _ h => h) (Or.inl ⟨by rfl, ?_⟩) (by assumption) ?_
    rotate_left
    · (intro w hSw; (try dsimp only at hSw); go_simp; (try with_reducible rfl))
    try simp only [Act.put, List.setIfInBounds_toArray, List.set_cons_zero, List.set_cons_succ]
    refine wpAnyH_take (i := 5) (v := ?_) (by simp only [List.getElem?_toArray, List.getElem?_cons_zero, List.getElem?_cons_succ]; rfl) (by kernel_rfl) (by kernel_rfl) (by kernel_rfl) (by exact fun _ _ _ h => h) (Or.inl ⟨by rfl, ?_⟩) (by assumption) ?_
    rotate_left
    · (intro w hSw; (try dsimp only at hSw); go_simp; (try with_reducible rfl))
    try simp only [Act.put, List.setIfInBounds_toArray, List.set_cons_zero, List.set_cons_succ]
    refine wpAnyH_take (i := 6) (v := ?_) (by simp only [List.getElem?_toArray, List.getElem?_cons_zero, List.getElem?_cons_succ]; rfl) (by kernel_rfl) (by kernel_rfl) (by kernel_rfl) (by exact fun _ _ _ h => h) (Or.inl ⟨by rfl, ?_⟩) (by assumption) ?_
    rotate_left
    · (intro w hSw; (try dsimp only at hSw); go_simp; (try with_reducible rfl))
    try simp only [Act.put, List.setIfInBounds_toArray, List.set_cons_zero, List.set_cons_succ]
    refine wpAnyH_take (i := 8) (v := ?_) (by simp only [List.getElem?_toArray, List.getElem?_cons_zero, List.getElem?_cons_succ]; rfl) (by kernel_rfl) (by kernel_rfl) (by kernel_rfl) (by exact fun _ _ _ h => h) (Or.inl ⟨by rfl, ?_⟩) (by assumption) ?_
    rotate_left
    · (intro w hSw; (try dsimp only at hSw); go_simp; (try with_reducible rfl))
    try simp only [Act.put, List.setIfInBounds_toArray, List.set_cons_zero, List.set_cons_succ]
    refine wpAnyH_take (i := 9) (v := ?_) (by simp only [List.getElem?_toArray, List.getElem?_cons_zero, List.getElem?_cons_succ]; rfl) (by kernel_rfl) (by kernel_rfl) (by kernel_rfl) (by exact fun _ _ _ h => h) (Or.inl ⟨by rfl, ?_⟩) (by assumption) ?_
    rotate_left
    · (intro w hSw; (try dsimp only at hSw); go_simp; (try with_reducible rfl))
    try simp only [Act.put, List.setIfInBounds_toArray, List.set_cons_zero, List.set_cons_succ]
    refine wpAnyH_take (i := 10) (v := ?_) (by simp only [List.getElem?_toArray, List.getElem?_cons_zero, List.getElem?_cons_succ]; rfl) (by kernel_rfl) (by kernel_rfl) (by kernel_rfl) (by exact fun _ _ _ h => h) (Or.inl ⟨by rfl, ?_⟩) (by assumption) ?_
    rotate_left
    · (intro w hSw; (try dsimp only at hSw); go_simp; (try with_reducible rfl))
    try simp only [Act.put, List.setIfInBounds_toArray, List.set_cons_zero, List.set_cons_succ]
    refine wpAnyH_take (i := 12) (v := ?_) (by simp only [List.getElem?_toArray, List.getElem?_cons_zero, List.getElem?_cons_succ]; rfl) (by kernel_rfl) (by kernel_rfl) (by kernel_rfl) (by exact fun _ _ _ h => h) (Or.inl ⟨by rfl, ?_⟩) (by assumption) ?_
    rotate_left
    · (intro w hSw; (try dsimp only at hSw); go_simp; (try with_reducible rfl))
    try simp only [Act.put, List.setIfInBounds_toArray, List.set_cons_zero, List.set_cons_succ]
    refine wpAnyH_take (i := 13) (v := ?_) (by simp only [List.getElem?_toArray, List.getElem?_cons_zero, List.getElem?_cons_succ]; rfl) (by kernel_rfl) (by kernel_rfl) (by kernel_rfl) (by exact fun _ _ _ h => h) (Or.inl ⟨by rfl, ?_⟩) (by assumption) ?_
    rotate_left
    · (intro w hSw; (try dsimp only at hSw); go_simp; (try with_reducible rfl))
    try simp only [Act.put, List.setIfInBounds_toArray, List.set_cons_zero, List.set_cons_succ]
    refine wpAnyH_take (i := 14) (v := ?_) (by simp only [List.getElem?_toArray, List.getElem?_cons_zero, List.getElem?_cons_succ]; rfl) (by kernel_rfl) (by kernel_rfl) (by kernel_rfl) (by exact fun _ _ _ h => h) (Or.inl ⟨by rfl, ?_⟩) (by assumption) ?_
    rotate_left
    · (intro w hSw; (try dsimp only at hSw); go_simp; (try with_reducible rfl))
    try simp only [Act.put, List.setIfInBounds_toArray, List.set_cons_zero, List.set_cons_succ]
    refine wpAnyH_take (i := 16) (v := ?_) (by simp only [List.getElem?_toArray, List.getElem?_cons_zero, List.getElem?_cons_succ]; rfl) (by kernel_rfl) (by kernel_rfl) (by kernel_rfl) (by exact fun _ _ _ h => h) (Or.inl ⟨by rfl, ?_⟩) (by assumption) ?_
    rotate_left
    · (intro w hSw; (try dsimp only at hSw); go_simp; (try with_reducible rfl))
    try simp only [Act.put, List.setIfInBounds_toArray, List.set_cons_zero, List.set_cons_succ]
    refine wpAnyH_take (i := 17) (v := ?_) (by simp only [List.getElem?_toArray, List.getElem?_cons_zero, List.getElem?_cons_succ]; rfl) (by kernel_rfl) (by kernel_rfl) (by kernel_rfl) (by exact fun _ _ _ h => h) (Or.inl ⟨by rfl, ?_⟩) (by assumption) ?_
    rotate_left
    · (intro w hSw; (try dsimp only at hSw); go_simp; (try with_reducible rfl))
    try simp only [Act.put, List.setIfInBounds_toArray, List.set_cons_zero, List.set_cons_succ]
    refine wpAnyH_take (i := 18) (v := ?_) (by simp only [List.getElem?_toArray, List.getElem?_cons_zero, List.getElem?_cons_succ]; rfl) (by kernel_rfl) (by kernel_rfl) (by kernel_rfl) (by exact fun _ _ _ h => h) (Or.inl ⟨by rfl, ?_⟩) (by assumption) ?_
    rotate_left
    · (intro w hSw; (try dsimp only at hSw); go_simp; (try with_reducible rfl))
    try simp only [Act.put, List.setIfInBounds_toArray, List.set_cons_zero, List.set_cons_succ]
    refine wpAnyH_ready (rs := [7, 21]) (by kernel_rfl) (by simp) ?_
    refine AllReadyH.cons (by simp only [List.getElem?_toArray, List.getElem?_cons_zero, List.getElem?_cons_succ]; rfl) (fun K hK => ?_) ?_
    · go_simp
      go_at_call 21
      (with_reducible refine (h1 _ (L.below E)).mono ?_)
      rintro e v7 ⟨rfl, hb⟩
      replace E := sps E hb E.size
      clear hb
      refine hK.out _ _ (Q E) (fun hHeld => ?_)
      clear hK K
      try simp only [Act.put, List.setIfInBounds_toArray, List.set_cons_zero, List.set_cons_succ]
      refine wpAnyH_ready (rs := [11, 21]) (by kernel_rfl) (by simp) ?_
      refine AllReadyH.cons (by simp only [List.getElem?_toArray, List.getElem?_cons_zero, List.getElem?_cons_succ]; rfl) (fun K hK => ?_) ?_
      · go_simp
        go_at_call 21
        (with_reducible refine (h2 _ (L.below E)).mono ?_)
        rintro e v11 ⟨rfl, hb⟩
        replace E := sps E hb E.size
        clear hb
        refine hK.out _ _ (Q E) (fun hHeld => ?_)
        clear hK K
        try simp only [Act.put, List.setIfInBounds_toArray, List.set_cons_zero, List.set_cons_succ]
        refine wpAnyH_ready (rs := [15, 21]) (by kernel_rfl) (by simp) ?_
        refine AllReadyH.cons (by simp only [List.getElem?_toArray, List.getElem?_cons_zero, List.getElem?_cons_succ]; rfl) (fun K hK => ?_) ?_
        · go_simp
          go_at_call 21
          (with_reducible refine (h6 _ (L.below E)).mono ?_)
          rintro e v15 ⟨rfl, hb⟩
          replace E := sps E hb E.size
          clear hb
          refine hK.out _ _ (Q E) (fun hHeld => ?_)
          clear hK K
          try simp only [Act.put, List.setIfInBounds_toArray, List.set_cons_zero, List.set_cons_succ]
          refine wpAnyH_ready (rs := [19, 21]) (by kernel_rfl) (by simp) ?_
          refine AllReadyH.cons (by simp only [List.getElem?_toArray, List.getElem?_cons_zero, List.getElem?_cons_succ]; rfl) (fun K hK => ?_) ?_
          · go_simp
            go_at_call 21
            (with_reducible refine (h7 _ (L.below E)).mono ?_)
            rintro e v19 ⟨rfl, hb⟩
            replace E := sps E hb E.size
            clear hb
            refine hK.out _ _ (Q E) (fun hHeld => ?_)
            clear hK K
            try simp only [Act.put, List.setIfInBounds_toArray, List.set_cons_zero, List.set_cons_succ]
            refine wpAnyH_take (i := 20) (v := ?_) (by simp only [List.getElem?_toArray, List.getElem?_cons_zero, List.getElem?_cons_succ]; rfl) (by kernel_rfl) (by kernel_rfl) (by kernel_rfl) (by exact fun _ _ _ h => h) (Or.inl ⟨by rfl, ?_⟩) (by assumption) ?_
            rotate_left
            · (intro w hSw; (try dsimp only at hSw); go_simp; (try with_reducible rfl))
            try simp only [Act.put, List.setIfInBounds_toArray, List.set_cons_zero, List.set_cons_succ]
            refine wpAnyH_ready (rs := [21]) (by kernel_rfl) (by simp) ?_
            refine AllReadyH.cons (by simp only [List.getElem?_toArray, List.getElem?_cons_zero, List.getElem?_cons_succ]; rfl) (fun K hK => ?_) AllReadyH.nil
            go_simp
            have hM := E.size
            refine nameW (P := fun W' => Bl W' _ zsp TSp ∧ Below W1.heap.size W1 W') ⟨Bl.new _ TSp zsp, E.alloc E.size _⟩ (fun V hV => ?_)
            clear E
            obtain ⟨HN, E⟩ := hV
            refine hK.out _ _ (Q E) (fun hHeld => ?_)
            clear hK K
            try simp only [Act.put, List.setIfInBounds_toArray, List.set_cons_zero, List.set_cons_succ]
            refine wpAnyH_ready (rs := [22]) (by kernel_rfl) (by simp) ?_
            refine AllReadyH.cons (by simp only [List.getElem?_toArray, List.getElem?_cons_zero, List.getElem?_cons_succ]; rfl) (fun K hK => ?_) AllReadyH.nil
            obtain ⟨n0, n1, n2, n3, n4, n5, n6, n7, n8, n9, n10, n11, n12, n13⟩ := id HN.at14
            obtain ⟨t0, t1, t2, t3, t4, t5, t6, t7, t8, t9, t10, t11, t12, t13⟩ := id HN.thaw14
            go_simp
            refine nameW (P := fun W' => Bl W' v19.heap.size (spA ⟨ii, qq, lf, Cw.zero, Cw.zero, Cw.zero, pk, bt⟩) TSp ∧ Below W1.heap.size W1 W') ⟨Bl.set14 HN _ _ _ _ _ _ _ _ _ _ _ _ _ _, below14 E hM _ _ _ _ _ _ _ _ _ _ _ _ _ _⟩ (fun V hV => ?_)
            clear E HN n0 n1 n2 n3 n4 n5 n6 n7 n8 n9 n10 n11 n12 n13 t0 t1 t2 t3 t4 t5 t6 t7 t8 t9 t10 t11 t12 t13
            obtain ⟨HN, E⟩ := hV
            refine hK.out _ _ (Q E) (fun hHeld => ?_)
            clear hK K
            try simp only [Act.put, List.setIfInBounds_toArray, List.set_cons_zero, List.set_cons_succ]
            refine wpAnyH_done (by kernel_rfl) ?_ _
            go_wp2_with fail
            go_meet
            exact ⟨_, rfl, hM, HN, E⟩
          refine AllReadyH.cons (by simp only [List.getElem?_toArray, List.getElem?_cons_zero, List.getElem?_cons_succ]; rfl) (fun K hK => ?_) AllReadyH.nil
          go_simp
          have hM := E.size
          refine nameW (P := fun W' => Bl W' _ zsp TSp ∧ Below W1.heap.size W1 W') ⟨Bl.new _ TSp zsp, E.alloc E.size _⟩ (fun V hV => ?_)
          clear E
          obtain ⟨HN, E⟩ := hV
          refine hK.out _ _ (Q E) (fun hHeld => ?_)
          clear hK K
          try simp only [Act.put, List.setIfInBounds_toArray, List.set_cons_zero, List.set_cons_succ]
          refine wpAnyH_ready (rs := [19]) (by kernel_rfl) (by simp) ?_
          refine AllReadyH.cons (by simp only [List.getElem?_toArray, List.getElem?_cons_zero, List.getElem?_cons_succ]; rfl) (fun K hK => ?_) AllReadyH.nil
          go_simp
          go_at_call 21
          (with_reducible refine (h7 _ (L.below E)).mono ?_)
          rintro e v19 ⟨rfl, hb⟩
          replace HN := Bl.below HN hb
          replace E := sps E hb E.size
          clear hb
          refine hK.out _ _ (Q E) (fun hHeld => ?_)
          clear hK K
          try simp only [Act.put, List.setIfInBounds_toArray, List.set_cons_zero, List.set_cons_succ]
          refine wpAnyH_take (i := 20) (v := ?_) (by simp only [List.getElem?_toArray, List.getElem?_cons_zero, List.getElem?_cons_succ]; rfl) (by kernel_rfl) (by kernel_rfl) (by kernel_rfl) (by exact fun _ _ _ h => h) (Or.inl ⟨by rfl, ?_⟩) (by assumption) ?_
          rotate_left
          · (intro w hSw; (try dsimp only at hSw); go_simp; (try with_reducible rfl))
          try simp only [Act.put, List.setIfInBounds_toArray, List.set_cons_zero, List.set_cons_succ]
          refine wpAnyH_ready (rs := [22]) (by kernel_rfl) (by simp) ?_
          refine AllReadyH.cons (by simp only [List.getElem?_toArray, List.getElem?_cons_zero, List.getElem?_cons_succ]; rfl) (fun K hK => ?_) AllReadyH.nil
          obtain ⟨n0, n1, n2, n3, n4, n5, n6, n7, n8, n9, n10, n11, n12, n13⟩ := id HN.at14
          obtain ⟨t0, t1, t2, t3, t4, t5, t6, t7, t8, t9, t10, t11, t12, t13⟩ := id HN.thaw14
          go_simp
          refine nameW (P := fun W' => Bl W' v15.heap.size (spA ⟨ii, qq, lf, Cw.zero, Cw.zero, Cw.zero, pk, bt⟩) TSp ∧ Below W1.heap.size W1 W') ⟨Bl.set14 HN _ _ _ _ _ _ _ _ _ _ _ _ _ _, below14 E hM _ _ _ _ _ _ _ _ _ _ _ _ _ _⟩ (fun V hV => ?_)
          clear E HN n0 n1 n2 n3 n4 n5 n6 n7 n8 n9 n10 n11 n12 n13 t0 t1 t2 t3 t4 t5 t6 t7 t8 t9 t10 t11 t12 t13
          obtain ⟨HN, E⟩ := hV
          refine hK.out _ _ (Q E) (fun hHeld => ?_)
          clear hK K
          try simp only [Act.put, List.setIfInBounds_toArray, List.set_cons_zero, List.set_cons_succ]
          refine wpAnyH_done (by kernel_rfl) ?_ _
          go_wp2_with fail
          go_meet
          exact ⟨_, rfl, hM, HN, E⟩
        refine AllReadyH.cons (by simp only [List.getElem?_toArray, List.getElem?_cons_zero, List.getElem?_cons_succ]; rfl) (fun K hK => ?_) AllReadyH.nil
        go_simp
        have hM := E.size
        refine nameW (P := fun W' => Bl W' _ zsp TSp ∧ Below W1.heap.size W1 W') ⟨Bl.new _ TSp zsp, E.alloc E.size _⟩ (fun V hV => ?_)
        clear E
        obtain ⟨HN, E⟩ := hV
        refine hK.out _ _ (Q E) (fun hHeld => ?_)
        clear hK K
        try simp only [Act.put, List.setIfInBounds_toArray, List.set_cons_zero, List.set_cons_succ]
        refine wpAnyH_ready (rs := [15]) (by kernel_rfl) (by simp) ?_
        refine AllReadyH.cons (by simp only [List.getElem?_toArray, List.getElem?_cons_zero, List.getElem?_cons_succ]; rfl) (fun K hK => ?_) AllReadyH.nil
        go_simp
        go_at_call 21
        (with_reducible refine (h6 _ (L.below E)).mono ?_)
        rintro e v15 ⟨rfl, hb⟩
        replace HN := Bl.below HN hb
        replace E := sps E hb E.size
        clear hb
        refine hK.out _ _ (Q E) (fun hHeld => ?_)
        clear hK K
        try simp only [Act.put, List.setIfInBounds_toArray, List.set_cons_zero, List.set_cons_succ]
        refine wpAnyH_ready (rs := [19]) (by kernel_rfl) (by simp) ?_
        refine AllReadyH.cons (by simp only [List.getElem?_toArray, List.getElem?_cons_zero, List.getElem?_cons_succ]; rfl) (fun K hK => ?_) AllReadyH.nil
        go_simp
        go_at_call 21
        (with_reducible refine (h7 _ (L.below E)).mono ?_)
        rintro e v19 ⟨rfl, hb⟩
        replace HN := Bl.below HN hb
        replace E := sps E hb E.size
        clear hb
        refine hK.out _ _ (Q E) (fun hHeld => ?_)
        clear hK K
        try simp only [Act.put, List.setIfInBounds_toArray, List.set_cons_zero, List.set_cons_succ]
        refine wpAnyH_take (i := 20) (v := ?_) (by simp only [List.getElem?_toArray, List.getElem?_cons_zero, List.getElem?_cons_succ]; rfl) (by kernel_rfl) (by kernel_rfl) (by kernel_rfl) (by exact fun _ _ _ h => h) (Or.inl ⟨by rfl, ?_⟩) (by assumption) ?_
        rotate_left
        · (intro w hSw; (try dsimp only at hSw); go_simp; (try with_reducible rfl))
        try simp only [Act.put, List.setIfInBounds_toArray, List.set_cons_zero, List.set_cons_succ]
        refine wpAnyH_ready (rs := [22]) (by kernel_rfl) (by simp) ?_
        refine AllReadyH.cons (by simp only [List.getElem?_toArray, List.getElem?_cons_zero, List.getElem?_cons_succ]; rfl) (fun K hK => ?_) AllReadyH.nil
        obtain ⟨n0, n1, n2, n3, n4, n5, n6, n7, n8, n9, n10, n11, n12, n13⟩ := id HN.at14
        obtain ⟨t0, t1, t2, t3, t4, t5, t6, t7, t8, t9, t10, t11, t12, t13⟩ := id HN.thaw14
        go_simp
        refine nameW (P := fun W' => Bl W' v11.heap.size (spA ⟨ii, qq, lf, Cw.zero, Cw.zero, Cw.zero, pk, bt⟩) TSp ∧ Below W1.heap.size W1 W') ⟨Bl.set14 HN _ _ _ _ _ _ _ _ _ _ _ _ _ _, below14 E hM _ _ _ _ _ _ _ _ _ _ _ _ _ _⟩ (fun V hV => ?_)
        clear E HN n0 n1 n2 n3 n4 n5 n6 n7 n8 n9 n10 n11 n12 n13 t0 t1 t2 t3 t4 t5 t6 t7 t8 t9 t10 t11 t12 t13
        obtain ⟨HN, E⟩ := hV
        refine hK.out _ _ (Q E) (fun hHeld => ?_)
        clear hK K
        try simp only [Act.put, List.setIfInBounds_toArray, List.set_cons_zero, List.set_cons_succ]
        refine wpAnyH_done (by kernel_rfl) ?_ _
        go_wp2_with fail
        go_meet
        exact ⟨_, rfl, hM, HN, E⟩
      refine AllReadyH.cons (by simp only [List.getElem?_toArray, List.getElem?_cons_zero, List.getElem?_cons_succ]; rfl) (fun K hK => ?_) AllReadyH.nil
      go_simp
      have hM := E.size
      refine nameW (P := fun W' => Bl W' _ zsp TSp ∧ Below W1.heap.size W1 W') ⟨Bl.new _ TSp zsp, E.alloc E.size _⟩ (fun V hV => ?_)
      clear E
      obtain ⟨HN, E⟩ := hV
      refine hK.out _ _ (Q E) (fun hHeld => ?_)
      clear hK K
      try simp only [Act.put, List.setIfInBounds_toArray, List.set_cons_zero, List.set_cons_succ]
      refine wpAnyH_ready (rs := [11]) (by kernel_rfl) (by simp) ?_
      refine AllReadyH.cons (by simp only [List.getElem?_toArray, List.getElem?_cons_zero, List.getElem?_cons_succ]; rfl) (fun K hK => ?_) AllReadyH.nil
      go_simp
      go_at_call 21
      (with_reducible refine (h2 _ (L.below E)).mono ?_)
      rintro e v11 ⟨rfl, hb⟩
      replace HN := Bl.below HN hb
      replace E := sps E hb E.size
      clear hb
      refine hK.out _ _ (Q E) (fun hHeld => ?_)
      clear hK K
      try simp only [Act.put, List.setIfInBounds_toArray, List.set_cons_zero, List.set_cons_succ]
      refine wpAnyH_ready (rs := [15]) (by kernel_rfl) (by simp) ?_
      refine AllReadyH.cons (by simp only [List.getElem?_toArray, List.getElem?_cons_zero, List.getElem?_cons_succ]; rfl) (fun K hK => ?_) AllReadyH.nil
      go_simp
      go_at_call 21
      (with_reducible refine (h6 _ (L.below E)).mono ?_)
      rintro e v15 ⟨rfl, hb⟩
      replace HN := Bl.below HN hb
      replace E := sps E hb E.size
      clear hb
      refine hK.out _ _ (Q E) (fun hHeld => ?_)
      clear hK K
      try simp only [Act.put, List.setIfInBounds_toArray, List.set_cons_zero, List.set_cons_succ]
      refine wpAnyH_ready (rs := [19]) (by kernel_rfl) (by simp) ?_
      refine AllReadyH.cons (by simp only [List.getElem?_toArray, List.getElem?_cons_zero, List.getElem?_cons_succ]; rfl) (fun K hK => ?_) AllReadyH.nil
      go_simp
      go_at_call 21
      (with_reducible refine (h7 _ (L.below E)).mono ?_)
      rintro e v19 ⟨rfl, hb⟩
      replace HN := Bl.below HN hb
      replace E := sps E hb E.size
      clear hb
      refine hK.out _ _ (Q E) (fun hHeld => ?_)
      clear hK K
      try simp only [Act.put, List.setIfInBounds_toArray, List.set_cons_zero, List.set_cons_succ]
      refine wpAnyH_take (i := 20) (v := ?_) (by simp only [List.getElem?_toArray, List.getElem?_cons_zero, List.getElem?_cons_succ]; rfl) (by kernel_rfl) (by kernel_rfl) (by kernel_rfl) (by exact fun _ _ _ h => h) (Or.inl ⟨by rfl, ?_⟩) (by assumption) ?_
      rotate_left
      · (intro w hSw; (try dsimp only at hSw); go_simp; (try with_reducible rfl))
      try simp only [Act.put, List.setIfInBounds_toArray, List.set_cons_zero, List.set_cons_succ]
      refine wpAnyH_ready (rs := [22]) (by kernel_rfl) (by simp) ?_
      refine AllReadyH.cons (by simp only [List.getElem?_toArray, List.getElem?_cons_zero, List.getElem?_cons_succ]; rfl) (fun K hK => ?_) AllReadyH.nil
      obtain ⟨n0, n1, n2, n3, n4, n5, n6, n7, n8, n9, n10, n11, n12, n13⟩ := id HN.at14
      obtain ⟨t0, t1, t2, t3, t4, t5, t6, t7, t8, t9, t10, t11, t12, t13⟩ := id HN.thaw14
      go_simp
      refine nameW (P := fun W' => Bl W' v7.heap.size (spA ⟨ii, qq, lf, Cw.zero, Cw.zero, Cw.zero, pk, bt⟩) TSp ∧ Below W1.heap.size W1 W') ⟨Bl.set14 HN _ _ _ _ _ _ _ _ _ _ _ _ _ _, below14 E hM _ _ _ _ _ _ _ _ _ _ _ _ _ _⟩ (fun V hV => ?_)
      clear E HN n0 n1 n2 n3 n4 n5 n6 n7 n8 n9 n10 n11 n12 n13 t0 t1 t2 t3 t4 t5 t6 t7 t8 t9 t10 t11 t12 t13
      obtain ⟨HN, E⟩ := hV
      refine hK.out _ _ (Q E) (fun hHeld => ?_)
      clear hK K
      try simp only [Act.put, List.setIfInBounds_toArray, List.set_cons_zero, List.set_cons_succ]
      refine wpAnyH_done (by kernel_rfl) ?_ _
      go_wp2_with fail
      go_meet
      exact ⟨_, rfl, hM, HN, E⟩
    refine AllReadyH.cons (by simp only [List.getElem?_toArray, List.getElem?_cons_zero, List.getElem?_cons_succ]; rfl) (fun K hK => ?_) AllReadyH.nil
    go_simp
    have hM := E.size
    refine nameW (P := fun W' => Bl W' _ zsp TSp ∧ Below W1.heap.size W1 W') ⟨Bl.new _ TSp zsp, E.alloc E.size _⟩ (fun V hV => ?_)
    clear E
    obtain ⟨HN, E⟩ := hV
    refine hK.out _ _ (Q E) (fun hHeld => ?_)
    clear hK K
    try simp only [Act.put, List.setIfInBounds_toArray, List.set_cons_zero, List.set_cons_succ]
    refine wpAnyH_ready (rs := [7]) (by kernel_rfl) (by simp) ?_
    refine AllReadyH.cons (by simp only [List.getElem?_toArray, List.getElem?_cons_zero, List.getElem?_cons_succ]; rfl) (fun K hK => ?_) AllReadyH.nil
    go_simp
    go_at_call 21
    (with_reducible refine (h1 _ (L.below E)).mono ?_)
    rintro e v7 ⟨rfl, hb⟩
    replace HN := Bl.below HN hb
    replace E := sps E hb E.size
    clear hb
    refine hK.out _ _ (Q E) (fun hHeld => ?_)
    clear hK K
    try simp only [Act.put, List.setIfInBounds_toArray, List.set_cons_zero, List.set_cons_succ]
    refine wpAnyH_ready (rs := [11]) (by kernel_rfl) (by simp) ?_
    refine AllReadyH.cons (by simp only [List.getElem?_toArray, List.getElem?_cons_zero, List.getElem?_cons_succ]; rfl) (fun K hK => ?_) AllReadyH.nil
    go_simp
    go_at_call 21
    (with_reducible refine (h2 _ (L.below E)).mono ?_)
    rintro e v11 ⟨rfl, hb⟩
    replace HN := Bl.below HN hb
    replace E := sps E hb E.size
    clear hb
    refine hK.out _ _ (Q E) (fun hHeld => ?_)
    clear hK K
    try simp only [Act.put, List.setIfInBounds_toArray, List.set_cons_zero, List.set_cons_succ]
    refine wpAnyH_ready (rs := [15]) (by kernel_rfl) (by simp) ?_
    refine AllReadyH.cons (by simp only [List.getElem?_toArray, List.getElem?_cons_zero, List.getElem?_cons_succ]; rfl) (fun K hK => ?_) AllReadyH.nil
    go_simp
    go_at_call 21
    (with_reducible refine (h6 _ (L.below E)).mono ?_)
    rintro e v15 ⟨rfl, hb⟩
    replace HN := Bl.below HN hb
    replace E := sps E hb E.size
    clear hb
    refine hK.out _ _ (Q E) (fun hHeld => ?_)
    clear hK K
    try simp only [Act.put, List.setIfInBounds_toArray, List.set_cons_zero, List.set_cons_succ]
    refine wpAnyH_ready (rs := [19]) (by kernel_rfl) (by simp) ?_
    refine AllReadyH.cons (by simp only [List.getElem?_toArray, List.getElem?_cons_zero, List.getElem?_cons_succ]; rfl) (fun K hK => ?_) AllReadyH.nil
    go_simp
    go_at_call 21
    (with_reducible refine (h7 _ (L.below E)).mono ?_)
    rintro e v19 ⟨rfl, hb⟩
    replace HN := Bl.below HN hb
    replace E := sps E hb E.size
    clear hb
    refine hK.out _ _ (Q E) (fun hHeld => ?_)
    clear hK K
    try simp only [Act.put, List.setIfInBounds_toArray, List.set_cons_zero, List.set_cons_succ]
    refine wpAnyH_take (i := 20) (v := ?_) (by simp only [List.getElem?_toArray, List.getElem?_cons_zero, List.getElem?_cons_succ]; rfl) (by kernel_rfl) (by kernel_rfl) (by kernel_rfl) (by exact fun _ _ _ h => h) (Or.inl ⟨by rfl, ?_⟩) (by assumption) ?_
    rotate_left
    · (intro w hSw; (try dsimp only at hSw); go_simp; (try with_reducible rfl))
    try simp only [Act.put, List.setIfInBounds_toArray, List.set_cons_zero, List.set_cons_succ]
    refine wpAnyH_ready (rs := [22]) (by kernel_rfl) (by simp) ?_
    refine AllReadyH.cons (by simp only [List.getElem?_toArray, List.getElem?_cons_zero, List.getElem?_cons_succ]; rfl) (fun K hK => ?_) AllReadyH.nil
    obtain ⟨n0, n1, n2, n3, n4, n5, n6, n7, n8, n9, n10, n11, n12, n13⟩ := id HN.at14
    obtain ⟨t0, t1, t2, t3, t4, t5, t6, t7, t8, t9, t10, t11, t12, t13⟩ := id HN.thaw14
    go_simp
    refine nameW (P := fun W' => Bl W' V0.heap.size (spA ⟨ii, qq, lf, Cw.zero, Cw.zero, Cw.zero, pk, bt⟩) TSp ∧ Below W1.heap.size W1 W') ⟨Bl.set14 HN _ _ _ _ _ _ _ _ _ _ _ _ _ _, below14 E hM _ _ _ _ _ _ _ _ _ _ _ _ _ _⟩ (fun V hV => ?_)
    clear E HN n0 n1 n2 n3 n4 n5 n6 n7 n8 n9 n10 n11 n12 n13 t0 t1 t2 t3 t4 t5 t6 t7 t8 t9 t10 t11 t12 t13
    obtain ⟨HN, E⟩ := hV
    refine hK.out _ _ (Q E) (fun hHeld => ?_)
    clear hK K
    try simp only [Act.put, List.setIfInBounds_toArray, List.set_cons_zero, List.set_cons_succ]
    refine wpAnyH_done (by kernel_rfl) ?_ _
    go_wp2_with fail
    go_meet
    exact ⟨_, rfl, hM, HN, E⟩
  case rest =>
    clear Q E q0 q1 q2 q6 q7 h1 h2 h6 h7 hS hlf
    obtain ⟨M, rfl, hM, HM, E⟩ := hcut
    have hwM : w.heap.size ≤ M := Nat.le_trans T.size hM
    have hBM : w.heap.size ≠ M := by omega
    have hRM : w.heap.size + 1 ≠ M := by omega
    replace B := B.below E
    replace R := R.below E
    replace T := sps T E T.size
    clear E L hlt hM
    have q3 := R.word 3 w3 rfl
    go_upto_region 6 with (go_at_call 22; (with_reducible refine (h3 _ (hl.below T)).mono ?_); rintro e v3 ⟨rfl, hb⟩; replace B := B.below hb; replace R := R.below hb; replace HM := HM.below hb; replace T := sps T hb T.size; clear hb; obtain ⟨n0, n1, n2, n3, n4, n5, n6, n7, n8, n9, n10, n11, n12, n13⟩ := id HM.at14; obtain ⟨t0, t1, t2, t3, t4, t5, t6, t7, t8, t9, t10, t11, t12, t13⟩ := id HM.thaw14)
    refine nameW (P := fun W' => Bl W' M (spA ⟨ii, qq, lf, x, Cw.zero, Cw.zero, pk, bt⟩) TSp ∧ Bl W' w.heap.size zsp TSp ∧ Bl W' (w.heap.size + 1) (cellsOf [w0, w1, w2, w3, w4, w5, w6, w7] N) 9 ∧ Below w.heap.size w W')
      ⟨Bl.cur3 HM (.int .u64 x.f) (.int .u64 x.l) (.int .u64 x.r), Bl.ne3 B hBM _ _ _, Bl.ne3 R hRM _ _ _, below3 T hwM _ _ _⟩ (fun U3 hU => ?_)
    clear n0 n1 n2 n3 n4 n5 n6 n7 n8 n9 n10 n11 n12 n13 t0 t1 t2 t3 t4 t5 t6 t7 t8 t9 t10 t11 t12 t13 q3 B R HM T h3
    obtain ⟨HM, B, R, T⟩ := hU
    have q4 := R.word 4 w4 rfl
    go_upto_region 7 with (go_at_call 22; (with_reducible refine (h4 _ (hl.below T)).mono ?_); rintro e v4 ⟨rfl, hb⟩; replace B := B.below hb; replace R := R.below hb; replace HM := HM.below hb; replace T := sps T hb T.size; clear hb; obtain ⟨n0, n1, n2, n3, n4, n5, n6, n7, n8, n9, n10, n11, n12, n13⟩ := id HM.at14; obtain ⟨t0, t1, t2, t3, t4, t5, t6, t7, t8, t9, t10, t11, t12, t13⟩ := id HM.thaw14)
    refine nameW (P := fun W' => Bl W' M (spA ⟨ii, qq, lf, x, y, Cw.zero, pk, bt⟩) TSp ∧ Bl W' w.heap.size zsp TSp ∧ Bl W' (w.heap.size + 1) (cellsOf [w0, w1, w2, w3, w4, w5, w6, w7] N) 9 ∧ Below w.heap.size w W')
      ⟨Bl.cur6 HM (.int .u64 y.f) (.int .u64 y.l) (.int .u64 y.r), Bl.ne3 B hBM _ _ _, Bl.ne3 R hRM _ _ _, below3 T hwM _ _ _⟩ (fun U4 hU => ?_)
    clear n0 n1 n2 n3 n4 n5 n6 n7 n8 n9 n10 n11 n12 n13 t0 t1 t2 t3 t4 t5 t6 t7 t8 t9 t10 t11 t12 t13 q4 B R HM T h4
    obtain ⟨HM, B, R, T⟩ := hU
    have q5 := R.word 5 w5 rfl
    go_upto_region 8 with (go_at_call 22; (with_reducible refine (h5 _ (hl.below T)).mono ?_); rintro e v5 ⟨rfl, hb⟩; replace B := B.below hb; replace R := R.below hb; replace HM := HM.below hb; replace T := sps T hb T.size; clear hb; obtain ⟨n0, n1, n2, n3, n4, n5, n6, n7, n8, n9, n10, n11, n12, n13⟩ := id HM.at14; obtain ⟨t0, t1, t2, t3, t4, t5, t6, t7, t8, t9, t10, t11, t12, t13⟩ := id HM.thaw14)
    refine nameW (P := fun W' => Bl W' M (spA ⟨ii, qq, lf, x, y, z, pk, bt⟩) TSp ∧ Bl W' w.heap.size zsp TSp ∧ Bl W' (w.heap.size + 1) (cellsOf [w0, w1, w2, w3, w4, w5, w6, w7] N) 9 ∧ Below w.heap.size w W')
      ⟨Bl.cur9 HM (.int .u64 z.f) (.int .u64 z.l) (.int .u64 z.r), Bl.ne3 B hBM _ _ _, Bl.ne3 R hRM _ _ _, below3 T hwM _ _ _⟩ (fun U5 hU => ?_)
    clear n0 n1 n2 n3 n4 n5 n6 n7 n8 n9 n10 n11 n12 n13 t0 t1 t2 t3 t4 t5 t6 t7 t8 t9 t10 t11 t12 t13 q5 B R HM T h5
    obtain ⟨HM, B, R, T⟩ := hU
    obtain ⟨n0, n1, n2, n3, n4, n5, n6, n7, n8, n9, n10, n11, n12, n13⟩ := id HM.at14
    have ek : ∀ b : Bool, (te == 0) = b → (te != 0) = !b := fun b h => by rw [bne, h]
    have hne := ek ca hca.out
    clear ek
    go_upto_region 9 with (go_at_call 8; (with_reducible refine (hX _ (hl.below T)).mono ?_); rintro e v8 ⟨rfl, hb⟩; replace B := B.below hb; replace HM := HM.below hb; replace T := sps T hb T.size; clear hb)
    clear n0 n1 n2 n3 n4 n5 n6 n7 n8 n9 n10 n11 n12 n13 R hX
    have hcb := hcb.out
    have hca := hca.out
    obtain ⟨n0, n1, n2, n3, n4, n5, n6, n7, n8, n9, n10, n11, n12, n13⟩ := id HM.at14
    obtain ⟨c0, c1, c2, c3, c4, c5, c6, c7, c8, c9, c10, c11, c12, c13⟩ := id B.at14
    obtain ⟨t0, t1, t2, t3, t4, t5, t6, t7, t8, t9, t10, t11, t12, t13⟩ := id B.thaw14
    clear HM B
    cases ca <;> cases cb
    all_goals
      go_wp2
    · exact bodyPost_ret (v := .tuple #[spW Sp.zero, .int .i64 2]) (by simp [results, Tryz.results9, go_sem, c0, c1, c2, c3, c4, c5, c6, c7, c8, c9, c10, c11, c12, c13, Sp.zero, Cw.zero]) rfl ⟨rfl, below14 T (Nat.le_refl _) _ _ _ _ _ _ _ _ _ _ _ _ _ _⟩
    · exact bodyPost_ret (v := .tuple #[spW Sp.zero, .int .i64 2]) (by simp [results, Tryz.results9, go_sem, c0, c1, c2, c3, c4, c5, c6, c7, c8, c9, c10, c11, c12, c13, Sp.zero, Cw.zero]) rfl ⟨rfl, below14 T (Nat.le_refl _) _ _ _ _ _ _ _ _ _ _ _ _ _ _⟩
    · exact bodyPost_ret (v := .tuple #[spW Sp.zero, .int .i64 2]) (by simp [results, Tryz.results9, go_sem, c0, c1, c2, c3, c4, c5, c6, c7, c8, c9, c10, c11, c12, c13, Sp.zero, Cw.zero]) rfl ⟨rfl, below14 T (Nat.le_refl _) _ _ _ _ _ _ _ _ _ _ _ _ _ _⟩
    · exact bodyPost_ret (v := .tuple #[spW ⟨ii, qq, lf, x, y, z, pk, bt⟩, .int .i64 0]) (by simp [results, Tryz.results9, go_sem, c0, c1, c2, c3, c4, c5, c6, c7, c8, c9, c10, c11, c12, c13]) rfl ⟨rfl, below14 T (Nat.le_refl _) _ _ _ _ _ _ _ _ _ _ _ _ _ _⟩
end Go.Proofs.YtkcmfcgoknhodaaGreatDoor
