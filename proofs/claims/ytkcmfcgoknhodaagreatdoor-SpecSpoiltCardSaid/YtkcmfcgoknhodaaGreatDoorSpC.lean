/- A curve's word, read by the program. Condition: the library's tables and errors are laid; the word isn't as long as four thousand million bytes. -/
import Derived.Test.YtkcmfcgoknhodaaGreatDoorSpS
import Derived.Deep.DeepCutAuto
namespace Go.Proofs.YtkcmfcgoknhodaaGreatDoor
open Go.RowKit Go.Lib W
set_option linter.unusedVariables false
theorem strne {u s : ByteArray} (h : u ≠ s) : (u.toList == s.toList) = false := by
  rw [beq_eq_false_iff_ne, ByteArray.toList_eq, ByteArray.toList_eq]
  intro e
  apply h
  cases u; cases s
  simp at e
  rw [e]
abbrev z3 : Array Value := #[.int .u64 0, .int .u64 0, .int .u64 0]
theorem Bl.setNe {W : World} {B : Nat} {t : TypeId} {vs : Array Value} (h : Bl W B vs t) {a : Addr} (hne : B ≠ a.block) (v : Value) : Bl (W.setCell a v) B vs t := (Below.heap_setCell W a v B hne).trans h
theorem Bl.drew {W : World} {B : Nat} {t : TypeId} {v : Array Value} (h : Bl W B v t) : Bl W.drew B v t := h
theorem Bl.set {W : World} {B : Nat} {vs : Array Value} {t : TypeId} (h : Bl W B vs t) (i : Nat) (v : Value) : Bl (W.setCell ⟨B, i, none⟩ v) B (vs.setIfInBounds i v) t := heap_setCell_same W B i vs t v h
/-- The cells of a block of three. -/
theorem Bl.tri3 {W : World} {B : Nat} {t : TypeId} {a b c : Value} (h : Bl W B #[a, b, c] t) : W.cell? ⟨B, 0, none⟩ = some a ∧ W.cell? ⟨B, 1, none⟩ = some b ∧ W.cell? ⟨B, 2, none⟩ = some c ∧ W.frozen? ⟨B, 0, none⟩ = false ∧ W.frozen? ⟨B, 1, none⟩ = false ∧ W.frozen? ⟨B, 2, none⟩ = false :=
  ⟨h.cell 0, h.cell 1, h.cell 2, h.thaw 0, h.thaw 1, h.thaw 2⟩
theorem Bl.set3 {W : World} {B : Nat} {t : TypeId} {a b c : Value} (h : Bl W B #[a, b, c] t) (x y z : Value) : Bl (((W.setCell ⟨B, 0, none⟩ x).setCell ⟨B, 1, none⟩ y).setCell ⟨B, 2, none⟩ z) B #[x, y, z] t := by
  have h1 := Bl.set h 0 x
  simp only [List.setIfInBounds_toArray, List.set_cons_zero] at h1
  have h2 := Bl.set h1 1 y
  simp only [List.setIfInBounds_toArray, List.set_cons_zero, List.set_cons_succ] at h2
  have h3 := Bl.set h2 2 z
  simp only [List.setIfInBounds_toArray, List.set_cons_zero, List.set_cons_succ] at h3
  exact h3
set_option maxHeartbeats 4000000 in
set_option maxRecDepth 100000 in
theorem Curve_few (s : ByteArray) (L : List ByteArray) (N : Nat) (h3 : ((L.length : Int) == 3) = false) (w : World)
    (hS : ∀ w, Calls Tryz.prog 20 #[.string s, .string ⟨#[47]⟩, .int .i64 4] w fun e w' => e = .returned (.slice (some ⟨w.heap.size, 0, none⟩) L.length N) ∧ w' = w.alloc (.cells (cellsOf L N) 9)) :
    Calls Tryz.prog 22 #[.string s] w fun e w' => e = .returned (.tuple #[.agg #[.int .u64 0, .int .u64 0, .int .u64 0], .int .i64 2]) ∧ Below w.heap.size w w' := by
  have B := (Bl.new w 24 z3).alloc (.cells (cellsOf L N) 9)
  have T := up2 w (.cells z3 24) (.cells (cellsOf L N) 9)
  go_enter Tryz.func22, Tryz.ntmps22
  go_upto_region 2 with (go_at_call 20; (with_reducible refine (hS _).mono ?_); rintro e w' ⟨rfl, hw⟩; rw [hw])
  generalize (w.alloc (.cells z3 24)).alloc (.cells (cellsOf L N) 9) = W1 at B T ⊢
  have c0 : W1.cell? ⟨w.heap.size, 0, none⟩ = some (.int .u64 0) := B.cell 0
  have c1 : W1.cell? ⟨w.heap.size, 1, none⟩ = some (.int .u64 0) := B.cell 1
  have c2 : W1.cell? ⟨w.heap.size, 2, none⟩ = some (.int .u64 0) := B.cell 2
  have f0 := B.thaw 0
  have f1 := B.thaw 1
  have f2 := B.thaw 2
  go_wp2
  exact bodyPost_ret (v := .tuple #[.agg #[.int .u64 0, .int .u64 0, .int .u64 0], .int .i64 2]) (by simp [results, Tryz.results22, go_sem, c0, c1, c2]) rfl ⟨rfl, ((T.setCell (Nat.le_refl _) _).setCell (Nat.le_refl _) _).setCell (Nat.le_refl _) _⟩
set_option maxHeartbeats 4000000 in
set_option maxRecDepth 100000 in
theorem Curve_read (s a b c D : ByteArray) (N : Nat) (hN : 3 ≤ N) (x y z : Int) (w : World) (hl : Lw w) (bb : Bool) (hbb : (D.toList == s.toList) = bb)
    (hS : ∀ w, Calls Tryz.prog 20 #[.string s, .string ⟨#[47]⟩, .int .i64 4] w fun e w' => e = .returned (.slice (some ⟨w.heap.size, 0, none⟩) 3 N) ∧ w' = w.alloc (.cells (cellsOf [a, b, c] N) 9))
    (h0 : ∀ w, Lw w → Calls Tryz.prog 37 #[.string a] w fun e w' => e = .returned (.int .u64 x) ∧ Below w.heap.size w w')
    (h1 : ∀ w, Lw w → Calls Tryz.prog 37 #[.string b] w fun e w' => e = .returned (.int .u64 y) ∧ Below w.heap.size w w')
    (h2 : ∀ w, Lw w → Calls Tryz.prog 37 #[.string c] w fun e w' => e = .returned (.int .u64 z) ∧ Below w.heap.size w w')
    (h3 : ∀ w, Lw w → Calls Tryz.prog 19 #[.agg #[.int .u64 x, .int .u64 y, .int .u64 z]] w fun e w' => e = .returned (.string D) ∧ Below w.heap.size w w') :
    Calls Tryz.prog 22 #[.string s] w fun e w' => e = .returned (if bb then (.tuple #[.agg #[.int .u64 x, .int .u64 y, .int .u64 z], .int .i64 0]) else (.tuple #[.agg #[.int .u64 0, .int .u64 0, .int .u64 0], .int .i64 2])) ∧ Below w.heap.size w w' := by
  have B := (Bl.new w 24 z3).alloc (.cells (cellsOf [a, b, c] N) 9)
  have T := up2 w (.cells z3 24) (.cells (cellsOf [a, b, c] N) 9)
  have L := hl.below T
  have q0 := word_cell (w.alloc (.cells z3 24)) [a, b, c] N 9 0 a rfl
  have q1 := word_cell (w.alloc (.cells z3 24)) [a, b, c] N 9 1 b rfl
  have q2 := word_cell (w.alloc (.cells z3 24)) [a, b, c] N 9 2 c rfl
  rw [World.size_alloc] at q0 q1 q2
  have hlt : w.heap.size + 1 < ((w.alloc (.cells z3 24)).alloc (.cells (cellsOf [a, b, c] N) 9)).heap.size := by simp
  go_enter Tryz.func22, Tryz.ntmps22
  go_upto_region 4 with (go_at_call 20; (with_reducible refine (hS _).mono ?_); rintro e w' ⟨rfl, hw⟩; rw [hw])
  generalize (w.alloc (.cells z3 24)).alloc (.cells (cellsOf [a, b, c] N) 9) = W1 at B T L q0 q1 q2 hlt ⊢
  have E := (Below.refl W1.heap.size W1).drew
  have Q : ∀ {v : World}, Below W1.heap.size W1 v → v.cell? ⟨w.heap.size + 1, 0, none⟩ = some (.string a) ∧ v.cell? ⟨w.heap.size + 1, 1, none⟩ = some (.string b) ∧ v.cell? ⟨w.heap.size + 1, 2, none⟩ = some (.string c) := fun hb => ⟨(hb.cell (p := ⟨w.heap.size + 1, 0, none⟩) hlt).trans q0, (hb.cell (p := ⟨w.heap.size + 1, 1, none⟩) hlt).trans q1, (hb.cell (p := ⟨w.heap.size + 1, 2, none⟩) hlt).trans q2⟩
  have R0 := ((Below.refl W1.heap.size W1).alloc (Nat.le_refl _) (.cells z3 24)).drew
  go_cut [5] from 12 (fun s5 wx => ∃ M : Nat, s5 = .pointer (some ⟨M, 0, none⟩) ∧ Bl wx M #[.int .u64 x, .int .u64 y, .int .u64 z] 24 ∧ Below W1.heap.size W1 wx)
  case first =>
    go_region_held3 (fun w' => w'.cell? ⟨w.heap.size + 1, 0, none⟩ = some (.string a) ∧ w'.cell? ⟨w.heap.size + 1, 1, none⟩ = some (.string b) ∧ w'.cell? ⟨w.heap.size + 1, 2, none⟩ = some (.string c))
      (first | exact ⟨q0, q1, q2⟩ | exact Q E | exact Q (E.alloc E.size _) | exact Q R0 | exact Q (((E.setCell hM _).setCell hM _).setCell hM _) | exact Q ((((E.alloc E.size _).setCell E.size _).setCell E.size _).setCell E.size _))
      (first
        | (go_at_call 37; (first | (with_reducible refine (h0 _ (L.below E)).mono ?_) | (with_reducible refine (h0 _ (L.below (E.alloc E.size _))).mono ?_) | (with_reducible refine (h0 _ (L.below R0)).mono ?_)); rintro e v0 ⟨rfl, hb⟩; (first | (replace HN := Bl.below HN hb; replace E := sps E hb E.size; obtain ⟨n0, n1, n2, n3, n4, n5⟩ := id HN.tri3) | (replace E := sps E hb E.size) | (have HN := Bl.below (Bl.new _ 24 z3) hb; have hM := E.size; replace E := sps (E.alloc E.size _) hb (E.alloc E.size _).size; obtain ⟨n0, n1, n2, n3, n4, n5⟩ := id HN.tri3) | (have HN := Bl.below (Bl.new W1 24 z3).drew hb; have hM := Nat.le_refl W1.heap.size; replace E := sps R0 hb R0.size; obtain ⟨n0, n1, n2, n3, n4, n5⟩ := id HN.tri3)); clear hb)
        | (go_at_call 37; (first | (with_reducible refine (h1 _ (L.below E)).mono ?_) | (with_reducible refine (h1 _ (L.below (E.alloc E.size _))).mono ?_) | (with_reducible refine (h1 _ (L.below R0)).mono ?_)); rintro e v1 ⟨rfl, hb⟩; (first | (replace HN := Bl.below HN hb; replace E := sps E hb E.size; obtain ⟨n0, n1, n2, n3, n4, n5⟩ := id HN.tri3) | (replace E := sps E hb E.size) | (have HN := Bl.below (Bl.new _ 24 z3) hb; have hM := E.size; replace E := sps (E.alloc E.size _) hb (E.alloc E.size _).size; obtain ⟨n0, n1, n2, n3, n4, n5⟩ := id HN.tri3) | (have HN := Bl.below (Bl.new W1 24 z3).drew hb; have hM := Nat.le_refl W1.heap.size; replace E := sps R0 hb R0.size; obtain ⟨n0, n1, n2, n3, n4, n5⟩ := id HN.tri3)); clear hb)
        | (go_at_call 37; (first | (with_reducible refine (h2 _ (L.below E)).mono ?_) | (with_reducible refine (h2 _ (L.below (E.alloc E.size _))).mono ?_) | (with_reducible refine (h2 _ (L.below R0)).mono ?_)); rintro e v2 ⟨rfl, hb⟩; (first | (replace HN := Bl.below HN hb; replace E := sps E hb E.size; obtain ⟨n0, n1, n2, n3, n4, n5⟩ := id HN.tri3) | (replace E := sps E hb E.size) | (have HN := Bl.below (Bl.new _ 24 z3) hb; have hM := E.size; replace E := sps (E.alloc E.size _) hb (E.alloc E.size _).size; obtain ⟨n0, n1, n2, n3, n4, n5⟩ := id HN.tri3) | (have HN := Bl.below (Bl.new W1 24 z3).drew hb; have hM := Nat.le_refl W1.heap.size; replace E := sps R0 hb R0.size; obtain ⟨n0, n1, n2, n3, n4, n5⟩ := id HN.tri3)); clear hb))
    all_goals
      go_wp2_with fail
      go_meet
      first
        | exact ⟨_, rfl, Bl.set3 HN _ _ _, ((E.setCell hM _).setCell hM _).setCell hM _⟩
        | exact ⟨_, rfl, Bl.new _ _ _, E.alloc E.size _⟩
  case rest =>
    clear R0 Q E q0 q1 q2 h0 h1 h2 hS
    obtain ⟨M, rfl, HM, E⟩ := hcut
    have m0 := HM.cell 0
    have m1 := HM.cell 1
    have m2 := HM.cell 2
    simp only [List.getElem?_toArray, List.getElem?_cons_zero, List.getElem?_cons_succ] at m0 m1 m2
    replace B := B.below E
    replace L := L.below E
    replace T := sps T E T.size
    cases bb
    all_goals
      go_wp2_with (go_at_call 19; (with_reducible refine (h3 _ L).mono ?_); rintro e v4 ⟨rfl, hb⟩; replace B := B.below hb; replace HM := HM.below hb; replace T := sps T hb T.size; clear hb m0 m1 m2; (have c0 : v4.cell? ⟨w.heap.size, 0, none⟩ = some (.int .u64 0) := B.cell 0); (have c1 : v4.cell? ⟨w.heap.size, 1, none⟩ = some (.int .u64 0) := B.cell 1); (have c2 : v4.cell? ⟨w.heap.size, 2, none⟩ = some (.int .u64 0) := B.cell 2); have f0 := B.thaw 0; have f1 := B.thaw 1; have f2 := B.thaw 2; (have m0 : v4.cell? ⟨M, 0, none⟩ = some (.int .u64 x) := HM.cell 0); (have m1 : v4.cell? ⟨M, 1, none⟩ = some (.int .u64 y) := HM.cell 1); (have m2 : v4.cell? ⟨M, 2, none⟩ = some (.int .u64 z) := HM.cell 2))
    · exact bodyPost_ret (v := .tuple #[.agg #[.int .u64 0, .int .u64 0, .int .u64 0], .int .i64 2]) (by simp [results, Tryz.results22, go_sem, c0, c1, c2]) rfl ⟨rfl, ((T.setCell (Nat.le_refl _) _).setCell (Nat.le_refl _) _).setCell (Nat.le_refl _) _⟩
    · exact bodyPost_ret (v := .tuple #[.agg #[.int .u64 x, .int .u64 y, .int .u64 z], .int .i64 0]) (by simp [results, Tryz.results22, go_sem, c0, c1, c2]) rfl ⟨rfl, ((T.setCell (Nat.le_refl _) _).setCell (Nat.le_refl _) _).setCell (Nat.le_refl _) _⟩
theorem list3 {α : Type} {L : List α} (h : L.length = 3) : ∃ a b c, L = [a, b, c] := by
  match L, h with
  | [a, b, c], _ => exact ⟨a, b, c, rfl⟩
theorem Curve_any (s : ByteArray) (hs : s.size < 4294967281) : ∃ (r : Cw) (e : Int), IsC s.data.toList r e ∧ ∀ w, Lw w →
    Calls Tryz.prog 22 #[.string s] w fun x w' => x = .returned (.tuple #[.agg #[.int .u64 r.f, .int .u64 r.l, .int .u64 r.r], .int .i64 e]) ∧ Below w.heap.size w w' := by
  obtain ⟨L, N, hLN, hN, hgl, hsz, hS⟩ := split_any s 47 4 hs (by omega) (by omega)
  have hgl' : ∀ q : Cw, q.ok → s.data.toList = wordT q → L = (partsT q).map bs := fun q _ e => hgl (partsT q) (by simp [partsT]) (parts_no q) (by simp [partsT]) e
  by_cases h3 : L.length = 3
  · obtain ⟨a, b, c, rfl⟩ := list3 h3
    obtain ⟨x, hx, g0⟩ := unsigned_any a (by have := hsz a (by simp); omega)
    obtain ⟨y, hy, g1⟩ := unsigned_any b (by have := hsz b (by simp); omega)
    obtain ⟨z, hz, g2⟩ := unsigned_any c (by have := hsz c (by simp); omega)
    have hw : ∀ q : Cw, q.ok → s.data.toList = wordT q → [a.data.toList, b.data.toList, c.data.toList] = partsT q := fun q hq e => by
      have h := hgl' q hq e
      have h := congrArg (List.map fun x : ByteArray => x.data.toList) h
      rw [List.map_map] at h
      have k : ((fun x : ByteArray => x.data.toList) ∘ bs) = id := by funext x; simp
      rw [k, List.map_id] at h
      exact h
    obtain ⟨k1, k2⟩ := IsC.of_read hw hx hy hz
    have hok : (⟨x, y, z⟩ : Cw).ok := ⟨hx.1, hy.1, hz.1⟩
    have hR := fun (bb : Bool) (hbb : ((bs (wordT ⟨x, y, z⟩)).toList == s.toList) = bb) (w : World) (hl : Lw w) => Curve_read s a b c _ N hLN x y z w hl bb hbb hS g0 g1 g2 (fun w hl => wordS_any ⟨x, y, z⟩ hok w hl)
    by_cases e : wordT ⟨x, y, z⟩ = s.data.toList
    · exact ⟨⟨x, y, z⟩, 0, k1 e, fun w hl => hR true (by rw [e, bs_of]; simp) w hl⟩
    · exact ⟨Cw.zero, 2, k2 e, fun w hl => hR false (strne (fun h => e (by rw [← h]))) w hl⟩
  · refine ⟨Cw.zero, 2, IsC.of_few (fun q hq e => h3 (by rw [hgl' q hq e]; rfl)), fun w hl => Curve_few s L N ?_ w hS⟩
    rw [beq_eq_false_iff_ne]
    omega
end Go.Proofs.YtkcmfcgoknhodaaGreatDoor
