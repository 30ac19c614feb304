/- The law's same: a tree and a row of the same items. No condition but that there aren't too many. -/
import Derived.Test.YtjfpemkdidoacaaVZ
import Derived.Test.YtjfpemkdidoacaaRnq
import Derived.Sort.CutIn
import Derived.Deep.RegionHeld3
namespace Go.Proofs.Ytjfpemkdidoacaa
open Go.RowKit Go.Shelf
set_option linter.unusedVariables false
set_option linter.unusedSimpArgs false
attribute [local go_sem] Oper.semAt_some
/-- The cells of the loop. -/
def SaI (W : World) (R : Nat) (n : Nat) (X : World) : Prop :=
  Box X W.heap.size #[.pointer (some ⟨R, 0, none⟩)] 25 ∧ Box X (W.heap.size + 1) #[.bool false] 4 ∧ Box X (W.heap.size + 1 + 1) #[eI (n : Int)] 3 ∧ Below W.heap.size W X
theorem SaI.turn {W X Y : World} {R n C : Nat} {row : Option Nat} (hI : SaI W R n X) (hg : X.grownBy Y row) (hr : ∀ r, row = some r → C ≤ r) (hC : W.heap.size + 3 ≤ C) : SaI W R n Y := by
  obtain ⟨h1, h2, h3, h4⟩ := hI
  exact ⟨h1.turn hg hr (by omega), h2.turn hg hr (by omega), h3.turn hg hr (by omega), below_turn h4 hg hr (by omega)⟩
theorem SaI.below {W X Y : World} {R n : Nat} (hI : SaI W R n X) (h : Below X.heap.size X Y) : SaI W R n Y := by
  obtain ⟨h1, h2, h3, h4⟩ := hI
  exact ⟨h1.below h, h2.below h, h3.below h, upp h4 h⟩
theorem pre_at {pre L : List It} {z : It} (h : pre ++ [z] <+: L) : ∃ hk : pre.length < L.length, L[pre.length] = z := by
  obtain ⟨s, hs⟩ := h
  subst hs
  exact ⟨by simp, by simp⟩
set_option maxRecDepth 100000 in
set_option maxHeartbeats 12000000 in
theorem same_any (B R : Nat) (L : List It) (W : World) (hO : Ob W B L) (hR : Rw W R L) (hl : L.length ≤ 500) :
    Calls Try.prog 11 #[.pointer (some ⟨B, 0, none⟩), .pointer (some ⟨R, 0, none⟩)] W fun e w' => e = .returned (.bool true) ∧ Below W.heap.size W w' := by
  obtain ⟨a, c, hRb, hLc, hIt⟩ := hR
  have hce := Lib.hid (row_cells hIt)
  refine (callsIn_wide (n := 12)).1 ?_
  refine callsIn_of_wp_marks Try.func11 rfl trivial ?_ rfl
  simp only [Try.ntmps11, List.size_toArray, List.length_cons, List.length_nil, Nat.reduceAdd, Nat.reduceSub, Array.replicate_succ, Array.replicate_zero, List.push_toArray, List.append_toArray, List.nil_append, List.cons_append]
  gi_wp2_with (first | (refine ⟨trivial, ?_⟩; gi_at_call 26; (with_reducible refine (callsIn_wide.2 (eachT_any _ _)).mono ?_); rintro e w6 ⟨rfl, rfl⟩))
  have k0 := (((Box.new W 25 #[.pointer (some ⟨R, 0, none⟩)]).alloc (.cells #[.bool false] 4)).alloc (.cells #[eI 0] 3)).alloc (.cells #[.pointer (some ⟨B, 0, none⟩)] 23)
  have k1 := ((Box.new (W.alloc (.cells #[.pointer (some ⟨R, 0, none⟩)] 25)) 4 #[.bool false]).alloc (.cells #[eI 0] 3)).alloc (.cells #[.pointer (some ⟨B, 0, none⟩)] 23)
  have k2 := (Box.new ((W.alloc (.cells #[.pointer (some ⟨R, 0, none⟩)] 25)).alloc (.cells #[.bool false] 4)) 3 #[eI 0]).alloc (.cells #[.pointer (some ⟨B, 0, none⟩)] 23)
  have k3 := Box.new (((W.alloc (.cells #[.pointer (some ⟨R, 0, none⟩)] 25)).alloc (.cells #[.bool false] 4)).alloc (.cells #[eI 0] 3)) 23 #[.pointer (some ⟨B, 0, none⟩)]
  simp only [World.size_alloc] at k1 k2 k3
  have TV : Below W.heap.size W ((((W.alloc (.cells #[.pointer (some ⟨R, 0, none⟩)] 25)).alloc (.cells #[.bool false] 4)).alloc (.cells #[eI 0] 3)).alloc (.cells #[.pointer (some ⟨B, 0, none⟩)] 23)) := (up3 W _ _ _).alloc (by simp; omega) _
  have hsz : ((((W.alloc (.cells #[.pointer (some ⟨R, 0, none⟩)] 25)).alloc (.cells #[.bool false] 4)).alloc (.cells #[eI 0] 3)).alloc (.cells #[.pointer (some ⟨B, 0, none⟩)] 23)).heap.size = W.heap.size + 4 := by simp
  obtain ⟨V1, hV1⟩ : ∃ V1, ((((W.alloc (.cells #[.pointer (some ⟨R, 0, none⟩)] 25)).alloc (.cells #[.bool false] 4)).alloc (.cells #[eI 0] 3)).alloc (.cells #[.pointer (some ⟨B, 0, none⟩)] 23)) = V1 := ⟨_, rfl⟩
  rw [hV1] at k0 k1 k2 k3 TV hsz ⊢
  clear hV1
  have hBV := hO.lt
  have hseq := ob_each 11 (W.heap.size + 1 + 1 + 1) W.heap.size V1 (by omega) (by omega) (Nat.le_refl _) hO TV k3
  refine loopC (by omega) (gf := 52) (lb := #[.pointer (some ⟨W.heap.size + 1 + 1 + 1, 0, none⟩)]) rfl (enters_of Try.func52 (by kernel_rfl) rfl) (n₀ := W.heap.size) (by omega) hseq (fun _ => rfl)
    (fun pre X => SaI W R pre.length X) (fun _ _ _ => False) (fun _ X Y row hI hg hr => hI.turn hg hr (by omega)) (fun c _ _ _ _ h => h.elim) ⟨k0, k1, k2, TV⟩
    (fun z a' X => ∃ Bx, W.heap.size + 4 ≤ Bx ∧ Box X Bx #[eU z.1.1, eI z.1.2] 32 ∧ a' = { tmps := #[.pointer (some ⟨B, 0, none⟩), .pointer (some ⟨R, 0, none⟩), undef, .pointer (some ⟨W.heap.size, 0, none⟩), .pointer (some ⟨W.heap.size + 1, 0, none⟩), .pointer (some ⟨W.heap.size + 1 + 1, 0, none⟩), .pointer (some ⟨Bx, 0, none⟩), eU z.2, undef, undef, .pointer (some ⟨B, 0, none⟩), .func (.func 52) #[] #[.pointer (some ⟨W.heap.size + 1 + 1 + 1, 0, none⟩)], ky z.1, eU z.2, undef, undef, undef, undef, undef, undef, undef, undef, undef, undef, undef, undef, undef, undef, undef, undef, undef, undef, undef, undef, undef, undef, undef, undef, undef, undef, undef, undef, undef, undef, undef, undef, undef, undef, undef, undef, undef, undef, undef, undef, undef, undef, undef, undef, undef, undef, undef, undef, undef, undef, undef, undef, undef, undef, undef, undef, undef, undef, undef, undef, undef, undef, undef, undef, undef, undef, undef, undef, undef, undef, undef, undef, undef, undef, undef, undef], defers := [] })
    (fun x a' _ X Y row hs hg hr => by obtain ⟨Bx, h1, h2, h3⟩ := hs; exact ⟨Bx, h1, box_own Bx 32 _ () X Y row h2 hg (fun r e => (hr r e).2), h3⟩)
    ?assign ?body ?done ?stop
  case assign =>
    rintro l0 pre z X K hzX hI hK
    gi_wp2
    exact hK _ _ (Mid.alloc X hI.2.2.2.size _) (hI.below (up1 _ _)) ⟨X.heap.size, by omega, Box.new X 32 _, rfl⟩
  case stop =>
    rintro D c pre X hD _ h hK
    exact h.elim
  case body =>
    rintro l0 pre z a' X hzX hI ⟨Bx, hBx, bX, rfl⟩ hpx
    obtain ⟨hk, hz⟩ := pre_at hpx
    obtain ⟨g, o, rfl, hg, y0, y1, y2⟩ := hce.out pre.length X hk hI.2.2.2
    rw [hz] at y0 y1 y2
    have hpl : (pre ++ [z]).length = pre.length + 1 := by simp
    clear hz hpx hseq
    generalize pre.length = p at *
    replace hpl := Lib.hid hpl
    obtain ⟨x0, x1⟩ := kyC bX
    have cR := (hRb.below hI.2.2.2).cell 0
    have c0 := hI.1.cell 0
    have c2 := hI.2.2.1.cell 0
    have i1 : (p : Int) < (L.length : Int) := by omega
    have i2 : (0 : Int) ≤ (p : Int) := by omega
    have i3 : decide ((L.length : Int) ≤ (p : Int)) = false := by simp; omega
    have i4 : decide (L.length ≤ p) = false := by simp; omega
    have s1 : (z.1.1 == z.1.1) = true := by simp
    have s2 : (z.1.2 == z.1.2) = true := by simp
    have s3 : (z.2 == z.2) = true := by simp
    have s4 : (z.2 != z.2) = false := by simp
    have hnc : (L.length : Int) ≤ (c : Int) := by omega
    dsimp only
    gi_upto_region 5 with (fail)
    refine round_quiet (by kernel_rfl) (by kernel_rfl) (by kernel_rfl) ?_
    repeat (quiet_step (fail))
    refine wpQuiet_nil ?_
    intro _ hw'
    obtain ⟨nq, hw''⟩ := hw'
    subst hw''
    clear c0 c2 cR x0 x1 y0 y1 y2
    have hI' := hI.below (below_drewN (Below.refl _ X) nq)
    have hM : Mid W.heap.size V1.heap.size X (X.drewN nq) := Mid.of_below (below_drewN (Below.refl _ X) nq) hI.2.2.2.size
    generalize X.drewN nq = Y at *
    have c2 := hI'.2.2.1.cell 0
    have f2 := hI'.2.2.1.thaw 0
    have l2 := hI'.2.2.1.lt
    have z1 : IntKind.i64.wrap ((p : Int) + 1) = (p : Int) + 1 := by simp [IntKind.wrap, IntKind.bits, IntKind.signed]; omega
    have hii : (((p + 1 : Nat)) : Int) = (p : Int) + 1 := by omega
    gi_wp2
    obtain ⟨h1, h2, h3, h4⟩ := hI'
    refine ⟨hM.trans (Mid.put Y (b := W.heap.size + 1 + 1) (by omega) (by omega) 0 _), ?_⟩
    show SaI W R (pre ++ [z]).length _
    rw [hpl.out]
    refine ⟨h1.setNe (by show W.heap.size ≠ W.heap.size + 1 + 1; omega) _, h2.setNe (by show W.heap.size + 1 ≠ W.heap.size + 1 + 1; omega) _, ?_, h4.setCell (p := ⟨W.heap.size + 1 + 1, 0, none⟩) (by simp; omega) _⟩
    rw [hii]
    exact h3.set 0 _
  case done =>
    rintro D0 ys X hD rfl hI hKd
    have hI0 : SaI W R ys.length X := hI
    clear hI hseq k0 k1 k2 k3 TV
    have hI := hI0
    clear hI0
    replace hO := hO.below hI.2.2.2
    have hX3 := hI.2.2.1.lt
    obtain ⟨k, hkk⟩ : ∃ z, kG ys.head? = z := ⟨_, rfl⟩
    obtain ⟨b, hbb⟩ : ∃ z, (ys.head?).isSome = z := ⟨_, rfl⟩
    have c25 : Calls Try.prog 25 #[.pointer (some ⟨B, 0, none⟩)] X fun e w' => e = .returned (.tuple #[.agg #[eU k.1, eI k.2], .bool b]) ∧ Below X.heap.size X w' := by
      have := ob_first hO
      rw [fstV_kG, hkk, hbb] at this
      exact this
    gi_upto_region 9 with (first | (refine ⟨trivial, ?_⟩; gi_at_call 25; (with_reducible refine (callsIn_wide.2 c25).mono ?_); rintro e Y ⟨rfl, hb⟩))
    replace hKd := (hb.block D0 (Array.getElem?_eq_some_iff.1 hKd).1).trans hKd
    replace hO := (hO.below hb).below (up1 Y (.cells #[eU k.1, eI k.2] 32))
    replace hI := (hI.below hb).below (up1 Y (.cells #[eU k.1, eI k.2] 32))
    replace hKd := ((up1 Y (.cells #[eU k.1, eI k.2] 32)).block D0 (Array.getElem?_eq_some_iff.1 hKd).1).trans hKd
    have bK := Box.new Y 32 #[eU k.1, eI k.2]
    have hXY := hb.size
    clear hb c25
    obtain ⟨Q, hQ⟩ : ∃ z, Y.heap.size = z := ⟨_, rfl⟩
    have hQW : W.heap.size + 3 ≤ Q := by omega
    rw [hQ] at bK
    obtain ⟨V, hV⟩ : ∃ z, Y.alloc (.cells #[eU k.1, eI k.2] 32) = z := ⟨_, rfl⟩
    rw [hV] at hO hI hKd bK
    first
      | simp only [hV, hQ]
      | simp only [hV]
    clear hV hQ hXY hX3
    have E : Below V.heap.size V V := Below.refl _ _
    have hRW := hRb.lt
    have nD : D0 ≠ W.heap.size + 1 := by omega
    have off : ∀ (X : World) (p : Addr) (v : Value), p.block ≠ W.heap.size + 1 → (X.setCell ⟨W.heap.size + 1, 0, none⟩ v).cell? p = X.cell? p := fun X p v h => World.cell?_of_block (Below.heap_setCell X _ v p.block h)
    have fin : ∀ X, Below V.heap.size V X → (X.setCell ⟨W.heap.size + 1, 0, none⟩ (.bool true)).heap[D0]? = some (.deferred (some [])) ∧ ((X.setCell ⟨W.heap.size + 1, 0, none⟩ (.bool true)).putObj D0 (.deferred none)).cell? ⟨W.heap.size + 1, 0, none⟩ = some (.bool true) ∧ Below W.heap.size W ((X.setCell ⟨W.heap.size + 1, 0, none⟩ (.bool true)).putObj D0 (.deferred none)) := fun X E9 => by
      have hI9 := hI.below E9
      have hK9 := (E9.block D0 (Array.getElem?_eq_some_iff.1 hKd).1).trans hKd
      have qB : Box (X.setCell ⟨W.heap.size + 1, 0, none⟩ (.bool true)) (W.heap.size + 1) #[.bool true] 4 := hI9.2.1.set 0 (.bool true)
      have qT := hI9.2.2.2.setCell (p := ⟨W.heap.size + 1, 0, none⟩) (by simp) (.bool true)
      have fd := (Below.heap_setCell X ⟨W.heap.size + 1, 0, none⟩ (.bool true) D0 nD).trans hK9
      have fB : Box ((X.setCell ⟨W.heap.size + 1, 0, none⟩ (.bool true)).putObj D0 (.deferred none)) (W.heap.size + 1) #[.bool true] 4 := (World.putObj_heap_other (by omega)).trans qB
      exact ⟨fd, fB.cell 0, qT.trans (belowK_b (w := W) (Nat.le_refl _) _ D0 _ _ (by omega) fd rfl rfl)⟩
    have c29 : ∀ W', Below V.heap.size V W' → Calls Try.prog 29 #[.pointer (some ⟨B, 0, none⟩), eqV] W' fun e w' => e = .returned (.bool true) ∧ Below W'.heap.size W' w' := fun W' h => ob_well (by omega) (hO.below h)
    have c27' : ∀ W', Below V.heap.size V W' → Calls Try.prog 27 #[.pointer (some ⟨B, 0, none⟩)] W' fun e w' => e = .returned (eI (ys.length : Int)) ∧ W' = w' := fun W' h => ob_len (hO.below h)
    replace hKd := Lib.hid hKd
    cases ys with
    | nil =>
      have hbb : b = false := hbb.symm
      subst hbb
      clear hkk bK hce hIt
      have c27 : ∀ W', Below V.heap.size V W' → Calls Try.prog 27 #[.pointer (some ⟨B, 0, none⟩)] W' fun e w' => e = .returned (eI 0) ∧ W' = w' := c27'
      clear c27'
      have hS : ∀ X, Below V.heap.size V X → (X.cell? ⟨W.heap.size + 1 + 1, 0, none⟩ = some (.int .i64 0) ∧ X.cell? ⟨W.heap.size, 0, none⟩ = some (.pointer (some ⟨R, 0, none⟩)) ∧ X.cell? ⟨R, 0, none⟩ = some (.slice a 0 c)) := fun X h =>
        ⟨(hI.below h).2.2.1.cell 0, (hI.below h).1.cell 0, (hRb.below (hI.below h).2.2.2).cell 0⟩
      have hS1 : ∀ X, Below V.heap.size V X → ((X.setCell ⟨W.heap.size + 1, 0, none⟩ (.bool true)).cell? ⟨W.heap.size + 1 + 1, 0, none⟩ = some (.int .i64 0) ∧ (X.setCell ⟨W.heap.size + 1, 0, none⟩ (.bool true)).cell? ⟨W.heap.size, 0, none⟩ = some (.pointer (some ⟨R, 0, none⟩)) ∧ (X.setCell ⟨W.heap.size + 1, 0, none⟩ (.bool true)).cell? ⟨R, 0, none⟩ = some (.slice a 0 c)) := fun X h => by
        obtain ⟨h1, h2, h3⟩ := hS X h
        exact ⟨(off _ _ _ (by simp)).trans h1, (off _ _ _ (by simp)).trans h2, (off _ _ _ (by show R ≠ _; omega)).trans h3⟩
      clear off
      refine wpIn_wide.2 ?_
      refine wp_region_noPanic ?_
      refine wp_region_held_drew (S := (fun X => X.cell? ⟨W.heap.size + 1 + 1, 0, none⟩ = some (.int .i64 0) ∧ X.cell? ⟨W.heap.size, 0, none⟩ = some (.pointer (some ⟨R, 0, none⟩)) ∧ X.cell? ⟨R, 0, none⟩ = some (.slice a 0 c))) (by kernel_rfl) (by exact hS _ ((Below.refl _ _).drew)) (fun hHeld => ?_)
      refine wpAnyH_take (i := 0) (v := ?_) (by simp only [List.getElem?_toArray, List.getElem?_cons_zero]; rfl) (by kernel_rfl) (by kernel_rfl) (by kernel_rfl) (by exact fun _ _ _ h => h) (Or.inl ⟨by rfl, ?_⟩) (by assumption) ?_
      rotate_left
      · (intro w hSw; (try dsimp only at hSw); go_simp; (try with_reducible rfl))
      try simp only [Act.put, List.setIfInBounds_toArray, List.set_cons_zero, List.set_cons_succ]
      refine wpAnyH_take (i := 1) (v := ?_) (by simp only [List.getElem?_toArray, List.getElem?_cons_zero, List.getElem?_cons_succ]; rfl) (by kernel_rfl) (by kernel_rfl) (by kernel_rfl) (by exact fun _ _ _ h => h) (Or.inl ⟨by rfl, ?_⟩) (by assumption) ?_
      rotate_left
      · (intro w hSw; (try dsimp only at hSw); go_simp; (try with_reducible rfl))
      try simp only [Act.put, List.setIfInBounds_toArray, List.set_cons_zero, List.set_cons_succ]
      refine wpAnyH_take (i := 2) (v := ?_) (by simp only [List.getElem?_toArray, List.getElem?_cons_zero, List.getElem?_cons_succ]; rfl) (by kernel_rfl) (by kernel_rfl) (by kernel_rfl) (by exact fun _ _ _ h => h) (Or.inl ⟨by rfl, ?_⟩) (by assumption) ?_
      rotate_left
      · (intro w hSw; (try dsimp only at hSw); go_simp; (try with_reducible rfl))
      try simp only [Act.put, List.setIfInBounds_toArray, List.set_cons_zero, List.set_cons_succ]
      refine wpAnyH_take (i := 3) (v := ?_) (by simp only [List.getElem?_toArray, List.getElem?_cons_zero, List.getElem?_cons_succ]; rfl) (by kernel_rfl) (by kernel_rfl) (by kernel_rfl) (by exact fun _ _ _ h => h) (Or.inl ⟨by rfl, ?_⟩) (by assumption) ?_
      rotate_left
      · (intro w hSw; (try dsimp only at hSw); go_simp; (try with_reducible rfl))
      try simp only [Act.put, List.setIfInBounds_toArray, List.set_cons_zero, List.set_cons_succ]
      refine wpAnyH_take (i := 4) (v := ?_) (by simp only [List.getElem?_toArray, List.getElem?_cons_zero, List.getElem?_cons_succ]; rfl) (by kernel_rfl) (by kernel_rfl) (by kernel_rfl) (by exact fun _ _ _ h => h) (Or.inl ⟨by rfl, ?_⟩) (by assumption) ?_
      rotate_left
      · (intro w hSw; (try dsimp only at hSw); go_simp; (try with_reducible rfl))
      try simp only [Act.put, List.setIfInBounds_toArray, List.set_cons_zero, List.set_cons_succ]
      refine wpAnyH_take (i := 5) (v := ?_) (by simp only [List.getElem?_toArray, List.getElem?_cons_zero, List.getElem?_cons_succ]; rfl) (by kernel_rfl) (by kernel_rfl) (by kernel_rfl) (by exact fun _ _ _ h => h) (Or.inl ⟨by rfl, ?_⟩) (by assumption) ?_
      rotate_left
      · (intro w hSw; (try dsimp only at hSw); go_simp; (try with_reducible rfl))
      try simp only [Act.put, List.setIfInBounds_toArray, List.set_cons_zero, List.set_cons_succ]
      refine wpAnyH_take (i := 6) (v := ?_) (by simp only [List.getElem?_toArray, List.getElem?_cons_zero, List.getElem?_cons_succ]; rfl) (by kernel_rfl) (by kernel_rfl) (by kernel_rfl) (by exact fun _ _ _ h => h) (Or.inl ⟨by rfl, ?_⟩) (by assumption) ?_
      rotate_left
      · (intro w hSw; (try dsimp only at hSw); go_simp; (try with_reducible rfl))
      try simp only [Act.put, List.setIfInBounds_toArray, List.set_cons_zero, List.set_cons_succ]
      refine wpAnyH_take (i := 7) (v := ?_) (by simp only [List.getElem?_toArray, List.getElem?_cons_zero, List.getElem?_cons_succ]; rfl) (by kernel_rfl) (by kernel_rfl) (by kernel_rfl) (by exact fun _ _ _ h => h) (Or.inl ⟨by rfl, ?_⟩) (by assumption) ?_
      rotate_left
      · (intro w hSw; (try dsimp only at hSw); go_simp; (try with_reducible rfl))
      try simp only [Act.put, List.setIfInBounds_toArray, List.set_cons_zero, List.set_cons_succ]
      refine wpAnyH_take (i := 8) (v := ?_) (by simp only [List.getElem?_toArray, List.getElem?_cons_zero, List.getElem?_cons_succ]; rfl) (by kernel_rfl) (by kernel_rfl) (by kernel_rfl) (by exact fun _ _ _ h => h) (Or.inl ⟨by rfl, ?_⟩) (by assumption) ?_
      rotate_left
      · (intro w hSw; (try dsimp only at hSw); go_simp; (try with_reducible rfl))
      try simp only [Act.put, List.setIfInBounds_toArray, List.set_cons_zero, List.set_cons_succ]
      refine wpAnyH_take (i := 10) (v := ?_) (by simp only [List.getElem?_toArray, List.getElem?_cons_zero, List.getElem?_cons_succ]; rfl) (by kernel_rfl) (by kernel_rfl) (by kernel_rfl) (by exact fun _ _ _ h => h) (Or.inl ⟨by rfl, ?_⟩) (by assumption) ?_
      rotate_left
      · (intro w hSw; (try dsimp only at hSw); go_simp; (try with_reducible rfl))
      try simp only [Act.put, List.setIfInBounds_toArray, List.set_cons_zero, List.set_cons_succ]
      refine wpAnyH_ready (rs := [9]) (by kernel_rfl) (by simp) ?_
      refine AllReadyH.cons (by simp only [List.getElem?_toArray, List.getElem?_cons_zero, List.getElem?_cons_succ]; rfl) (fun K hK => ?_) AllReadyH.nil
      first | (go_at_call 27; (with_reducible refine (c27 _ (by first | exact E | exact upp E ((Below.refl _ _).drew) | exact upp E (below_drewN (Below.refl _ _) _))).mono ?_); rintro e w9 ⟨rfl, rfl⟩) | (go_simp; go_at_call 27; (with_reducible refine (c27 _ (by first | exact E | exact upp E ((Below.refl _ _).drew) | exact upp E (below_drewN (Below.refl _ _) _))).mono ?_); rintro e w9 ⟨rfl, rfl⟩)
      refine hK.out _ _ (by (first | exact hS _ (by first | exact E | exact upp E ((Below.refl _ _).drew) | exact upp E (below_drewN (Below.refl _ _) _)) | exact hS1 _ (by first | exact E | exact upp E ((Below.refl _ _).drew) | exact upp E (below_drewN (Below.refl _ _) _)))) (fun hHeld => ?_)
      clear hK K
      try simp only [Act.put, List.setIfInBounds_toArray, List.set_cons_zero, List.set_cons_succ]
      refine wpAnyH_take (i := 11) (v := ?_) (by simp only [List.getElem?_toArray, List.getElem?_cons_zero, List.getElem?_cons_succ]; rfl) (by kernel_rfl) (by kernel_rfl) (by kernel_rfl) (by exact fun _ _ _ h => h) (Or.inl ⟨by rfl, ?_⟩) (by assumption) ?_
      rotate_left
      · (intro w hSw; (try dsimp only at hSw); go_simp; (try with_reducible rfl))
      try simp only [Act.put, List.setIfInBounds_toArray, List.set_cons_zero, List.set_cons_succ]
      refine wpAnyH_take (i := 12) (v := ?_) (by simp only [List.getElem?_toArray, List.getElem?_cons_zero, List.getElem?_cons_succ]; rfl) (by kernel_rfl) (by kernel_rfl) (by kernel_rfl) (by exact fun _ _ _ h => h) (Or.inl ⟨by rfl, ?_⟩) (by assumption) ?_
      rotate_left
      · (intro w hSw; (try dsimp only at hSw); go_simp; (try with_reducible rfl))
      try simp only [Act.put, List.setIfInBounds_toArray, List.set_cons_zero, List.set_cons_succ]
      refine wpAnyH_take (i := 13) (v := ?_) (by simp only [List.getElem?_toArray, List.getElem?_cons_zero, List.getElem?_cons_succ]; rfl) (by kernel_rfl) (by kernel_rfl) (by kernel_rfl) (by exact fun _ _ _ h => h) (Or.inl ⟨by rfl, ?_⟩) (by assumption) ?_
      rotate_left
      · (intro w hSw; (try dsimp only at hSw); go_simp; (try with_reducible rfl))
      try simp only [Act.put, List.setIfInBounds_toArray, List.set_cons_zero, List.set_cons_succ]
      refine wpAnyH_take (i := 14) (v := ?_) (by simp only [List.getElem?_toArray, List.getElem?_cons_zero, List.getElem?_cons_succ]; rfl) (by kernel_rfl) (by kernel_rfl) (by kernel_rfl) (by exact fun _ _ _ h => h) (Or.inl ⟨by rfl, ?_⟩) (by assumption) ?_
      rotate_left
      · (intro w hSw; (try dsimp only at hSw); go_simp; (try with_reducible rfl))
      try simp only [Act.put, List.setIfInBounds_toArray, List.set_cons_zero, List.set_cons_succ]
      refine wpAnyH_take (i := 15) (v := ?_) (by simp only [List.getElem?_toArray, List.getElem?_cons_zero, List.getElem?_cons_succ]; rfl) (by kernel_rfl) (by kernel_rfl) (by kernel_rfl) (by exact fun _ _ _ h => h) (Or.inl ⟨by rfl, ?_⟩) (by assumption) ?_
      rotate_left
      · (intro w hSw; (try dsimp only at hSw); go_simp; (try with_reducible rfl))
      try simp only [Act.put, List.setIfInBounds_toArray, List.set_cons_zero, List.set_cons_succ]
      refine wpAnyH_take (i := 16) (v := ?_) (by simp only [List.getElem?_toArray, List.getElem?_cons_zero, List.getElem?_cons_succ]; rfl) (by kernel_rfl) (by kernel_rfl) (by kernel_rfl) (by exact fun _ _ _ h => h) (Or.inl ⟨by rfl, ?_⟩) (by assumption) ?_
      rotate_left
      · (intro w hSw; (try dsimp only at hSw); go_simp; (try with_reducible rfl))
      try simp only [Act.put, List.setIfInBounds_toArray, List.set_cons_zero, List.set_cons_succ]
      refine wpAnyH_take (i := 17) (v := ?_) (by simp only [List.getElem?_toArray, List.getElem?_cons_zero, List.getElem?_cons_succ]; rfl) (by kernel_rfl) (by kernel_rfl) (by kernel_rfl) (by exact fun _ _ _ h => h) (Or.inl ⟨by rfl, ?_⟩) (by assumption) ?_
      rotate_left
      · (intro w hSw; (try dsimp only at hSw); go_simp; (try with_reducible rfl))
      try simp only [Act.put, List.setIfInBounds_toArray, List.set_cons_zero, List.set_cons_succ]
      refine wpAnyH_take (i := 18) (v := ?_) (by simp only [List.getElem?_toArray, List.getElem?_cons_zero, List.getElem?_cons_succ]; rfl) (by kernel_rfl) (by kernel_rfl) (by kernel_rfl) (by exact fun _ _ _ h => h) (Or.inl ⟨by rfl, ?_⟩) (by assumption) ?_
      rotate_left
      · (intro w hSw; (try dsimp only at hSw); go_simp; (try with_reducible rfl))
      try simp only [Act.put, List.setIfInBounds_toArray, List.set_cons_zero, List.set_cons_succ]
      refine wpAnyH_take (i := 19) (v := ?_) (by simp only [List.getElem?_toArray, List.getElem?_cons_zero, List.getElem?_cons_succ]; rfl) (by kernel_rfl) (by kernel_rfl) (by kernel_rfl) (by exact fun _ _ _ h => h) (Or.inl ⟨by rfl, ?_⟩) (by assumption) ?_
      rotate_left
      · (intro w hSw; (try dsimp only at hSw); go_simp; (try with_reducible rfl))
      try simp only [Act.put, List.setIfInBounds_toArray, List.set_cons_zero, List.set_cons_succ]
      refine wpAnyH_take (i := 20) (v := ?_) (by simp only [List.getElem?_toArray, List.getElem?_cons_zero, List.getElem?_cons_succ]; rfl) (by kernel_rfl) (by kernel_rfl) (by kernel_rfl) (by exact fun _ _ _ h => h) (Or.inl ⟨by rfl, ?_⟩) (by assumption) ?_
      rotate_left
      · (intro w hSw; (try dsimp only at hSw); go_simp; (try with_reducible rfl))
      try simp only [Act.put, List.setIfInBounds_toArray, List.set_cons_zero, List.set_cons_succ]
      refine wpAnyH_take (i := 21) (v := ?_) (by simp only [List.getElem?_toArray, List.getElem?_cons_zero, List.getElem?_cons_succ]; rfl) (by kernel_rfl) (by kernel_rfl) (by kernel_rfl) (by exact fun _ _ _ h => h) (Or.inl ⟨by rfl, ?_⟩) (by assumption) ?_
      rotate_left
      · (intro w hSw; (try dsimp only at hSw); go_simp; (try with_reducible rfl))
      try simp only [Act.put, List.setIfInBounds_toArray, List.set_cons_zero, List.set_cons_succ]
      refine wpAnyH_take (i := 22) (v := ?_) (by simp only [List.getElem?_toArray, List.getElem?_cons_zero, List.getElem?_cons_succ]; rfl) (by kernel_rfl) (by kernel_rfl) (by kernel_rfl) (by exact fun _ _ _ h => h) (Or.inl ⟨by rfl, ?_⟩) (by assumption) ?_
      rotate_left
      · (intro w hSw; (try dsimp only at hSw); go_simp; (try with_reducible rfl))
      try simp only [Act.put, List.setIfInBounds_toArray, List.set_cons_zero, List.set_cons_succ]
      refine wpAnyH_take (i := 23) (v := undef) (by simp only [List.getElem?_toArray, List.getElem?_cons_zero, List.getElem?_cons_succ]; rfl) (by kernel_rfl) (by kernel_rfl) (by kernel_rfl) (by exact fun _ _ _ h => h) (Or.inr ⟨by rfl, rfl⟩) (by assumption) ?_
      try simp only [Act.put, List.setIfInBounds_toArray, List.set_cons_zero, List.set_cons_succ]
      refine wpAnyH_take (i := 24) (v := undef) (by simp only [List.getElem?_toArray, List.getElem?_cons_zero, List.getElem?_cons_succ]; rfl) (by kernel_rfl) (by kernel_rfl) (by kernel_rfl) (by exact fun _ _ _ h => h) (Or.inr ⟨by rfl, rfl⟩) (by assumption) ?_
      try simp only [Act.put, List.setIfInBounds_toArray, List.set_cons_zero, List.set_cons_succ]
      refine wpAnyH_take (i := 25) (v := undef) (by simp only [List.getElem?_toArray, List.getElem?_cons_zero, List.getElem?_cons_succ]; rfl) (by kernel_rfl) (by kernel_rfl) (by kernel_rfl) (by exact fun _ _ _ h => h) (Or.inr ⟨by rfl, rfl⟩) (by assumption) ?_
      try simp only [Act.put, List.setIfInBounds_toArray, List.set_cons_zero, List.set_cons_succ]
      refine wpAnyH_take (i := 26) (v := undef) (by simp only [List.getElem?_toArray, List.getElem?_cons_zero, List.getElem?_cons_succ]; rfl) (by kernel_rfl) (by kernel_rfl) (by kernel_rfl) (by exact fun _ _ _ h => h) (Or.inr ⟨by rfl, rfl⟩) (by assumption) ?_
      try simp only [Act.put, List.setIfInBounds_toArray, List.set_cons_zero, List.set_cons_succ]
      refine wpAnyH_take (i := 27) (v := undef) (by simp only [List.getElem?_toArray, List.getElem?_cons_zero, List.getElem?_cons_succ]; rfl) (by kernel_rfl) (by kernel_rfl) (by kernel_rfl) (by exact fun _ _ _ h => h) (Or.inr ⟨by rfl, rfl⟩) (by assumption) ?_
      try simp only [Act.put, List.setIfInBounds_toArray, List.set_cons_zero, List.set_cons_succ]
      refine wpAnyH_take (i := 28) (v := undef) (by simp only [List.getElem?_toArray, List.getElem?_cons_zero, List.getElem?_cons_succ]; rfl) (by kernel_rfl) (by kernel_rfl) (by kernel_rfl) (by exact fun _ _ _ h => h) (Or.inr ⟨by rfl, rfl⟩) (by assumption) ?_
      try simp only [Act.put, List.setIfInBounds_toArray, List.set_cons_zero, List.set_cons_succ]
      refine wpAnyH_take (i := 29) (v := undef) (by simp only [List.getElem?_toArray, List.getElem?_cons_zero, List.getElem?_cons_succ]; rfl) (by kernel_rfl) (by kernel_rfl) (by kernel_rfl) (by exact fun _ _ _ h => h) (Or.inr ⟨by rfl, rfl⟩) (by assumption) ?_
      try simp only [Act.put, List.setIfInBounds_toArray, List.set_cons_zero, List.set_cons_succ]
      refine wpAnyH_take (i := 30) (v := undef) (by simp only [List.getElem?_toArray, List.getElem?_cons_zero, List.getElem?_cons_succ]; rfl) (by kernel_rfl) (by kernel_rfl) (by kernel_rfl) (by exact fun _ _ _ h => h) (Or.inr ⟨by rfl, rfl⟩) (by assumption) ?_
      try simp only [Act.put, List.setIfInBounds_toArray, List.set_cons_zero, List.set_cons_succ]
      refine wpAnyH_take (i := 31) (v := undef) (by simp only [List.getElem?_toArray, List.getElem?_cons_zero, List.getElem?_cons_succ]; rfl) (by kernel_rfl) (by kernel_rfl) (by kernel_rfl) (by exact fun _ _ _ h => h) (Or.inr ⟨by rfl, rfl⟩) (by assumption) ?_
      try simp only [Act.put, List.setIfInBounds_toArray, List.set_cons_zero, List.set_cons_succ]
      refine wpAnyH_take (i := 32) (v := ?_) (by simp only [List.getElem?_toArray, List.getElem?_cons_zero, List.getElem?_cons_succ]; rfl) (by kernel_rfl) (by kernel_rfl) (by kernel_rfl) (by exact fun _ _ _ h => h) (Or.inl ⟨by rfl, ?_⟩) (by assumption) ?_
      rotate_left
      · (intro w hSw; (try dsimp only at hSw); go_simp; (try with_reducible rfl))
      try simp only [Act.put, List.setIfInBounds_toArray, List.set_cons_zero, List.set_cons_succ]
      refine wpAnyH_take (i := 33) (v := ?_) (by simp only [List.getElem?_toArray, List.getElem?_cons_zero, List.getElem?_cons_succ]; rfl) (by kernel_rfl) (by kernel_rfl) (by kernel_rfl) (by exact fun _ _ _ h => h) (Or.inl ⟨by rfl, ?_⟩) (by assumption) ?_
      rotate_left
      · (intro w hSw; (try dsimp only at hSw); go_simp; (try with_reducible rfl))
      try simp only [Act.put, List.setIfInBounds_toArray, List.set_cons_zero, List.set_cons_succ]
      refine wpAnyH_take (i := 34) (v := ?_) (by simp only [List.getElem?_toArray, List.getElem?_cons_zero, List.getElem?_cons_succ]; rfl) (by kernel_rfl) (by kernel_rfl) (by kernel_rfl) (by exact fun _ _ _ h => h) (Or.inl ⟨by rfl, ?_⟩) (by assumption) ?_
      rotate_left
      · (intro w hSw; (try dsimp only at hSw); go_simp; (try with_reducible rfl))
      try simp only [Act.put, List.setIfInBounds_toArray, List.set_cons_zero, List.set_cons_succ]
      refine wpAnyH_take (i := 35) (v := ?_) (by simp only [List.getElem?_toArray, List.getElem?_cons_zero, List.getElem?_cons_succ]; rfl) (by kernel_rfl) (by kernel_rfl) (by kernel_rfl) (by exact fun _ _ _ h => h) (Or.inl ⟨by rfl, ?_⟩) (by assumption) ?_
      rotate_left
      · (intro w hSw; (try dsimp only at hSw); go_simp; (try with_reducible rfl))
      try simp only [Act.put, List.setIfInBounds_toArray, List.set_cons_zero, List.set_cons_succ]
      refine wpAnyH_ready (rs := [36]) (by kernel_rfl) (by simp) ?_
      refine AllReadyH.cons (by simp only [List.getElem?_toArray, List.getElem?_cons_zero, List.getElem?_cons_succ]; rfl) (fun K hK => ?_) AllReadyH.nil
      first | (go_at_call 29; (with_reducible refine (c29 _ (by first | exact E | exact upp E ((Below.refl _ _).drew) | exact upp E (below_drewN (Below.refl _ _) _))).mono ?_); rintro e w9 ⟨rfl, hb9⟩; replace E := upp (show Below V.heap.size V _ from (by first | exact E | exact upp E ((Below.refl _ _).drew) | exact upp E (below_drewN (Below.refl _ _) _))) hb9; clear hb9) | (go_simp; go_at_call 29; (with_reducible refine (c29 _ (by first | exact E | exact upp E ((Below.refl _ _).drew) | exact upp E (below_drewN (Below.refl _ _) _))).mono ?_); rintro e w9 ⟨rfl, hb9⟩; replace E := upp (show Below V.heap.size V _ from (by first | exact E | exact upp E ((Below.refl _ _).drew) | exact upp E (below_drewN (Below.refl _ _) _))) hb9; clear hb9)
      refine hK.out _ _ (by (first | exact hS _ (by first | exact E | exact upp E ((Below.refl _ _).drew) | exact upp E (below_drewN (Below.refl _ _) _)) | exact hS1 _ (by first | exact E | exact upp E ((Below.refl _ _).drew) | exact upp E (below_drewN (Below.refl _ _) _)))) (fun hHeld => ?_)
      clear hK K
      try simp only [Act.put, List.setIfInBounds_toArray, List.set_cons_zero, List.set_cons_succ]
      refine wpAnyH_take (i := 37) (v := ?_) (by simp only [List.getElem?_toArray, List.getElem?_cons_zero, List.getElem?_cons_succ]; rfl) (by kernel_rfl) (by kernel_rfl) (by kernel_rfl) (by exact fun _ _ _ h => h) (Or.inl ⟨by rfl, ?_⟩) (by assumption) ?_
      rotate_left
      · (intro w hSw; (try dsimp only at hSw); go_simp; (try with_reducible rfl))
      try simp only [Act.put, List.setIfInBounds_toArray, List.set_cons_zero, List.set_cons_succ]
      refine wpAnyH_ready (rs := [38]) (by kernel_rfl) (by simp) ?_
      refine AllReadyH.cons (by simp only [List.getElem?_toArray, List.getElem?_cons_zero, List.getElem?_cons_succ]; rfl) (fun K hK => ?_) AllReadyH.nil
      have f4 := (hI.below E).2.1.thaw 0
      have c4 := (hI.below E).2.1.cell 0
      go_simp
      refine hK.out _ _ (by (first | exact hS _ (by first | exact E | exact upp E ((Below.refl _ _).drew) | exact upp E (below_drewN (Below.refl _ _) _)) | exact hS1 _ (by first | exact E | exact upp E ((Below.refl _ _).drew) | exact upp E (below_drewN (Below.refl _ _) _)))) (fun hHeld => ?_)
      clear hK K
      try simp only [Act.put, List.setIfInBounds_toArray, List.set_cons_zero, List.set_cons_succ]
      refine wpAnyH_done (by kernel_rfl) ?_ _
      refine NoPanic.normal ?_
      obtain ⟨fd, fc, fb⟩ := fin _ (by first | exact E | exact upp E ((Below.refl _ _).drew) | exact upp E (below_drewN (Below.refl _ _) _))
      gi_wp2
      refine ⟨by simp, .inl ⟨_, _, rfl, run_takeDeferred fd, ?_⟩⟩
      exact ⟨.bool true, by simp [results, Try.results11, go_sem, fc], rfl, fb⟩
    | cons m l =>
      have hbb : b = true := hbb.symm
      subst hbb
      have hkk : k = m.1 := hkk.symm
      subst hkk
      obtain ⟨g, o, rfl, hg, _, _, _⟩ := hce.out 0 W (by simp) (Below.refl _ _)
      have hy : ∀ X, Below W.heap.size W X → X.cell? ⟨g, o, none⟩ = some (.int .u64 m.1.1) ∧ X.cell? ⟨g, o + 1, none⟩ = some (.int .i64 m.1.2) := fun X h => by
        obtain ⟨g', o', e, _, y0, y1, _⟩ := hce.out 0 X (by simp) h
        cases e
        exact ⟨by simpa using y0, by simpa using y1⟩
      clear hce hIt
      have hpos : 0 < (m :: l).length := by simp
      generalize hn : (m :: l).length = n at *
      have hpos' : (0 : Int) < (n : Int) := by omega
      have hnc : (n : Int) ≤ (c : Int) := by omega
      obtain ⟨N, hN⟩ : ∃ z : Int, (n : Int) = z := ⟨_, rfl⟩
      have n0 : (N == 0) = false := by simp; omega
      have n1 : decide (0 < N) = true := by simp; omega
      have n2 : (N == N) = true := by simp
      have hp2 : (0 : Int) < N := by omega
      have c27 : ∀ W', Below V.heap.size V W' → Calls Try.prog 27 #[.pointer (some ⟨B, 0, none⟩)] W' fun e w' => e = .returned (eI N) ∧ W' = w' := fun W' h => by rw [← hN]; exact c27' W' h
      clear c27'
      have s1 : (m.1.1 == m.1.1) = true := by simp
      have s2 : (m.1.2 == m.1.2) = true := by simp
      have hS : ∀ X, Below V.heap.size V X → (X.cell? ⟨W.heap.size + 1 + 1, 0, none⟩ = some (.int .i64 N) ∧ X.cell? ⟨W.heap.size, 0, none⟩ = some (.pointer (some ⟨R, 0, none⟩)) ∧ X.cell? ⟨R, 0, none⟩ = some (.slice (some ⟨g, o, none⟩) n c)) ∧ (X.cell? ⟨Q, 0, none⟩ = some (.int .u64 m.1.1) ∧ X.cell? ⟨Q, 1, none⟩ = some (.int .i64 m.1.2)) ∧ X.cell? ⟨g, o, none⟩ = some (.int .u64 m.1.1) ∧ X.cell? ⟨g, o + 1, none⟩ = some (.int .i64 m.1.2) := fun X h =>
        ⟨⟨by rw [← hN]; exact (hI.below h).2.2.1.cell 0, (hI.below h).1.cell 0, (hRb.below (hI.below h).2.2.2).cell 0⟩, kyC (bK.below h), hy X (hI.below h).2.2.2⟩
      have hS1 : ∀ X, Below V.heap.size V X → ((X.setCell ⟨W.heap.size + 1, 0, none⟩ (.bool true)).cell? ⟨W.heap.size + 1 + 1, 0, none⟩ = some (.int .i64 N) ∧ (X.setCell ⟨W.heap.size + 1, 0, none⟩ (.bool true)).cell? ⟨W.heap.size, 0, none⟩ = some (.pointer (some ⟨R, 0, none⟩)) ∧ (X.setCell ⟨W.heap.size + 1, 0, none⟩ (.bool true)).cell? ⟨R, 0, none⟩ = some (.slice (some ⟨g, o, none⟩) n c)) ∧ ((X.setCell ⟨W.heap.size + 1, 0, none⟩ (.bool true)).cell? ⟨Q, 0, none⟩ = some (.int .u64 m.1.1) ∧ (X.setCell ⟨W.heap.size + 1, 0, none⟩ (.bool true)).cell? ⟨Q, 1, none⟩ = some (.int .i64 m.1.2)) ∧ (X.setCell ⟨W.heap.size + 1, 0, none⟩ (.bool true)).cell? ⟨g, o, none⟩ = some (.int .u64 m.1.1) ∧ (X.setCell ⟨W.heap.size + 1, 0, none⟩ (.bool true)).cell? ⟨g, o + 1, none⟩ = some (.int .i64 m.1.2) := fun X h => by
        obtain ⟨⟨h1, h2, h3⟩, ⟨h4, h5⟩, h6, h7⟩ := hS X h
        exact ⟨⟨(off _ _ _ (by simp)).trans h1, (off _ _ _ (by simp)).trans h2, (off _ _ _ (by show R ≠ _; omega)).trans h3⟩, ⟨(off _ _ _ (by show Q ≠ _; omega)).trans h4, (off _ _ _ (by show Q ≠ _; omega)).trans h5⟩, (off _ _ _ (by show g ≠ _; omega)).trans h6, (off _ _ _ (by show g ≠ _; omega)).trans h7⟩
      clear off hy
      refine wpIn_wide.2 ?_
      have f4 : ∀ X, Below V.heap.size V X → X.frozen? ⟨W.heap.size + 1, 0, none⟩ = false ∧ X.cell? ⟨W.heap.size + 1, 0, none⟩ = some (.bool false) := fun X h => ⟨(hI.below h).2.1.thaw 0, (hI.below h).2.1.cell 0⟩
      have ff := (f4 V E).1
      have fc := (f4 V E).2
      go_region_held3 (fun X => (X.cell? ⟨W.heap.size + 1 + 1, 0, none⟩ = some (.int .i64 N) ∧ X.cell? ⟨W.heap.size, 0, none⟩ = some (.pointer (some ⟨R, 0, none⟩)) ∧ X.cell? ⟨R, 0, none⟩ = some (.slice (some ⟨g, o, none⟩) n c)) ∧ (X.cell? ⟨Q, 0, none⟩ = some (.int .u64 m.1.1) ∧ X.cell? ⟨Q, 1, none⟩ = some (.int .i64 m.1.2)) ∧ X.cell? ⟨g, o, none⟩ = some (.int .u64 m.1.1) ∧ X.cell? ⟨g, o + 1, none⟩ = some (.int .i64 m.1.2))
        (first | exact hS _ (by first | exact E | exact upp E ((Below.refl _ _).drew) | exact upp E (below_drewN (Below.refl _ _) _)) | exact hS1 _ (by first | exact E | exact upp E ((Below.refl _ _).drew) | exact upp E (below_drewN (Below.refl _ _) _)))
        (first
          | (go_at_call 27; (with_reducible refine (c27 _ (by first | exact E | exact upp E ((Below.refl _ _).drew) | exact upp E (below_drewN (Below.refl _ _) _))).mono ?_); rintro e w9 ⟨rfl, rfl⟩)
          | (go_at_call 29; (with_reducible refine (c29 _ (by first | exact E | exact upp E ((Below.refl _ _).drew) | exact upp E (below_drewN (Below.refl _ _) _))).mono ?_); rintro e w9 ⟨rfl, hb9⟩; replace E := upp (show Below V.heap.size V _ from (by first | exact E | exact upp E ((Below.refl _ _).drew) | exact upp E (below_drewN (Below.refl _ _) _))) hb9; clear hb9; clear ff fc; have ff := (f4 _ E).1; have fc := (f4 _ E).2))
      obtain ⟨fd, fc, fb⟩ := fin _ (by first | exact E | exact upp E ((Below.refl _ _).drew) | exact upp E (below_drewN (Below.refl _ _) _))
      gi_wp2
      refine ⟨by simp, .inl ⟨_, _, rfl, run_takeDeferred fd, ?_⟩⟩
      exact ⟨.bool true, by simp [results, Try.results11, go_sem, fc], rfl, fb⟩
end Go.Proofs.Ytjfpemkdidoacaa
