/- The law's same of layer 12: a table that tells a row, and that row. No condition but that it isn't long. -/
import Derived.Test.YtenghpgnhmglpaaDoorRtC
import Derived.Test.YtenghpgnhmglpaaDoorCoD
import Derived.Sort.CutIn
namespace Go.Proofs.YtenghpgnhmglpaaDoor
open Go.RowKit Go.Shelf
set_option linter.unusedVariables false
set_option linter.unusedSimpArgs false
attribute [local go_sem] Oper.semAt_some
def Inte (x : Int) : Prop := -9223372036854775808 ≤ x ∧ x < 9223372036854775808
/-- What a round of Each gets. -/
def imE (z : Im) : Array Value := #[eI z.id, eU z.v]
/-- What a table tells from W on, whatever is made behind it. -/
structure Tells (W : World) (tv : Value) (L : List Im) : Prop where
  each : ∀ X, Below W.heap.size W X → Calls Tryd.prog 14 #[tv] X fun e w' => ∃ b, e = .returned (.func (.func 32) #[] #[.pointer (some ⟨b, 0, none⟩)]) ∧ Below X.heap.size X w' ∧ X.heap.size ≤ b ∧ Box w' b #[tv] 23 ∧ ∀ n n₀, 8 ≤ n → W.heap.size ≤ n₀ → n₀ ≤ w'.heap.size → SeqD n 32 #[.pointer (some ⟨b, 0, none⟩)] imE n₀ (fun _ Y => Box Y b #[tv] 23) (fun xs => xs = L) (fun pre => pre <+: L) (fun pre z => pre ++ [z] <+: L) w'
  ids : ∀ X, Below W.heap.size W X → Calls Tryd.prog 24 #[tv] X fun e w' => ∃ v, e = .returned v ∧ w'.ownsRow X.heap.size 3 1 v L.length (L.map fun z => eI z.id) ∧ Below X.heap.size X w'
  get : ∀ k X, Inte k → Below W.heap.size W X → Calls Tryd.prog 15 #[tv, eI k] X fun e w' => e = .returned (.tuple #[eU ((getI k L).getD 0), .bool (hasI k L)]) ∧ Below X.heap.size X w'
  next : ∀ k X, Inte k → Below W.heap.size W X → Calls Tryd.prog 25 #[tv, eI k] X fun e w' => e = .returned (nextV (nextI k L)) ∧ Below X.heap.size X w'
  len : ∀ X, Below W.heap.size W X → Calls Tryd.prog 13 #[tv] X fun e w' => e = .returned (eI (L.length : Int)) ∧ X = w'
theorem Tells.below {W w : World} {tv : Value} {L : List Im} (h : Tells W tv L) (hb : Below W.heap.size W w) : Tells w tv L :=
  ⟨fun X hX => (h.each X (upp hb hX)).mono fun e w' ⟨b, h1, h2, h3, h4, h5⟩ => ⟨b, h1, h2, h3, h4, fun n n₀ a b c => h5 n n₀ a (Nat.le_trans hb.size b) c⟩, fun X hX => h.ids X (upp hb hX), fun k X hk hX => h.get k X hk (upp hb hX), fun k X hk hX => h.next k X hk (upp hb hX), fun X hX => h.len X (upp hb hX)⟩
theorem asks_is {k : Int} {L : List Im} (h : hasI k L = true) : ∃ i, ∃ hi : i < L.length, atV (atI k L) = (i : Int) ∧ (getI k L).getD 0 = L[i].v := by
  obtain ⟨i, hi⟩ := at_is h
  obtain ⟨hlt, hid⟩ := at_some hi
  refine ⟨i, hlt, by rw [hi]; rfl, ?_⟩
  unfold atI at hi
  unfold getI
  have := List.findIdx?_eq_some_iff_getElem.1 hi
  obtain ⟨h1, h2, h3⟩ := this
  have hf : L.find? (fun a => decide (a.id = k)) = some L[i] := List.find?_eq_some_iff_getElem.2 ⟨h2, i, h1, rfl, fun j hj => by simpa using h3 j hj⟩
  rw [hf]; rfl
theorem asks_no {k : Int} {L : List Im} (h : hasI k L = false) : atV (atI k L) = -1 ∧ (getI k L).getD 0 = 0 := by
  refine ⟨by rw [at_none h]; rfl, ?_⟩
  unfold getI
  have : L.find? (fun a => decide (a.id = k)) = none := by
    rw [List.find?_eq_none]
    intro a ha e
    unfold hasI at h
    rw [List.any_eq_false] at h
    exact h a ha e
  rw [this]; rfl
theorem nextV_form (o : Option Int) : ∃ (x : Int) (b : Bool), nextV o = .tuple #[eI x, .bool b] := by
  cases o with
  | none => exact ⟨0, false, rfl⟩
  | some k => exact ⟨k, true, rfl⟩
/-- The cells of the loop. -/
def SaI (W : World) (R : Nat) (n : Nat) (X : World) : Prop :=
  Box X W.heap.size #[.pointer (some ⟨R, 0, none⟩)] 26 ∧ Box X (W.heap.size + 1) #[.bool false] 4 ∧ Box X (W.heap.size + 1 + 1) #[eI (n : Int)] 3 ∧ Below W.heap.size W X
theorem Box.turn {X Y : World} {B C : Nat} {vs : Array Value} {t : TypeId} {row : Option Nat} (h : Box X B vs t) (hg : X.grownBy Y row) (hr : ∀ r, row = some r → C ≤ r) (hC : B < C) : Box Y B vs t := h.grown hg (fun e => by have := hr B e.symm; omega)
theorem below_turn {W X Y : World} {C : Nat} {row : Option Nat} (h : Below W.heap.size W X) (hg : X.grownBy Y row) (hr : ∀ r, row = some r → C ≤ r) (hC : W.heap.size ≤ C) : Below W.heap.size W Y := h.grown hg h.size (fun k e => Nat.le_trans hC (hr k e))
theorem SaI.turn {W X Y : World} {R n C : Nat} {row : Option Nat} (hI : SaI W R n X) (hg : X.grownBy Y row) (hr : ∀ r, row = some r → C ≤ r) (hC : W.heap.size + 3 ≤ C) : SaI W R n Y := by
  obtain ⟨h1, h2, h3, h4⟩ := hI
  exact ⟨h1.turn hg hr (by omega), h2.turn hg hr (by omega), h3.turn hg hr (by omega), below_turn h4 hg hr (by omega)⟩
theorem SaI.below {W X Y : World} {R n : Nat} (hI : SaI W R n X) (h : Below X.heap.size X Y) : SaI W R n Y := by
  obtain ⟨h1, h2, h3, h4⟩ := hI
  exact ⟨h1.below h, h2.below h, h3.below h, upp h4 h⟩
theorem pre_at {pre L : List Im} {z : Im} (h : pre ++ [z] <+: L) : ∃ hk : pre.length < L.length, L[pre.length] = z := by
  obtain ⟨s, hs⟩ := h
  subst hs
  exact ⟨by simp, by simp⟩
set_option maxRecDepth 100000 in
set_option maxHeartbeats 12000000 in
theorem same_any (tv : Value) (R : Nat) (L : List Im) (v : Value) (ask : Int) (W : World) (hT : Tells W tv L) (hR : Rt W R L v) (hl : L.length ≤ 100000) (ha : Inte ask) :
    Calls Tryd.prog 12 #[tv, .pointer (some ⟨R, 0, none⟩), eI ask] W fun e w' => e = .returned (.bool true) ∧ Below W.heap.size W w' := by
  obtain ⟨a, c, rfl, hLc, hcm⟩ := own_len hR.row
  refine (callsIn_wide (n := 12)).1 ?_
  refine callsIn_of_wp_marks Tryd.func12 rfl trivial ?_ rfl
  simp only [Tryd.ntmps12, List.size_toArray, List.length_cons, List.length_nil, Nat.reduceAdd, Nat.reduceSub, Array.replicate_succ, Array.replicate_zero, List.push_toArray, List.append_toArray, List.nil_append, List.cons_append]
  have k0 := ((Box.new W 26 #[.pointer (some ⟨R, 0, none⟩)]).alloc (.cells #[.bool false] 4)).alloc (.cells #[eI 0] 3)
  have k1 := (Box.new (W.alloc (.cells #[.pointer (some ⟨R, 0, none⟩)] 26)) 4 #[.bool false]).alloc (.cells #[eI 0] 3)
  have k2 := Box.new ((W.alloc (.cells #[.pointer (some ⟨R, 0, none⟩)] 26)).alloc (.cells #[.bool false] 4)) 3 #[eI 0]
  simp only [World.size_alloc] at k1 k2
  have TV : Below W.heap.size W (((W.alloc (.cells #[.pointer (some ⟨R, 0, none⟩)] 26)).alloc (.cells #[.bool false] 4)).alloc (.cells #[eI 0] 3)) := (up2 W _ _).alloc (by simp; omega) _
  have hsz : (((W.alloc (.cells #[.pointer (some ⟨R, 0, none⟩)] 26)).alloc (.cells #[.bool false] 4)).alloc (.cells #[eI 0] 3)).heap.size = W.heap.size + 3 := by simp
  gi_wp2_with (first | (refine ⟨trivial, ?_⟩; gi_at_call 14; (with_reducible refine (callsIn_wide.2 (hT.each _ TV)).mono ?_); rintro e w6 ⟨b, rfl, hb6, hbb, hbx, hseq⟩))
  have hb7 : Below (W.heap.size) W w6 := upp TV hb6
  have q0 := k0.below hb6
  have q1 := k1.below hb6
  have q2 := k2.below hb6
  have hs6 := hb6.size
  rw [hsz] at hs6 hbb
  have hsq := (hseq 11 W.heap.size (by omega) (Nat.le_refl _) (by omega)).toC
  clear hseq k0 k1 k2 TV hb6
  refine loopC (by omega) (gf := 32) (lb := #[.pointer (some ⟨b, 0, none⟩)]) rfl (enters_of Tryd.func32 (by kernel_rfl) rfl) (n₀ := W.heap.size) hb7.size hsq (fun _ => rfl)
    (fun pre X => SaI W R pre.length X ∧ Box X b #[tv] 23) (fun _ _ _ => False) (fun _ X Y row hI hg hr => ⟨hI.1.turn hg hr (by omega), hI.2.turn hg hr hbx.lt⟩) (fun c _ _ _ _ h => h.elim) (fun _ _ h => h.2) ⟨⟨q0, q1, q2, hb7⟩, hbx⟩
    (fun z a' X => a' = { tmps := #[tv, .pointer (some ⟨R, 0, none⟩), eI ask, undef, .pointer (some ⟨W.heap.size, 0, none⟩), undef, .pointer (some ⟨W.heap.size + 1, 0, none⟩), .pointer (some ⟨W.heap.size + 1 + 1, 0, none⟩), eI z.id, eU z.v, undef, undef, undef, undef, undef, undef, undef, undef, undef, tv, .func (.func 32) #[] #[.pointer (some ⟨b, 0, none⟩)], eI z.id, eU z.v, undef, undef, undef, undef, undef, undef, undef, undef, undef, undef, undef, undef, undef, undef, undef, undef, undef, undef, undef, undef, undef, undef, undef, undef, undef, undef, undef, undef, undef, undef, undef, undef, undef, undef, undef, undef, undef, undef, undef, undef, undef, undef, undef, undef, undef, undef, undef, undef, undef, undef, undef, undef, undef, undef, undef, undef, undef, undef, undef, undef, undef, undef, undef, undef, undef, undef, undef, undef, undef, undef, undef, undef, undef, undef, undef, undef, undef, undef, undef, undef, undef, undef, undef, undef, undef, undef, undef, undef, undef, undef, undef, undef, undef, undef, undef, undef, undef, undef, undef, undef, undef, undef, undef, undef, undef, undef, undef, undef, undef, undef, undef, undef, undef, undef, undef, undef, undef, undef, undef, undef, undef, undef, undef, undef, undef, undef, undef, undef, undef, undef, undef, undef], defers := [] })
    (fun x a' _ X Y row hs hg hr => hs)
    ?assign ?body ?done ?stop
  case assign =>
    rintro l0 pre z X K hzX hI hK
    simp only [imE]
    gi_wp2
    exact hK _ _ (Mid.refl _ _ X) hI rfl
  case stop =>
    rintro D c pre X hD _ h hK
    exact h.elim
  case body =>
    rintro l0 pre z a' X hzX ⟨hI, hIb⟩ rfl hpx
    obtain ⟨hk, hz⟩ := pre_at hpx
    obtain ⟨g, cap', cur, e, _, _, _, _, _, _⟩ := own_some hR.row (by omega)
    cases e
    obtain ⟨y0, y1⟩ := im_at (own_below hR.row hI.2.2.2) pre.length hk
    rw [hz] at y0 y1
    have hpl : (pre ++ [z]).length = pre.length + 1 := by simp
    clear hz hpx hsq
    generalize pre.length = p at *
    replace hpl := Lib.hid hpl
    have cR := (hR.box.below hI.2.2.2).cell 0
    have c0 := hI.1.cell 0
    have c2 := hI.2.2.1.cell 0
    have i1 : (p : Int) < (L.length : Int) := by omega
    have i2 : (0 : Int) ≤ (p : Int) := by omega
    have i3 : decide ((L.length : Int) ≤ (p : Int)) = false := by simp; omega
    have i4 : decide (L.length ≤ p) = false := by simp; omega
    have s1 : (z.id == z.id) = true := by simp
    have s2 : (z.v == z.v) = true := by simp
    have s3 : (z.id != z.id) = false := by simp
    have s4 : (z.v != z.v) = false := by simp
    have hnc : (L.length : Int) ≤ (c : Int) := by omega
    dsimp only
    gi_upto_region 5 with (fail)
    refine round_quiet (by kernel_rfl) (by kernel_rfl) (by kernel_rfl) ?_
    repeat (quiet_step (fail))
    refine wpQuiet_nil ?_
    intro _ hw'
    obtain ⟨nq, hw''⟩ := hw'
    subst hw''
    clear c0 c2 cR y0 y1
    have hI' := hI.below (below_drewN (Below.refl _ X) nq)
    have hIb' := hIb.below (below_drewN (Below.refl _ X) nq)
    have hM : Mid W.heap.size w6.heap.size X (X.drewN nq) := Mid.of_below (below_drewN (Below.refl _ X) nq) hI.2.2.2.size
    generalize X.drewN nq = Y at *
    have c2 := hI'.2.2.1.cell 0
    have f2 := hI'.2.2.1.thaw 0
    have l2 := hI'.2.2.1.lt
    have z1 : IntKind.i64.wrap ((p : Int) + 1) = (p : Int) + 1 := by simp [IntKind.wrap, IntKind.bits, IntKind.signed]; omega
    have hii : (((p + 1 : Nat)) : Int) = (p : Int) + 1 := by omega
    gi_wp2
    obtain ⟨h1, h2, h3, h4⟩ := hI'
    refine ⟨hM.trans (Mid.put Y (b := W.heap.size + 1 + 1) (by omega) (by omega) 0 _), ?_, hIb'.setNe (by show b ≠ W.heap.size + 1 + 1; omega) _⟩
    show SaI W R (pre ++ [z]).length _
    rw [hpl.out]
    refine ⟨h1.setNe (by show W.heap.size ≠ W.heap.size + 1 + 1; omega) _, h2.setNe (by show W.heap.size + 1 ≠ W.heap.size + 1 + 1; omega) _, ?_, h4.setCell (p := ⟨W.heap.size + 1 + 1, 0, none⟩) (by simp; omega) _⟩
    rw [hii]
    exact h3.set 0 _
  case done =>
    rintro D0 ys X hD rfl ⟨hI, _⟩ hKd
    clear hsq q0 q1 q2 hb7
    have TX := hI.2.2.2
    have E : Below X.heap.size X X := Below.refl _ _
    have hDX := (Array.getElem?_eq_some_iff.1 hKd).1
    obtain ⟨nx, nm, hnx⟩ := nextV_form (nextI ask ys)
    have cIds := hT.ids X TX
    have cGet : ∀ X', Below X.heap.size X X' → Calls Tryd.prog 15 #[tv, eI ask] X' fun e w' => e = .returned (.tuple #[eU ((getI ask ys).getD 0), .bool (hasI ask ys)]) ∧ Below X'.heap.size X' w' := fun X' h => hT.get ask X' ha (upp TX h)
    have cNext : ∀ X', Below X.heap.size X X' → Calls Tryd.prog 25 #[tv, eI ask] X' fun e w' => e = .returned (.tuple #[eI nx, .bool nm]) ∧ Below X'.heap.size X' w' := fun X' h => by rw [← hnx]; exact hT.next ask X' ha (upp TX h)
    have cAt : ∀ X', Below X.heap.size X X' → Calls Tryd.prog 30 #[.pointer (some ⟨R, 0, none⟩), eI ask] X' fun e w' => e = .returned (eI (atV (atI ask ys))) ∧ X' = w' := fun X' h => rat_any ask (hR.below (upp TX h)) hl
    have dNext : ∀ X', Below X.heap.size X X' → Calls Tryd.prog 31 #[.pointer (some ⟨R, 0, none⟩), eI ask] X' fun e w' => e = .returned (.tuple #[eI nx, .bool nm]) ∧ X' = w' := fun X' h => by rw [← hnx]; exact rnext_any ask (hR.below (upp TX h)) hl
    have cLen : ∀ X', Below X.heap.size X X' → Calls Tryd.prog 13 #[tv] X' fun e w' => e = .returned (eI (ys.length : Int)) ∧ X' = w' := fun X' h => hT.len X' (upp TX h)
    clear hnx
    have hask : (hasI ask ys = true ∧ ∃ i, ∃ hi : i < ys.length, atV (atI ask ys) = (i : Int) ∧ (getI ask ys).getD 0 = ys[i].v) ∨ (hasI ask ys = false ∧ atV (atI ask ys) = -1 ∧ (getI ask ys).getD 0 = 0) := by
      cases hh : hasI ask ys with
      | true => exact .inl ⟨rfl, asks_is hh⟩
      | false => exact .inr ⟨rfl, asks_no hh⟩
    generalize (getI ask ys).getD 0 = gv at *
    generalize atV (atI ask ys) = q at *
    generalize hasI ask ys = b at *
    gi_upto_region 13 with (first
      | (refine ⟨trivial, ?_⟩; gi_at_call 24; (with_reducible refine (callsIn_wide.2 cIds).mono ?_); rintro e w7 ⟨iv, rfl, hIds, hb⟩; replace E := upp E hb; clear hb)
      | (refine ⟨trivial, ?_⟩; gi_at_call 15; (with_reducible refine (callsIn_wide.2 (cGet _ E)).mono ?_); rintro e w8 ⟨rfl, hb⟩; replace hIds := own_below hIds hb; replace E := upp E hb; clear hb; have c4 := (hI.1.below E).cell 0)
      | (refine ⟨trivial, ?_⟩; gi_at_call 30; (with_reducible refine (callsIn_wide.2 (cAt _ E)).mono ?_); rintro e w9 ⟨rfl, rfl⟩)
      | (refine ⟨trivial, ?_⟩; gi_at_call 25; (with_reducible refine (callsIn_wide.2 (cNext _ E)).mono ?_); rintro e w9 ⟨rfl, hb⟩; replace hIds := own_below hIds hb; replace E := upp E hb; clear hb; clear c4; have c4 := (hI.1.below E).cell 0)
      | (refine ⟨trivial, ?_⟩; gi_at_call 31; (with_reducible refine (callsIn_wide.2 (dNext _ E)).mono ?_); rintro e w9 ⟨rfl, rfl⟩))
    clear c4 cIds cGet cNext cAt dNext
    obtain ⟨ai, ci, rfl, hci, _⟩ := own_len hIds
    have hRX := hR.below TX
    have hsb := hI.1
    have hsn := hI.2.2.1
    have hsr := hI.2.1
    gi_cut [136] from 79 (fun s136 wx => s136 = .bool false ∧ Below w9.heap.size w9 wx)
    case first =>
      have c4 := (hI.1.below E).cell 0
      have cN := (hI.2.2.1.below E).cell 0
      have cR := (hR.box.below (upp TX E)).cell 0
      have q4 : ∀ k, Calls Tryd.prog 13 #[tv] (w9.drewN k) fun e w' => e = .returned (eI (ys.length : Int)) ∧ w' = w9.drewN k := fun k => (cLen _ (below_drewN E k)).mono fun e w' ⟨x, y⟩ => ⟨x, y.symm⟩
      have hrow := own_below hR.row (upp TX E)
      have e1 : ((ys.length : Int) != (ys.length : Int)) = false := by simp
      have e2 : (nx != nx) = false := by simp
      have e3 : (nm != nm) = false := by simp
      clear hIds cLen hRX hsb hsn hsr hI hT
      rcases hask with ⟨rfl, i, hlt, rfl, rfl⟩ | ⟨rfl, rfl, rfl⟩
      · obtain ⟨g, cap', cur, e, _⟩ := own_some hrow (by omega)
        cases e
        obtain ⟨y0, y1⟩ := im_at hrow i hlt
        generalize ys[i] = z at *
        have i1 : (i : Int) < (ys.length : Int) := by omega
        have i2 : (0 : Int) ≤ (i : Int) := by omega
        have e4 : (z.v != z.v) = false := by simp
        clear hrow y0 hR
        refine wpIn_wide.2 ?_
        go_quiet (first | (go_at_call 13; refine Calls.quiet_of_same (q4 _)))
        gi_wp2
        gi_meet
        exact ⟨rfl, below_drewN (Below.refl _ _) _⟩
      · clear hrow hR
        refine wpIn_wide.2 ?_
        go_quiet (first | (go_at_call 13; refine Calls.quiet_of_same (q4 _)))
        gi_wp2
        gi_meet
        exact ⟨rfl, below_drewN (Below.refl _ _) _⟩
    case rest =>
      obtain ⟨rfl, hV⟩ := hcut
      rename World => V
      have EV := upp E hV
      have TV := upp TX EV
      have hIV := own_below hIds hV
      clear cLen hask hIds E hV hsb hsn hsr hRX
      have hI' := hI.below EV
      replace hR := hR.below TV
      have hKV := (EV.block D0 hDX).trans hKd
      have nDV : D0 < V.heap.size := (Array.getElem?_eq_some_iff.1 hKV).1
      clear hI hKd hT
      have hIh := Lib.hid hIV
      have hRh := Lib.hid hR
      have hIw := Lib.hid hI'
      have hKh := Lib.hid hKV
      clear hIV hR hI' hKV
      gi_wp2
      gi_loopw [18] (fun s18 wr => ∃ i : Nat, s18 = .int .i64 i ∧ i ≤ ys.length ∧ Below V.heap.size V wr) (fun s18 _ => ys.length - (intOf s18).toNat)
      case atStart => exact ⟨0, rfl, by omega, Below.refl _ _⟩
      case round =>
        obtain ⟨i, rfl, hi, hW⟩ := hrel
        have cN := (hIw.out.2.2.1.below hW).cell 0
        have c4 := (hIw.out.1.below hW).cell 0
        have cR := (hRh.out.box.below hW).cell 0
        have i2 : (0 : Int) ≤ (i : Int) := by omega
        by_cases hlt : i < ys.length
        · have i1 : (i : Int) < (ys.length : Int) := by omega
          obtain ⟨g, cap', cur, e, _⟩ := own_some hRh.out.row (by omega)
          cases e
          obtain ⟨h, cap2, cur2, e, _, _, _, _, _, hc2⟩ := own_some (own_below hIh.out hW) (by omega)
          cases e
          obtain ⟨y0, y1⟩ := im_at (own_below hRh.out.row hW) i hlt
          have y2 := hc2 i (eI ys[i].id) (by simp [List.getElem?_map, List.getElem?_eq_getElem hlt])
          rw [add_plain, Nat.zero_add] at y2
          generalize ys[i] = z at *
          have e1 : (z.id != z.id) = false := by simp
          have j1 : (ys.length : Int) ≤ (c : Int) := by omega
          have j2 : (ys.length : Int) ≤ (ci : Int) := by omega
          have hw1 : IntKind.i64.wrap ((i : Int) + 1) = (i : Int) + 1 := i64_id (by omega)
          have hw2 : IntKind.i64.wrap ((i : Int) + 1) = ((i + 1 : Nat) : Int) := by rw [hw1]; omega
          clear hc2 y1
          gi_upto_region 18 with (fail)
          refine wpIn_wide.2 ?_
          go_quiet (fail)
          gi_wp2
          exact ⟨⟨i + 1, by simp, by omega, hW.trans ((below_drewN (Below.refl _ wr) nq).mono hW.size)⟩, by simp [intOf]; omega⟩
        · obtain rfl : i = ys.length := by omega
          have i1 : ¬ (ys.length : Int) < (ys.length : Int) := by omega
          have r0 := (hIw.out.2.1.below hW).cell 0
          have r1 := (hIw.out.2.1.below hW).thaw 0
          have nD : D0 ≠ W.heap.size + 1 := by omega
          have hK9 := (hW.block D0 nDV).trans hKh.out
          have qB : Box (wr.setCell ⟨W.heap.size + 1, 0, none⟩ (.bool true)) (W.heap.size + 1) #[.bool true] 4 := (hIw.out.2.1.below hW).set 0 (.bool true)
          have qT := (upp TV hW).setCell (p := ⟨W.heap.size + 1, 0, none⟩) (by simp) (.bool true)
          have fd := (Below.heap_setCell wr ⟨W.heap.size + 1, 0, none⟩ (.bool true) D0 nD).trans hK9
          have fB : Box ((wr.setCell ⟨W.heap.size + 1, 0, none⟩ (.bool true)).putObj D0 (.deferred none)) (W.heap.size + 1) #[.bool true] 4 := (World.putObj_heap_other (by omega)).trans qB
          have fc := fB.cell 0
          have fb := Lib.hid (qT.trans (belowK_b (w := W) (Nat.le_refl _) _ D0 _ (.deferred none) (by omega) fd rfl rfl))
          clear hK9 qB qT fB
          gi_wp2
          refine ⟨by simp, .inl ⟨_, _, rfl, run_takeDeferred fd, ?_⟩⟩
          exact ⟨.bool true, by simp [results, Tryd.results12, go_sem, fc], rfl, fb.out⟩
end Go.Proofs.YtenghpgnhmglpaaDoor
