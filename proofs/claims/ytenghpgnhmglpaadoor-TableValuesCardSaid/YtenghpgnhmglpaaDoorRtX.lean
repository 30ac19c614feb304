/- TableValues' walk: each id has the value that was put, or set, last; what is refused changes nothing. No condition but words, and what a table must keep. -/
import Derived.Test.YtenghpgnhmglpaaDoorRtW
import Derived.Test.YtenghpgnhmglpaaDoorRtN
namespace Go.Proofs.YtenghpgnhmglpaaDoor
open Go.RowKit Go.Shelf
set_option linter.unusedVariables false
set_option linter.unusedSimpArgs false
abbrev acA (x : Ac) : Array Value := #[.int .u8 x.kd, .int .i64 x.id, .int .u64 x.v, .int .i64 x.ask]
/-- A table of the call's own, and an act in a cell of the call's own. -/
def Own1c (Tb : World → (Nat → Nat) → Nat → Nat → List Im → Prop) (w0 w : World) (B : Nat) (L : List Im) (P : Nat) (x : Ac) : Prop := ∃ χ, Fr w0 χ w ∧ Tb w χ 1 B L ∧ Bx w χ 3 P (acA x) 31
section
variable {Tb : World → (Nat → Nat) → Nat → Nat → List Im → Prop} (hT : TbLaws Tb) {w0 w w' : World} {B P : Nat} {L M : List Im} {x : Ac}
theorem Own1c.own1 (h : Own1c Tb w0 w B L P x) : Own1 Tb w0 w B L := by
  obtain ⟨χ, h1, h2, _⟩ := h
  exact ⟨χ, h1, h2⟩
theorem Own1c.cells (h : Own1c Tb w0 w B L P x) : w.cell? ⟨P, 0, none⟩ = some (.int .u8 x.kd) ∧ w.cell? ⟨P, 1, none⟩ = some (.int .i64 x.id) ∧ w.cell? ⟨P, 2, none⟩ = some (.int .u64 x.v) := by
  obtain ⟨χ, _, _, h3, _⟩ := h
  exact ⟨h3.cell 0, h3.cell 1, h3.cell 2⟩
include hT
theorem Own1.cell (h : Own1 Tb w0 w B L) : Own1c Tb w0 (w.alloc (.cells (acA x) 31)) B L w.heap.size x := by
  obtain ⟨χ, h1, h2⟩ := h
  have k : Col χ (recol χ w.heap.size 3) 3 w (w.alloc (.cells (acA x) 31)) := Col.new (up1 w _) 3
  exact ⟨_, h1.next k (by decide), hT.other h2 k (by decide) (by decide), Box.new _ _ _, recol_ge (Nat.le_refl _)⟩
theorem Own1c.below (h : Own1c Tb w0 w B L P x) (k : Below w.heap.size w w') : Own1c Tb w0 w' B L P x := by
  obtain ⟨χ, h1, h2, h3⟩ := h
  exact ⟨χ, h1.below k, hT.below h2 k, h3.below k⟩
theorem oc_put (k y : Int) {E : Int} (hk : Inte k) (hx : Wd y) (h : Own1c Tb w0 w B L P x) (hl : L.length ≤ 1000) (hE : putE k L = E) (hM : putI k y L = M) : Calls Tryd.prog 16 #[.pointer (some ⟨B, 0, none⟩), eI k, eU y] w fun e w' => e = .returned (eI E) ∧ Own1c Tb w0 w' B M P x := by
  obtain ⟨χ, h1, h2, h3⟩ := h
  subst hE hM
  exact (hT.put k y h2 hk hx hl).mono fun e w' ⟨y1, χ', y2, y3⟩ => ⟨y1, χ', h1.next y2 (by decide), y3, h3.other y2 (by decide)⟩
theorem oc_set (k y : Int) {E : Int} (hk : Inte k) (hx : Wd y) (h : Own1c Tb w0 w B L P x) (hl : L.length ≤ 1000) (hE : askE k L = E) (hM : setT k y L = M) : Calls Tryd.prog 18 #[.pointer (some ⟨B, 0, none⟩), eI k, eU y] w fun e w' => e = .returned (eI E) ∧ Own1c Tb w0 w' B M P x := by
  obtain ⟨χ, h1, h2, h3⟩ := h
  subst hE hM
  exact (hT.set k y h2 hk hx hl).mono fun e w' ⟨y1, χ', y2, y3⟩ => ⟨y1, χ', h1.next y2 (by decide), y3, h3.other y2 (by decide)⟩
theorem oc_drop (k : Int) {E : Int} (hk : Inte k) (h : Own1c Tb w0 w B L P x) (hl : L.length ≤ 1000) (hE : askE k L = E) (hM : dropT k L = M) : Calls Tryd.prog 17 #[.pointer (some ⟨B, 0, none⟩), eI k] w fun e w' => e = .returned (eI E) ∧ Own1c Tb w0 w' B M P x := by
  obtain ⟨χ, h1, h2, h3⟩ := h
  subst hE hM
  exact (hT.drop k h2 hk hl).mono fun e w' ⟨y1, χ', y2, y3⟩ => ⟨y1, χ', h1.next y2 (by decide), y3, h3.other y2 (by decide)⟩
theorem oc_get (k : Int) {g : Int} {b : Bool} (hk : Inte k) (h : Own1c Tb w0 w B L P x) (hl : L.length ≤ 1000) (hx : (getI k L).getD 0 = g) (hb : hasI k L = b) : Calls Tryd.prog 15 #[.pointer (some ⟨B, 0, none⟩), eI k] w fun e w' => e = .returned (.tuple #[eU g, .bool b]) ∧ Own1c Tb w0 w' B L P x := by
  subst hx hb
  exact ((h.own1.tells hT hl).get k w hk (Below.refl _ _)).mono fun e w' ⟨y1, y2⟩ => ⟨y1, h.below hT y2⟩
theorem oc_len {n : Int} (h : Own1c Tb w0 w B L P x) (hl : L.length ≤ 1000) (hn : (L.length : Int) = n) : Calls Tryd.prog 13 #[.pointer (some ⟨B, 0, none⟩)] w fun e w' => e = .returned (eI n) ∧ Own1c Tb w0 w' B L P x := by
  subst hn
  exact ((h.own1.tells hT hl).len w (Below.refl _ _)).mono fun e w' ⟨y1, y2⟩ => ⟨y1, y2 ▸ h⟩
set_option maxRecDepth 100000 in
set_option maxHeartbeats 40000000 in
theorem values_ok (a : Option Addr) (n c : Nat) (xs : Nat → Ac) (w : World) (ht : Tab w) (hn : n ≤ 200) (hI : IsRow acC 4 w a n c xs) (hw : ∀ i, (xs i).ok) :
    Calls Tryd.prog 6 #[.slice a n c] w fun e w' => e = .returned (.bool true) ∧ Below w.heap.size w w' := by
  have hcell : ∀ (k : Nat) w', k < n → Below w.heap.size w w' → ∃ b o, a = some ⟨b, o, none⟩ ∧ w'.cell? ⟨b, o + k * 4, none⟩ = some (.int .u8 (xs k).kd) ∧ w'.cell? ⟨b, o + k * 4 + 1, none⟩ = some (.int .i64 (xs k).id) ∧ w'.cell? ⟨b, o + k * 4 + 2, none⟩ = some (.int .u64 (xs k).v) ∧ w'.cell? ⟨b, o + k * 4 + 3, none⟩ = some (.int .i64 (xs k).ask) := fun k w' hk T => by
    obtain ⟨b, o, e, _, h⟩ := row_at hI k hk
    exact ⟨b, o, e, h w' T 0 _ rfl, h w' T 1 _ rfl, h w' T 2 _ rfl, h w' T 3 _ rfl⟩
  have hce := Lib.hid hcell
  have hok := Lib.hid hw
  have hTh := Lib.hid hT
  have hAw := awake_any hT w ht
  have hnc : (n : Int) ≤ (c : Int) := by have := hI.1; omega
  have h1 : ¬ (200 : Int) < (n : Int) := by omega
  clear hcell hI hw hT
  go_enter Tryd.func6, Tryd.ntmps6
  go_wp2_with (first
    | (go_at_call 22; (with_reducible refine hAw.mono ?_); rintro e W1 ⟨rfl, hb1⟩)
    | (go_at_call 9; (with_reducible refine (own1_new hTh.out _ (ht.below hb1)).mono ?_); rintro e w2 ⟨B, rfl, H0⟩))
  clear hAw
  go_loopw [4] (fun s4 wr => ∃ k : Nat, s4 = .int .i64 k ∧ k ≤ n ∧ Own1 Tb W1 wr B (rowA xs k)) (fun s4 _ => n - (intOf s4).toNat)
  case atStart => exact ⟨0, rfl, by omega, H0⟩
  case round =>
    clear H0
    obtain ⟨k, rfl, hk, H⟩ := hrel
    by_cases hlt : k < n
    · have i1 : (k : Int) < (n : Int) := by omega
      have i2 : (0 : Int) ≤ (k : Int) := by omega
      obtain ⟨b, o, rfl, x0, x1, x2, x3⟩ := hce.out k wr hlt (upp hb1 H.world)
      have hg := rowA_good hok.out k
      have hL := rowA_len xs k
      have hL2 := rowA_len xs (k + 1)
      have hx := hok.out k
      have hst : Hid (rowA xs (k + 1) = stepA (rowA xs k) (xs k)) := rfl
      rw [hst.out] at hL2
      generalize rowA xs k = L at *
      generalize xs k = x at *
      have U := upon L x hg
      have hrm := kd_rem hx.1
      have H1 : Own1c Tb W1 (wr.alloc (.cells (acA x) 31)) B L wr.heap.size x := H.cell hTh.out
      go_upto_region 10 with fail
      obtain ⟨P, hP⟩ : ∃ z, wr.heap.size = z := ⟨_, rfl⟩
      rw [hP] at H1
      obtain ⟨w3, hw3⟩ : ∃ z, wr.alloc (.cells (acA x) 31) = z := ⟨_, rfl⟩
      rw [hw3] at H1
      first
        | simp only [hw3, hP]
        | simp only [hP]
      clear x0 x1 x2 x3 H hw3 hP
      obtain ⟨k0, k1, k2⟩ := H1.cells
      have q0 : L.length ≤ 1000 := by omega
      have q1 : (stepA L x).length ≤ 1000 := by omega
      obtain ⟨g0, hg0⟩ : ∃ g, (getI x.id L).getD 0 = g := ⟨_, rfl⟩
      obtain ⟨N, hN⟩ : ∃ N : Int, (L.length : Int) = N := ⟨_, rfl⟩
      have b0 : 0 ≤ N := by omega
      have b1 : N ≤ 200 := by omega
      have cP : x.kd % 3 = 0 → ∀ W, Own1c Tb W1 W B L P x → Calls Tryd.prog 16 #[.pointer (some ⟨B, 0, none⟩), eI x.id, eU x.v] W fun e w' => e = .returned (eI (told L x)) ∧ Own1c Tb W1 w' B (stepA L x) P x := fun h W H => oc_put hTh.out _ _ hx.2.1 hx.2.2.1 H q0 (by unfold told; rw [if_pos h]) (by unfold stepA; rw [if_pos h])
      have cS : x.kd % 3 = 1 → ∀ W, Own1c Tb W1 W B L P x → Calls Tryd.prog 18 #[.pointer (some ⟨B, 0, none⟩), eI x.id, eU x.v] W fun e w' => e = .returned (eI (told L x)) ∧ Own1c Tb W1 w' B (stepA L x) P x := fun h W H => oc_set hTh.out _ _ hx.2.1 hx.2.2.1 H q0 (by unfold told; rw [if_neg (by omega)]) (by unfold stepA; rw [if_neg (by omega), if_pos h])
      have cD : x.kd % 3 = 2 → ∀ W, Own1c Tb W1 W B L P x → Calls Tryd.prog 17 #[.pointer (some ⟨B, 0, none⟩), eI x.id] W fun e w' => e = .returned (eI (told L x)) ∧ Own1c Tb W1 w' B (stepA L x) P x := fun h W H => oc_drop hTh.out _ hx.2.1 H q0 (by unfold told; rw [if_neg (by omega)]) (by unfold stepA; rw [if_neg (by omega), if_neg (by omega)])
      have cG : ∀ (b : Bool), hasI x.id L = b → ∀ W, Own1c Tb W1 W B L P x → Calls Tryd.prog 15 #[.pointer (some ⟨B, 0, none⟩), eI x.id] W fun e w' => e = .returned (.tuple #[eU g0, .bool b]) ∧ Own1c Tb W1 w' B L P x := fun b h W H => oc_get hTh.out _ hx.2.1 H q0 hg0 h
      have cN : ∀ W, Own1c Tb W1 W B L P x → Calls Tryd.prog 13 #[.pointer (some ⟨B, 0, none⟩)] W fun e w' => e = .returned (eI N) ∧ Own1c Tb W1 w' B L P x := fun W H => oc_len hTh.out H q0 hN
      have dG : ∀ (g : Int) (b : Bool), (getI x.id (stepA L x)).getD 0 = g → hasI x.id (stepA L x) = b → ∀ W, Own1c Tb W1 W B (stepA L x) P x → Calls Tryd.prog 15 #[.pointer (some ⟨B, 0, none⟩), eI x.id] W fun e w' => e = .returned (.tuple #[eU g, .bool b]) ∧ Own1c Tb W1 w' B (stepA L x) P x := fun g b h h2 W H => oc_get hTh.out _ hx.2.1 H q1 h h2
      have dN : ∀ (n : Int), ((stepA L x).length : Int) = n → ∀ W, Own1c Tb W1 W B (stepA L x) P x → Calls Tryd.prog 13 #[.pointer (some ⟨B, 0, none⟩)] W fun e w' => e = .returned (eI n) ∧ Own1c Tb W1 w' B (stepA L x) P x := fun n h W H => oc_len hTh.out H q1 h
      generalize told L x = E at *
      obtain ⟨M, hM⟩ : ∃ M, stepA L x = M := ⟨_, rfl⟩
      rw [hM] at U cP cS cD dG dN hst
      have hm : x.kd % 3 = 0 ∨ x.kd % 3 = 1 ∨ x.kd % 3 = 2 := by omega
      have hx0 := hx.1
      have Ms := Lib.hid hM
      clear hM hL2 q1 hx hg hL
      rcases hm with hm | hm | hm
      · have A := cP hm
        clear cP cS cD
        rw [hm] at hrm
        cases U with
        | arg h h1 e =>
          subst e
          as_aux_lemma =>
            have G := cG false h1
            have G2 := dG g0 false hg0 h1
            have hm2 : ¬ (1 ≤ x.id ∧ x.id ≤ 65535) := fun hh => by rw [mayI_iff.2 hh] at h; cases h
            clear cG dG dN h1 hN hg0 h
            by_cases a1 : 1 ≤ x.id
            · have a2 : decide (x.id ≤ 65535) = false := decide_eq_false (by omega)
              clear hm2
              go_wp2_with (first
                | (go_at_call 15; (with_reducible refine (G _ H1).mono ?_); rintro e w4 ⟨rfl, H2⟩; clear k0 k1 k2; obtain ⟨k0, k1, k2⟩ := H2.cells)
                | (go_at_call 13; (with_reducible refine (cN _ H2).mono ?_); rintro e w5 ⟨rfl, H3⟩; clear k0 k1 k2; obtain ⟨k0, k1, k2⟩ := H3.cells)
                | (go_at_call 16; (with_reducible refine (A _ H3).mono ?_); rintro e w6 ⟨rfl, H4⟩; clear k0 k1 k2; obtain ⟨k0, k1, k2⟩ := H4.cells)
                | (go_at_call 15; (with_reducible refine (G2 _ H4).mono ?_); rintro e w7 ⟨rfl, H5⟩; clear k0 k1 k2; obtain ⟨k0, k1, k2⟩ := H5.cells))
              exact ⟨⟨k + 1, rfl, by omega, by rw [hst.out]; exact H5.own1⟩, by simp [intOf]; omega⟩
            · clear hm2
              go_wp2_with (first
                | (go_at_call 15; (with_reducible refine (G _ H1).mono ?_); rintro e w4 ⟨rfl, H2⟩; clear k0 k1 k2; obtain ⟨k0, k1, k2⟩ := H2.cells)
                | (go_at_call 13; (with_reducible refine (cN _ H2).mono ?_); rintro e w5 ⟨rfl, H3⟩; clear k0 k1 k2; obtain ⟨k0, k1, k2⟩ := H3.cells)
                | (go_at_call 16; (with_reducible refine (A _ H3).mono ?_); rintro e w6 ⟨rfl, H4⟩; clear k0 k1 k2; obtain ⟨k0, k1, k2⟩ := H4.cells)
                | (go_at_call 15; (with_reducible refine (G2 _ H4).mono ?_); rintro e w7 ⟨rfl, H5⟩; clear k0 k1 k2; obtain ⟨k0, k1, k2⟩ := H5.cells))
              exact ⟨⟨k + 1, rfl, by omega, by rw [hst.out]; exact H5.own1⟩, by simp [intOf]; omega⟩
        | twice h kk h1 e =>
          subst e
          clear kk hm
          as_aux_lemma =>
            have G := cG true h1
            have G2 := dG g0 true hg0 h1
            have N2 := dN N hN
            obtain ⟨a1, a2⟩ := mayI_iff.1 h
            have z1 : (N != N) = false := by simp
            have z2 : (g0 != g0) = false := by simp
            have z3 : (x.v != x.v) = false := by simp
            have z4 : (N + 1 != N + 1) = false := by simp
            have z5 : (N - 1 != N - 1) = false := by simp
            have y1 : IntKind.i64.wrap (N + 1) = N + 1 := i64_id (by omega)
            have y2 : IntKind.i64.wrap (N - 1) = N - 1 := i64_id (by omega)
            clear cG dG dN h
            go_upto_region 24 with (first
              | (go_at_call 15; (with_reducible refine (G _ H1).mono ?_); rintro e w4 ⟨rfl, H2⟩; clear k0 k1 k2; obtain ⟨k0, k1, k2⟩ := H2.cells)
              | (go_at_call 13; (with_reducible refine (cN _ H2).mono ?_); rintro e w5 ⟨rfl, H3⟩; clear k0 k1 k2; obtain ⟨k0, k1, k2⟩ := H3.cells)
              | (go_at_call 16; (with_reducible refine (A _ H3).mono ?_); rintro e w6 ⟨rfl, H4⟩; clear k0 k1 k2; obtain ⟨k0, k1, k2⟩ := H4.cells)
              | (go_at_call 15; (with_reducible refine (G2 _ H4).mono ?_); rintro e w7 ⟨rfl, H5⟩; clear k0 k1 k2; obtain ⟨k0, k1, k2⟩ := H5.cells))
            go_quiet (fail)
            replace H5 := H5.below hTh.out (below_drewN (Below.refl _ _) nq)
            clear k0 k1 k2
            obtain ⟨k0, k1, k2⟩ := H5.cells
            go_wp2_with (first | (go_at_call 13; (with_reducible refine (N2 _ H5).mono ?_); rintro e w8 ⟨rfl, H6⟩; clear k0 k1 k2; obtain ⟨k0, k1, k2⟩ := H6.cells))
            first
              | exact ⟨⟨k + 1, rfl, by omega, by rw [hst.out]; exact H6.own1⟩, by simp [intOf]; omega⟩
              | exact ⟨⟨k + 1, rfl, by omega, by rw [hst.out]; exact H5.own1⟩, by simp [intOf]; omega⟩
        | absent h kk h1 e =>
          omega
        | put h kk h1 h2 h3 h4 =>
          clear kk hm
          as_aux_lemma =>
            have G := cG false h1
            have G2 := dG x.v true h3 h2
            have N2 := dN (N + 1) (by omega)
            obtain ⟨a1, a2⟩ := mayI_iff.1 h
            have z1 : (N != N) = false := by simp
            have z2 : (g0 != g0) = false := by simp
            have z3 : (x.v != x.v) = false := by simp
            have z4 : (N + 1 != N + 1) = false := by simp
            have z5 : (N - 1 != N - 1) = false := by simp
            have y1 : IntKind.i64.wrap (N + 1) = N + 1 := i64_id (by omega)
            have y2 : IntKind.i64.wrap (N - 1) = N - 1 := i64_id (by omega)
            clear cG dG dN h
            go_upto_region 24 with (first
              | (go_at_call 15; (with_reducible refine (G _ H1).mono ?_); rintro e w4 ⟨rfl, H2⟩; clear k0 k1 k2; obtain ⟨k0, k1, k2⟩ := H2.cells)
              | (go_at_call 13; (with_reducible refine (cN _ H2).mono ?_); rintro e w5 ⟨rfl, H3⟩; clear k0 k1 k2; obtain ⟨k0, k1, k2⟩ := H3.cells)
              | (go_at_call 16; (with_reducible refine (A _ H3).mono ?_); rintro e w6 ⟨rfl, H4⟩; clear k0 k1 k2; obtain ⟨k0, k1, k2⟩ := H4.cells)
              | (go_at_call 15; (with_reducible refine (G2 _ H4).mono ?_); rintro e w7 ⟨rfl, H5⟩; clear k0 k1 k2; obtain ⟨k0, k1, k2⟩ := H5.cells))
            go_quiet (fail)
            replace H5 := H5.below hTh.out (below_drewN (Below.refl _ _) nq)
            clear k0 k1 k2
            obtain ⟨k0, k1, k2⟩ := H5.cells
            go_wp2_with (first | (go_at_call 13; (with_reducible refine (N2 _ H5).mono ?_); rintro e w8 ⟨rfl, H6⟩; clear k0 k1 k2; obtain ⟨k0, k1, k2⟩ := H6.cells))
            first
              | exact ⟨⟨k + 1, rfl, by omega, by rw [hst.out]; exact H6.own1⟩, by simp [intOf]; omega⟩
              | exact ⟨⟨k + 1, rfl, by omega, by rw [hst.out]; exact H5.own1⟩, by simp [intOf]; omega⟩
        | set h kk h1 h2 h3 h4 =>
          omega
        | drop h kk h1 h2 h4 =>
          omega
      · have A := cS hm
        clear cP cS cD
        rw [hm] at hrm
        cases U with
        | arg h h1 e =>
          subst e
          as_aux_lemma =>
            have G := cG false h1
            have G2 := dG g0 false hg0 h1
            have hm2 : ¬ (1 ≤ x.id ∧ x.id ≤ 65535) := fun hh => by rw [mayI_iff.2 hh] at h; cases h
            clear cG dG dN h1 hN hg0 h
            by_cases a1 : 1 ≤ x.id
            · have a2 : decide (x.id ≤ 65535) = false := decide_eq_false (by omega)
              clear hm2
              go_wp2_with (first
                | (go_at_call 15; (with_reducible refine (G _ H1).mono ?_); rintro e w4 ⟨rfl, H2⟩; clear k0 k1 k2; obtain ⟨k0, k1, k2⟩ := H2.cells)
                | (go_at_call 13; (with_reducible refine (cN _ H2).mono ?_); rintro e w5 ⟨rfl, H3⟩; clear k0 k1 k2; obtain ⟨k0, k1, k2⟩ := H3.cells)
                | (go_at_call 18; (with_reducible refine (A _ H3).mono ?_); rintro e w6 ⟨rfl, H4⟩; clear k0 k1 k2; obtain ⟨k0, k1, k2⟩ := H4.cells)
                | (go_at_call 15; (with_reducible refine (G2 _ H4).mono ?_); rintro e w7 ⟨rfl, H5⟩; clear k0 k1 k2; obtain ⟨k0, k1, k2⟩ := H5.cells))
              exact ⟨⟨k + 1, rfl, by omega, by rw [hst.out]; exact H5.own1⟩, by simp [intOf]; omega⟩
            · clear hm2
              go_wp2_with (first
                | (go_at_call 15; (with_reducible refine (G _ H1).mono ?_); rintro e w4 ⟨rfl, H2⟩; clear k0 k1 k2; obtain ⟨k0, k1, k2⟩ := H2.cells)
                | (go_at_call 13; (with_reducible refine (cN _ H2).mono ?_); rintro e w5 ⟨rfl, H3⟩; clear k0 k1 k2; obtain ⟨k0, k1, k2⟩ := H3.cells)
                | (go_at_call 18; (with_reducible refine (A _ H3).mono ?_); rintro e w6 ⟨rfl, H4⟩; clear k0 k1 k2; obtain ⟨k0, k1, k2⟩ := H4.cells)
                | (go_at_call 15; (with_reducible refine (G2 _ H4).mono ?_); rintro e w7 ⟨rfl, H5⟩; clear k0 k1 k2; obtain ⟨k0, k1, k2⟩ := H5.cells))
              exact ⟨⟨k + 1, rfl, by omega, by rw [hst.out]; exact H5.own1⟩, by simp [intOf]; omega⟩
        | twice h kk h1 e =>
          omega
        | absent h kk h1 e =>
          subst e
          clear kk hm
          as_aux_lemma =>
            have G := cG false h1
            have G2 := dG g0 false hg0 h1
            have N2 := dN N hN
            obtain ⟨a1, a2⟩ := mayI_iff.1 h
            have z1 : (N != N) = false := by simp
            have z2 : (g0 != g0) = false := by simp
            have z3 : (x.v != x.v) = false := by simp
            have z4 : (N + 1 != N + 1) = false := by simp
            have z5 : (N - 1 != N - 1) = false := by simp
            have y1 : IntKind.i64.wrap (N + 1) = N + 1 := i64_id (by omega)
            have y2 : IntKind.i64.wrap (N - 1) = N - 1 := i64_id (by omega)
            clear cG dG dN h
            go_upto_region 24 with (first
              | (go_at_call 15; (with_reducible refine (G _ H1).mono ?_); rintro e w4 ⟨rfl, H2⟩; clear k0 k1 k2; obtain ⟨k0, k1, k2⟩ := H2.cells)
              | (go_at_call 13; (with_reducible refine (cN _ H2).mono ?_); rintro e w5 ⟨rfl, H3⟩; clear k0 k1 k2; obtain ⟨k0, k1, k2⟩ := H3.cells)
              | (go_at_call 18; (with_reducible refine (A _ H3).mono ?_); rintro e w6 ⟨rfl, H4⟩; clear k0 k1 k2; obtain ⟨k0, k1, k2⟩ := H4.cells)
              | (go_at_call 15; (with_reducible refine (G2 _ H4).mono ?_); rintro e w7 ⟨rfl, H5⟩; clear k0 k1 k2; obtain ⟨k0, k1, k2⟩ := H5.cells))
            go_quiet (fail)
            replace H5 := H5.below hTh.out (below_drewN (Below.refl _ _) nq)
            clear k0 k1 k2
            obtain ⟨k0, k1, k2⟩ := H5.cells
            go_wp2_with (first | (go_at_call 13; (with_reducible refine (N2 _ H5).mono ?_); rintro e w8 ⟨rfl, H6⟩; clear k0 k1 k2; obtain ⟨k0, k1, k2⟩ := H6.cells))
            first
              | exact ⟨⟨k + 1, rfl, by omega, by rw [hst.out]; exact H6.own1⟩, by simp [intOf]; omega⟩
              | exact ⟨⟨k + 1, rfl, by omega, by rw [hst.out]; exact H5.own1⟩, by simp [intOf]; omega⟩
        | put h kk h1 h2 h3 h4 =>
          omega
        | set h kk h1 h2 h3 h4 =>
          clear kk hm
          as_aux_lemma =>
            have G := cG true h1
            have G2 := dG x.v true h3 h2
            have N2 := dN N (by omega)
            obtain ⟨a1, a2⟩ := mayI_iff.1 h
            have z1 : (N != N) = false := by simp
            have z2 : (g0 != g0) = false := by simp
            have z3 : (x.v != x.v) = false := by simp
            have z4 : (N + 1 != N + 1) = false := by simp
            have z5 : (N - 1 != N - 1) = false := by simp
            have y1 : IntKind.i64.wrap (N + 1) = N + 1 := i64_id (by omega)
            have y2 : IntKind.i64.wrap (N - 1) = N - 1 := i64_id (by omega)
            clear cG dG dN h
            go_upto_region 24 with (first
              | (go_at_call 15; (with_reducible refine (G _ H1).mono ?_); rintro e w4 ⟨rfl, H2⟩; clear k0 k1 k2; obtain ⟨k0, k1, k2⟩ := H2.cells)
              | (go_at_call 13; (with_reducible refine (cN _ H2).mono ?_); rintro e w5 ⟨rfl, H3⟩; clear k0 k1 k2; obtain ⟨k0, k1, k2⟩ := H3.cells)
              | (go_at_call 18; (with_reducible refine (A _ H3).mono ?_); rintro e w6 ⟨rfl, H4⟩; clear k0 k1 k2; obtain ⟨k0, k1, k2⟩ := H4.cells)
              | (go_at_call 15; (with_reducible refine (G2 _ H4).mono ?_); rintro e w7 ⟨rfl, H5⟩; clear k0 k1 k2; obtain ⟨k0, k1, k2⟩ := H5.cells))
            go_quiet (fail)
            replace H5 := H5.below hTh.out (below_drewN (Below.refl _ _) nq)
            clear k0 k1 k2
            obtain ⟨k0, k1, k2⟩ := H5.cells
            go_wp2_with (first | (go_at_call 13; (with_reducible refine (N2 _ H5).mono ?_); rintro e w8 ⟨rfl, H6⟩; clear k0 k1 k2; obtain ⟨k0, k1, k2⟩ := H6.cells))
            first
              | exact ⟨⟨k + 1, rfl, by omega, by rw [hst.out]; exact H6.own1⟩, by simp [intOf]; omega⟩
              | exact ⟨⟨k + 1, rfl, by omega, by rw [hst.out]; exact H5.own1⟩, by simp [intOf]; omega⟩
        | drop h kk h1 h2 h4 =>
          omega
      · have A := cD hm
        clear cP cS cD
        rw [hm] at hrm
        cases U with
        | arg h h1 e =>
          subst e
          as_aux_lemma =>
            have G := cG false h1
            have G2 := dG g0 false hg0 h1
            have hm2 : ¬ (1 ≤ x.id ∧ x.id ≤ 65535) := fun hh => by rw [mayI_iff.2 hh] at h; cases h
            clear cG dG dN h1 hN hg0 h
            by_cases a1 : 1 ≤ x.id
            · have a2 : decide (x.id ≤ 65535) = false := decide_eq_false (by omega)
              clear hm2
              go_wp2_with (first
                | (go_at_call 15; (with_reducible refine (G _ H1).mono ?_); rintro e w4 ⟨rfl, H2⟩; clear k0 k1 k2; obtain ⟨k0, k1, k2⟩ := H2.cells)
                | (go_at_call 13; (with_reducible refine (cN _ H2).mono ?_); rintro e w5 ⟨rfl, H3⟩; clear k0 k1 k2; obtain ⟨k0, k1, k2⟩ := H3.cells)
                | (go_at_call 17; (with_reducible refine (A _ H3).mono ?_); rintro e w6 ⟨rfl, H4⟩; clear k0 k1 k2; obtain ⟨k0, k1, k2⟩ := H4.cells)
                | (go_at_call 15; (with_reducible refine (G2 _ H4).mono ?_); rintro e w7 ⟨rfl, H5⟩; clear k0 k1 k2; obtain ⟨k0, k1, k2⟩ := H5.cells))
              exact ⟨⟨k + 1, rfl, by omega, by rw [hst.out]; exact H5.own1⟩, by simp [intOf]; omega⟩
            · clear hm2
              go_wp2_with (first
                | (go_at_call 15; (with_reducible refine (G _ H1).mono ?_); rintro e w4 ⟨rfl, H2⟩; clear k0 k1 k2; obtain ⟨k0, k1, k2⟩ := H2.cells)
                | (go_at_call 13; (with_reducible refine (cN _ H2).mono ?_); rintro e w5 ⟨rfl, H3⟩; clear k0 k1 k2; obtain ⟨k0, k1, k2⟩ := H3.cells)
                | (go_at_call 17; (with_reducible refine (A _ H3).mono ?_); rintro e w6 ⟨rfl, H4⟩; clear k0 k1 k2; obtain ⟨k0, k1, k2⟩ := H4.cells)
                | (go_at_call 15; (with_reducible refine (G2 _ H4).mono ?_); rintro e w7 ⟨rfl, H5⟩; clear k0 k1 k2; obtain ⟨k0, k1, k2⟩ := H5.cells))
              exact ⟨⟨k + 1, rfl, by omega, by rw [hst.out]; exact H5.own1⟩, by simp [intOf]; omega⟩
        | twice h kk h1 e =>
          omega
        | absent h kk h1 e =>
          subst e
          clear kk hm
          as_aux_lemma =>
            have G := cG false h1
            have G2 := dG g0 false hg0 h1
            have N2 := dN N hN
            obtain ⟨a1, a2⟩ := mayI_iff.1 h
            have z1 : (N != N) = false := by simp
            have z2 : (g0 != g0) = false := by simp
            have z3 : (x.v != x.v) = false := by simp
            have z4 : (N + 1 != N + 1) = false := by simp
            have z5 : (N - 1 != N - 1) = false := by simp
            have y1 : IntKind.i64.wrap (N + 1) = N + 1 := i64_id (by omega)
            have y2 : IntKind.i64.wrap (N - 1) = N - 1 := i64_id (by omega)
            clear cG dG dN h
            go_upto_region 24 with (first
              | (go_at_call 15; (with_reducible refine (G _ H1).mono ?_); rintro e w4 ⟨rfl, H2⟩; clear k0 k1 k2; obtain ⟨k0, k1, k2⟩ := H2.cells)
              | (go_at_call 13; (with_reducible refine (cN _ H2).mono ?_); rintro e w5 ⟨rfl, H3⟩; clear k0 k1 k2; obtain ⟨k0, k1, k2⟩ := H3.cells)
              | (go_at_call 17; (with_reducible refine (A _ H3).mono ?_); rintro e w6 ⟨rfl, H4⟩; clear k0 k1 k2; obtain ⟨k0, k1, k2⟩ := H4.cells)
              | (go_at_call 15; (with_reducible refine (G2 _ H4).mono ?_); rintro e w7 ⟨rfl, H5⟩; clear k0 k1 k2; obtain ⟨k0, k1, k2⟩ := H5.cells))
            go_quiet (fail)
            replace H5 := H5.below hTh.out (below_drewN (Below.refl _ _) nq)
            clear k0 k1 k2
            obtain ⟨k0, k1, k2⟩ := H5.cells
            go_wp2_with (first | (go_at_call 13; (with_reducible refine (N2 _ H5).mono ?_); rintro e w8 ⟨rfl, H6⟩; clear k0 k1 k2; obtain ⟨k0, k1, k2⟩ := H6.cells))
            first
              | exact ⟨⟨k + 1, rfl, by omega, by rw [hst.out]; exact H6.own1⟩, by simp [intOf]; omega⟩
              | exact ⟨⟨k + 1, rfl, by omega, by rw [hst.out]; exact H5.own1⟩, by simp [intOf]; omega⟩
        | put h kk h1 h2 h3 h4 =>
          omega
        | set h kk h1 h2 h3 h4 =>
          omega
        | drop h kk h1 h2 h4 =>
          clear kk hm
          as_aux_lemma =>
            have G := cG true h1
            obtain ⟨g2, hg2⟩ : ∃ g, (getI x.id M).getD 0 = g := ⟨_, rfl⟩
            have G2 := dG g2 false hg2 h2
            have N2 := dN (N - 1) (by omega)
            clear hg2
            obtain ⟨a1, a2⟩ := mayI_iff.1 h
            have z1 : (N != N) = false := by simp
            have z2 : (g0 != g0) = false := by simp
            have z3 : (x.v != x.v) = false := by simp
            have z4 : (N + 1 != N + 1) = false := by simp
            have z5 : (N - 1 != N - 1) = false := by simp
            have y1 : IntKind.i64.wrap (N + 1) = N + 1 := i64_id (by omega)
            have y2 : IntKind.i64.wrap (N - 1) = N - 1 := i64_id (by omega)
            clear cG dG dN h
            go_upto_region 24 with (first
              | (go_at_call 15; (with_reducible refine (G _ H1).mono ?_); rintro e w4 ⟨rfl, H2⟩; clear k0 k1 k2; obtain ⟨k0, k1, k2⟩ := H2.cells)
              | (go_at_call 13; (with_reducible refine (cN _ H2).mono ?_); rintro e w5 ⟨rfl, H3⟩; clear k0 k1 k2; obtain ⟨k0, k1, k2⟩ := H3.cells)
              | (go_at_call 17; (with_reducible refine (A _ H3).mono ?_); rintro e w6 ⟨rfl, H4⟩; clear k0 k1 k2; obtain ⟨k0, k1, k2⟩ := H4.cells)
              | (go_at_call 15; (with_reducible refine (G2 _ H4).mono ?_); rintro e w7 ⟨rfl, H5⟩; clear k0 k1 k2; obtain ⟨k0, k1, k2⟩ := H5.cells))
            go_quiet (fail)
            replace H5 := H5.below hTh.out (below_drewN (Below.refl _ _) nq)
            clear k0 k1 k2
            obtain ⟨k0, k1, k2⟩ := H5.cells
            go_wp2_with (first | (go_at_call 13; (with_reducible refine (N2 _ H5).mono ?_); rintro e w8 ⟨rfl, H6⟩; clear k0 k1 k2; obtain ⟨k0, k1, k2⟩ := H6.cells))
            first
              | exact ⟨⟨k + 1, rfl, by omega, by rw [hst.out]; exact H6.own1⟩, by simp [intOf]; omega⟩
              | exact ⟨⟨k + 1, rfl, by omega, by rw [hst.out]; exact H5.own1⟩, by simp [intOf]; omega⟩
    · obtain rfl : k = n := by omega
      have i1 : ¬ (k : Int) < (k : Int) := by omega
      go_wp2_with fail
      go_ret
      exact ⟨rfl, upp hb1 H.world⟩
end
end Go.Proofs.YtenghpgnhmglpaaDoor
