/- A curve below an admitted one is admitted, by a greater rate too. Condition: numbers are what the fields can hold. -/
import Derived.Test.YtjbpaapglamilaaGreatAdP
namespace Go.Proofs.YtjbpaapglamilaaGreat.H
open Go.ChangeShapes Go.WideShapes Go.Deep Go.RowKit W
set_option linter.unusedVariables false
set_option linter.unusedSimpArgs false
theorem pk_u16 {x : Int} (h : (Lit.int .u16 x).wf = true) : 0 ≤ x ∧ x < 65536 := by
  simp [Lit.wf, IntKind.min, IntKind.max, IntKind.bits, IntKind.signed] at h
  omega
theorem kept_rate {xs : List Cv} {r s : Int} (h : r ≤ s) (k : kept xs r) : kept xs s := fun t h0 h1 => by
  have := k t h0 h1
  have h2 := Int.mul_le_mul_of_nonneg_right h h0
  unfold lateAt at *
  omega
theorem kB_rate {xs : List Cv} {r s : Int} (h : r ≤ s) (k : kB xs r = true) : kB xs s = true := kB_iff.2 (kept_rate h (kB_iff.1 k))
/-- A curve with slopes that aren't greater. -/
def Less (y x : Cv) : Prop := y.l = x.l ∧ y.f ≤ x.f ∧ y.r ≤ x.r
theorem one_less {x y : Cv} (hy : y.word) (hmy : mB y = true) (hmx : mB x = true) (h : Less y x) {t : Int} (ht : 0 ≤ t) : oneW y t ≤ oneW x t := by
  obtain ⟨h1, h2, h3⟩ := h
  unfold oneW
  rw [if_pos (show y.may from mayB_is.1 hmy), if_pos (show x.may from mayB_is.1 hmx)]
  have hl := hy.2.1.1
  unfold cW
  rw [h1] at hl ⊢
  split
  · exact Int.mul_le_mul_of_nonneg_right h2 ht
  · have a1 := Int.mul_le_mul_of_nonneg_right h2 hl
    have a2 := Int.mul_le_mul_of_nonneg_right h3 (show 0 ≤ t - x.l by omega)
    omega
theorem fits_less {b : Bk} {x y : Cv} (hy : y.word) (h : Less y x) (hf : b.fits x = true) (hm : mB y = true) : b.fits y = true := by
  unfold Bk.fits at *
  rw [Bool.and_eq_true] at *
  refine ⟨hm, kB_iff.2 (kept_less (fun t ht => ?_) (kB_iff.1 hf.2))⟩
  have := one_less hy hm hf.1 h ht
  simp only [sW]
  omega
theorem swp_put {b : Bk} {k : Int} {x : Cv} : b.swpE k x false = (b.drop k false).putE k x := by
  have h1 : (b.drop k false).has k = false := Bk.drop_has
  have h2 : (b.drop k false).R = b.R := Bk.drop_R
  unfold Bk.swpE Bk.putE
  rw [h1, h2]
  cases mB x <;> simp
theorem swp_put2 {b : Bk} {k : Int} {x : Cv} (h : b.swpE k x false = 0) : b.swp k x false = (b.drop k false).put k x := by
  unfold Bk.swp Bk.put
  rw [← swp_put, if_pos h, if_pos h]
section
variable {V w w' : World} {t n N : Nat} {b b' : Bk} {v : Value} {L : List Cv} {k : Int} {x : Cv} {bx bY : Bk} {X Y m : Nat}
/-- A book and a row of curves beside it. -/
def Br (V w : World) (t n : Nat) (b : Bk) (v : Value) (N : Nat) (L : List Cv) : Prop := ∃ χ, Fr V χ w ∧ Bo w χ 1 t n b ∧ w.ownsRow 0 25 3 v N (rowC fC L) ∧ ∀ g, v.ownBlock = some g → χ g = 5
theorem Br.make (h : Bn V w t n b) (hO : w'.ownsRow w.heap.size 25 3 v N (rowC fC L)) (T : Below w.heap.size w w') : Br V w' t n b v N L := by
  obtain ⟨χ, hf, h1⟩ := h
  exact ⟨recol χ w.heap.size 5, hf.next (Col.new (c := 5) T 5) (by decide), h1.new T 5, own_mono hO (Nat.zero_le _), fun g e => recol_ge (hO.lt g e).1⟩
theorem Br.below (h : Br V w t n b v N L) (hb : Below w.heap.size w w') : Br V w' t n b v N L := by
  obtain ⟨χ, hf, h1, h2, h3⟩ := h
  exact ⟨χ, hf.below hb, h1.below hb, own_below h2 hb, h3⟩
theorem Br.bn (h : Br V w t n b v N L) : Bn V w t n b := by
  obtain ⟨χ, hf, h1, h2, h3⟩ := h
  exact ⟨χ, hf, h1⟩
theorem Br.row (h : Br V w t n b v N L) : w.ownsRow 0 25 3 v N (rowC fC L) := by
  obtain ⟨χ, hf, h1, h2, h3⟩ := h
  exact h2
theorem br_put (h : Br V w t n b v N L) (hn : n ≤ 200) (hk : I64 k) (hx : x.word) {e0 : Int} (he : b.putE k x = e0) : Calls Tryz.prog 9 #[ptr t, eI k, .agg (cA x)] w fun e w' => e = .returned (eI e0) ∧ Br V w' t (n + 1) (b.put k x) v N L := by
  subst he
  obtain ⟨χ, hf, h1, h2, h3⟩ := h
  refine (put_any h1 hn hk hx).mono ?_
  rintro e w' ⟨e1, χ', hT, hC⟩
  refine ⟨e1, χ', hf.next hC (by decide), hT, Off.owns (S := fun b => χ b = 1) ⟨hC.os, hC.tape, hC.output, hC.size, fun i hi hn => hC.block i hi hn⟩ h2 (fun g e e2 => by have := h3 g e; omega), fun g e => (hC.col g (h2.lt g e).2).trans (h3 g e)⟩
/-- Two books. -/
def B2 (V w : World) (X n : Nat) (bx : Bk) (Y m : Nat) (bY : Bk) : Prop := ∃ χ, Fr V χ w ∧ Bo w χ 1 X n bx ∧ Bo w χ 2 Y m bY
theorem B2.below (h : B2 V w X n bx Y m bY) (hb : Below w.heap.size w w') : B2 V w' X n bx Y m bY := by
  obtain ⟨χ, hf, h1, h2⟩ := h
  exact ⟨χ, hf.below hb, h1.below hb, h2.below hb⟩
theorem B2.world (h : B2 V w X n bx Y m bY) : Below V.heap.size V w := by obtain ⟨χ, hf, _⟩ := h; exact hf.world
theorem b2_make {w2 : World} (h1 : ∀ χ, Bo w (recol χ V.heap.size 1) 1 X n bx) (T1 : Below V.heap.size V w) (h2 : ∀ χ, Bo w2 (recol χ w.heap.size 2) 2 Y m bY) (T2 : Below w.heap.size w w2) : B2 V w2 X n bx Y m bY := by
  have k1 : Col (fun _ => 0) (recol (fun _ => 0) V.heap.size 1) 1 V w := Col.new T1 1
  exact ⟨recol (recol (fun _ => 0) V.heap.size 1) w.heap.size 2, ((Fr.start V).next k1 (by decide)).next (Col.new (c := 2) T2 2) (by decide), (h1 _).new T2 2, h2 _⟩
theorem b2_swap (h : B2 V w X n bx Y m bY) (hn : n ≤ 200) (hk : I64 k) (hx : x.word) (keep : Bool) {e0 : Int} (he : bx.swpE k x keep = e0) : Calls Tryz.prog 11 #[ptr X, eI k, .agg (cA x), .bool keep] w fun e w' => e = .returned (eI e0) ∧ B2 V w' X (n + 1) (bx.swp k x keep) Y m bY := by
  subst he
  obtain ⟨χ, hf, h1, h2⟩ := h
  refine (swap_any h1 hn hk hx keep).mono ?_
  rintro e w' ⟨e1, χ', hT, hC⟩
  exact ⟨e1, χ', hf.next hC (by decide), hT, h2.other hC (by decide)⟩
theorem b2_drop (h : B2 V w X n bx Y m bY) (hm : m ≤ 200) (hk : I64 k) (keep : Bool) : Calls Tryz.prog 14 #[ptr Y, eI k, .bool keep] w fun e w' => e = .returned (.bool (bY.has k)) ∧ B2 V w' X n bx Y m (bY.drop k keep) := by
  obtain ⟨χ, hf, h1, h2⟩ := h
  refine (drop_any h2 hm hk keep).mono ?_
  rintro e w' ⟨e1, hT, hC⟩
  exact ⟨e1, _, hf.next hC (by decide), h1.other hC (by decide), hT⟩
theorem b2_put (h : B2 V w X n bx Y m bY) (hm : m ≤ 200) (hk : I64 k) (hx : x.word) {e0 : Int} (he : bY.putE k x = e0) : Calls Tryz.prog 9 #[ptr Y, eI k, .agg (cA x)] w fun e w' => e = .returned (eI e0) ∧ B2 V w' X n bx Y (m + 1) (bY.put k x) := by
  subst he
  obtain ⟨χ, hf, h1, h2⟩ := h
  refine (put_any h2 hm hk hx).mono ?_
  rintro e w' ⟨e1, χ', hT, hC⟩
  exact ⟨e1, χ', hf.next hC (by decide), h1.other hC (by decide), hT⟩
theorem b2_all1 (h : B2 V w X n bx Y m bY) (hn : n ≤ 200) {q : Nat} (hq : bx.all.length = q) : Calls Tryz.prog 21 #[ptr X] w fun e w' => (∃ a c, e = .returned (.slice a q c) ∧ q ≤ c) ∧ Below w.heap.size w w' := by
  subst hq
  obtain ⟨χ, hf, h1, h2⟩ := h
  refine (all_of h1 hn).mono ?_
  rintro e w' ⟨v, rfl, O, T⟩
  obtain ⟨a, c, rfl, hc, _⟩ := own_len O
  exact ⟨⟨a, c, rfl, hc⟩, T⟩
theorem b2_all2 (h : B2 V w X n bx Y m bY) (hm : m ≤ 200) {q : Nat} (hq : bY.all.length = q) : Calls Tryz.prog 21 #[ptr Y] w fun e w' => (∃ a c, e = .returned (.slice a q c) ∧ q ≤ c) ∧ Below w.heap.size w w' := by
  subst hq
  obtain ⟨χ, hf, h1, h2⟩ := h
  refine (all_of h2 hm).mono ?_
  rintro e w' ⟨v, rfl, O, T⟩
  obtain ⟨a, c, rfl, hc, _⟩ := own_len O
  exact ⟨⟨a, c, rfl, hc⟩, T⟩
end
/-- A book that was filled with the first i of a row of curves. -/
structure Fil (bw : Bk) (R : Int) (L : List Cv) (i : Nat) : Prop where
  rate : bw.R = R
  none : bw.G = []
  cvs : List.Perm (cvsK bw.L) (L.take i)
  ids : ∀ k ∈ idsK bw.L, 0 ≤ k ∧ k < i
theorem Fil.all {bw : Bk} {R : Int} {L : List Cv} {i : Nat} (h : Fil bw R L i) : List.Perm bw.all (L.take i) := by
  have e : bw.all = cvsK bw.L := by unfold Bk.all; rw [h.none]; rfl
  rw [e]; exact h.cvs
theorem Fil.step {bw : Bk} {R : Int} {L : List Cv} {i : Nat} {x : Cv} (h : Fil bw R L i) (hx : L[i]? = some x) (hn : Nt x) (hk : kB L R = true) (hw : ∀ c ∈ L, c.word) : bw.putE (i : Int) x = 0 ∧ Fil (bw.put (i : Int) x) R L (i + 1) := by
  have hlt : i < L.length := (List.getElem?_eq_some_iff.1 hx).1
  have e1 : L.take (i + 1) = L.take i ++ [x] := by
    rw [List.take_succ_eq_append_getElem hlt]
    rw [List.getElem?_eq_getElem hlt] at hx
    rw [Option.some.inj hx]
  have hno : bw.has (i : Int) = false := by
    cases hh : bw.has (i : Int) with
    | false => rfl
    | true => have := h.ids _ (hasK_iff.1 hh); omega
  have hp : List.Perm (x :: bw.all) (L.take (i + 1)) := by
    rw [e1]
    exact (h.all.cons x).trans (List.perm_append_comm (l₁ := [x]))
  have hkb : kB (x :: bw.all) bw.R = true := by
    rw [h.rate, kB_perm hp]
    exact kB_sub hw (List.take_sublist _ _) hk
  have he := putE_ok hn.2.1 hno hkb
  refine ⟨he, ?_⟩
  have e2 : bw.put (i : Int) x = ⟨bw.R, insK bw.L (i : Int) x, bw.G⟩ := by
    unfold Bk.put
    rw [if_pos he]
    unfold Bk.note
    rw [if_neg hn.2.2]
  rw [e2]
  refine ⟨h.rate, h.none, ?_, fun k hk => ?_⟩
  · rw [e1]
    exact ((insK_perm bw.L (i : Int) x).map _).trans ((h.cvs.cons x).trans (List.perm_append_comm (l₁ := [x])))
  · rcases ids_insK.1 hk with rfl | hk
    · omega
    · have := h.ids k hk; omega
set_option maxHeartbeats 40000000 in
set_option maxRecDepth 100000 in
theorem AdmitLess_walk (R : Int) (a : Option Addr) (n c : Nat) (xs : Nat → Ac) (x : Cv) (less more : Int) (id : Int) (V0 : World) (hR : Word R) (hI : IsRow aV 6 V0 a n c xs) (hok : ∀ i, (xs i).ok) (hcm : c ≤ maxLen) (hx : x.word) (hle : 0 ≤ less ∧ less < 65536) (hmo : 0 ≤ more ∧ more < 65536) (hid : I64 id) :
    Calls Tryz.prog 5 #[eU R, .slice a n c, .agg (cA x), .int .u16 less, .int .u16 more, eI id] V0 fun e w' => e = .returned (.bool true) ∧ Below V0.heap.size V0 w' := by
  have hLg := fun W => long_any (a := a) hI.1 W
  have hA := fun W => awake_any W
  by_cases hn : 60 < n
  · rw [decide_eq_true hn] at hLg
    go_enter Tryz.func5, Tryz.ntmps5
    go_wp2_with (first
      | (refine wl_box 25 rfl rfl rfl ?_; intro w1 X1 T1)
      | (go_at_call 19; (with_reducible refine (hA _).mono ?_); rintro e w2 ⟨rfl, T2⟩)
      | (go_at_call 6; (with_reducible refine (hLg _).mono ?_); rintro e w3 ⟨rfl, rfl⟩))
    go_ret
    exact ⟨rfl, ups T1 T2 T1.size⟩
  rw [decide_eq_false hn] at hLg
  by_cases hb : 1 ≤ R ∧ R ≤ 1048576
  · go_enter Tryz.func5, Tryz.ntmps5
    go_upto_region 8 with (first
      | (refine wl_box 25 rfl rfl rfl ?_; intro w1 X1 T1; have hPl := fun W (hW : Below w1.heap.size w1 W) => played_any a n c xs R hR hb w1 W hW (hI.below T1) hok hcm (by omega))
      | (go_at_call 19; (with_reducible refine (hA _).mono ?_); rintro e w2 ⟨rfl, T2⟩; have hP2 := hPl w2 T2)
      | (go_at_call 6; (with_reducible refine (hLg _).mono ?_); rintro e w3 ⟨rfl, rfl⟩)
      | (go_at_call 20; (with_reducible refine hP2.mono ?_); rintro e w4 ⟨C, b, rfl, hbR, H4⟩; have hp := ptr_eq C))
    have X4 := X1.below H4.world
    clear hPl hP2 hI hok hA hLg
    go_upto_region 9 with (first
      | (refine wl_run (xl_load 25 X4 rfl rfl Tryz.underlying25 rfl size25 (by omega : 0 + 3 ≤ 3) (cA_all _)) rfl ?_)
      | (refine wl_alloc 25 rfl rfl zero25 ?_; intro w5 X5 T5; have Y5 := X4.below T5)
      | (refine wl_store 25 X5 rfl rfl rfl rfl size25 rfl (by omega : 0 + 3 ≤ 3) (cA_one _) (spl_cc _ _) ?_; intro w6 X6 K6; have Y6 := K6.box Y5 (Nat.ne_of_lt X4.lt); have d0 : w6.cell? ⟨V0.heap.size, 0, none⟩ = some (eU x.f) := Y6.cell 0; have d1 : w6.cell? ⟨V0.heap.size, 1, none⟩ = some (eU x.l) := Y6.cell 1; have d2 : w6.cell? ⟨V0.heap.size, 2, none⟩ = some (eU x.r) := Y6.cell 2))
    have hro : 0 ≤ x.r - min x.r less ∧ x.r - min x.r less ≤ x.r := by have := hx.2.2.1; omega
    have hrw : IntKind.u64.wrap (x.r - min x.r less) = x.r - min x.r less := u64_id (by have := hx.2.2; unfold Word at this; omega)
    obtain ⟨ro, hroe⟩ : ∃ ro, x.r - min x.r less = ro := ⟨_, rfl⟩
    rw [hroe] at hro
    have wro : Word ro := ⟨hro.1, by have := hx.2.2.2; omega⟩
    rw [hroe] at hrw
    have hs2 : (cA x).setIfInBounds 2 (eU ro) = cA ⟨x.f, x.l, ro⟩ := rfl
    have T6 : Below w4.heap.size w4 w6 := K6.up T5 (Nat.le_refl _)
    go_upto_if 44 with (first
      | (refine wl_put 22 (v := eU ro) X6 rfl rfl rfl rfl rfl rfl size22 (by decide : 2 < 3) hs2 ?_; intro w7 X7 K7; have Y7 := K7.box Y6 (Nat.ne_of_lt X4.lt); have e0 : w7.cell? ⟨V0.heap.size, 0, none⟩ = some (eU x.f) := Y7.cell 0; have e1 : w7.cell? ⟨V0.heap.size, 1, none⟩ = some (eU x.l) := Y7.cell 1))
    have T7 : Below w4.heap.size w4 w7 := K7.up T6 (Nat.le_refl _)
    clear d0 d1 d2 K7 T6 Y6 X6 K6 T5 X5 Y5
    go_cut [] from 45 to 53 (fun wx => ∃ y : Cv, y.word ∧ Less y x ∧ Box wx w4.heap.size (cA y) 25 ∧ Box wx V0.heap.size (cA x) 25 ∧ Below w4.heap.size w4 wx)
    case first =>
      by_cases hl : 0 < x.l
      · have hfo : 0 ≤ x.f - min x.f less ∧ x.f - min x.f less ≤ x.f := by have := hx.1.1; omega
        have hfw : IntKind.u64.wrap (x.f - min x.f less) = x.f - min x.f less := u64_id (by have := hx.1; unfold Word at this; omega)
        obtain ⟨fo, hfoe⟩ : ∃ fo, x.f - min x.f less = fo := ⟨_, rfl⟩
        rw [hfoe] at hfo
        have wfo : Word fo := ⟨hfo.1, by have := hx.1.2; omega⟩
        rw [hfoe] at hfw
        have hs0 : (cA ⟨x.f, x.l, ro⟩).setIfInBounds 0 (eU fo) = cA ⟨fo, x.l, ro⟩ := rfl
        go_wp2_with (first
          | (refine wl_put 22 (v := eU fo) X7 rfl rfl rfl rfl rfl rfl size22 (by decide : 0 < 3) hs0 ?_; intro w8 X8 K8))
        go_meet
        exact ⟨⟨fo, x.l, ro⟩, ⟨wfo, hx.2.1, wro⟩, ⟨rfl, hfo.2, hro.2⟩, X8, K8.box Y7 (Nat.ne_of_lt X4.lt), K8.up T7 (Nat.le_refl _)⟩
      · go_wp2_with fail
        go_meet
        exact ⟨⟨x.f, x.l, ro⟩, ⟨hx.1, hx.2.1, wro⟩, ⟨rfl, Int.le_refl _, hro.2⟩, X7, Y7, T7⟩
    case rest =>
    obtain ⟨y, hyw, hyl, Yy, Yx, Tc⟩ := hcut
    rename World => wb
    clear X7 Y7 e0 e1 T7 hs2 hrw hroe hro
    have hB4 : ∃ χ, Bo w4 χ 1 C 60 b := by obtain ⟨χ, _, h⟩ := H4; exact ⟨χ, h⟩
    obtain ⟨χb, hBo⟩ := hB4
    have W4 := ups T1 H4.world T1.size
    have hF := H4.fit
    clear X4 X1 H4
    obtain ⟨fc, hfc⟩ : ∃ fc, b.fits x = fc := ⟨_, rfl⟩
    have hfx := fun W (hW : Below w4.heap.size w4 W) => fits_any (hBo.below hW) (by omega) hx
    simp only [hfc] at hfx
    go_upto_region 12 with fail
    go_cut [66] from 54 to 66 (fun s66 wx => s66 = .bool false ∧ Below wb.heap.size wb wx)
    case first =>
      have hMy : ∀ W, Calls Tryz.prog 23 #[.agg (cA y)] W fun e w' => e = .returned (.bool (mB y)) ∧ Below W.heap.size W w' := fun W => may_any y.f y.l y.r W hyw.1 hyw.2.1 hyw.2.2
      have hfy := fun W (hW : Below w4.heap.size w4 W) => fits_any (hBo.below hW) (by omega) hyw
      have hlf := fun h => fits_less (b := b) hyw hyl h
      rw [hfc] at hlf
      cases fc with
      | false =>
        go_wp2_with (first
          | (refine wl_run (xl_load 25 Yx rfl rfl Tryz.underlying25 rfl size25 (by omega : 0 + 3 ≤ 3) (cA_all _)) rfl ?_; have hf1 := hfx _ Tc)
          | (go_at_call 25; (with_reducible refine hf1.mono ?_); rintro e wd ⟨rfl, Td⟩))
        go_meet
        exact ⟨rfl, Td⟩
      | true =>
        cases hmy : mB y with
        | false =>
          simp only [hmy] at hMy
          clear hlf hfy
          go_wp2_with (first
            | (refine wl_run (xl_load 25 Yx rfl rfl Tryz.underlying25 rfl size25 (by omega : 0 + 3 ≤ 3) (cA_all _)) rfl ?_; have hf1 := hfx _ Tc)
            | (go_at_call 25; (with_reducible refine hf1.mono ?_); rintro e wd ⟨rfl, Td⟩; have Yd := Yy.below Td)
            | (refine wl_run (xl_load 25 Yd rfl rfl Tryz.underlying25 rfl size25 (by omega : 0 + 3 ≤ 3) (cA_all _)) rfl ?_)
            | (go_at_call 23; (with_reducible refine (hMy _).mono ?_); rintro e we ⟨rfl, Te⟩))
          go_meet
          exact ⟨rfl, ups Td Te Td.size⟩
        | true =>
          simp only [hmy] at hMy
          have hfo := hlf rfl hmy
          simp only [hfo] at hfy
          clear hlf hfo
          go_wp2_with (first
            | (refine wl_run (xl_load 25 Yx rfl rfl Tryz.underlying25 rfl size25 (by omega : 0 + 3 ≤ 3) (cA_all _)) rfl ?_; have hf1 := hfx _ Tc)
            | (go_at_call 25; (with_reducible refine hf1.mono ?_); rintro e wd ⟨rfl, Td⟩; have Yd := Yy.below Td)
            | (refine wl_run (xl_load 25 Yd rfl rfl Tryz.underlying25 rfl size25 (by omega : 0 + 3 ≤ 3) (cA_all _)) rfl ?_)
            | (go_at_call 23; (with_reducible refine (hMy _).mono ?_); rintro e we ⟨rfl, Te⟩; have Se := ups Td Te Td.size; have Ye := Yd.below Te; have hf2 := hfy _ (ups Tc Se Tc.size))
            | (refine wl_run (xl_load 25 Ye rfl rfl Tryz.underlying25 rfl size25 (by omega : 0 + 3 ≤ 3) (cA_all _)) rfl ?_)
            | (go_at_call 25; (with_reducible refine hf2.mono ?_); rintro e wf ⟨rfl, Tf⟩))
          go_meet
          exact ⟨rfl, ups Se Tf Se.size⟩
    case rest =>
    obtain ⟨rfl, Tc2⟩ := hcut
    rename World => wd
    have S1 : Below w4.heap.size w4 wd := ups Tc Tc2 Tc.size
    have Z0 := Yx.below Tc2
    have hkp := hF.kept
    have hwords := hF.words
    have hnt := hF.all
    have hlen : b.all.length ≤ 60 := by have := hF.few; rw [Bk.all_len]; omega
    rw [hbR] at hkp
    clear Yy Yx hyl hyw Tc Tc2
    obtain ⟨R2, hR2⟩ : ∃ R2, min 1048576 (R + more) = R2 := ⟨_, rfl⟩
    have hb2 : (1 ≤ R2 ∧ R2 ≤ 1048576) ∧ R ≤ R2 := by omega
    have hmw : IntKind.u64.wrap (R + more) = R + more := u64_id (by omega)
    have hN := bn_new (V0 := wd) (w := wd) (R := R2) ⟨by omega, by omega⟩ (Below.refl _ wd)
    simp only [if_pos hb2.1] at hN
    have hfxh := Lib.hid hfx
    obtain ⟨L, hL⟩ : ∃ L, b.all = L := ⟨_, rfl⟩
    obtain ⟨N, hNe⟩ : ∃ N, L.length = N := ⟨_, rfl⟩
    rw [hL] at hkp
    have hkL := Lib.hid (kB_rate hb2.2 hkp)
    have hfcx : Hid (fc = true → mB x = true ∧ kB (x :: L) R2 = true) := Lib.hid (fun h => by
      rw [h] at hfc
      unfold Bk.fits at hfc
      rw [Bool.and_eq_true, hbR, hL] at hfc
      exact ⟨hfc.1, kB_rate hb2.2 hfc.2⟩)
    rw [hL] at hnt hwords hlen
    rw [hNe] at hlen
    have hnth := Lib.hid hnt
    have hwoh := Lib.hid hwords
    have hAl := fun W (hW : Below w4.heap.size w4 W) => all_of (hBo.below hW) (by omega)
    rw [hL, hNe] at hAl
    clear hfx hfc hkp hnt hwords hF hL hbR
    go_upto_region 19 with (first
      | (go_at_call 7; (with_reducible refine hN.mono ?_); rintro e we ⟨Wd, rfl, He⟩; have S2 := ups S1 He.world S1.size; have Z1 := Z0.below He.world; have hA2 := hAl _ S2)
      | (go_at_call 21; (with_reducible refine hA2.mono ?_); rintro e wf ⟨v17, rfl, O17, T17⟩))
    have hBr := Br.make He O17 T17
    obtain ⟨a17, c17, rfl, hc17, _⟩ := own_len O17
    have hN1 : (N : Int) ≤ (c17 : Int) := by omega
    have hFil0 : Fil ⟨R2, [], []⟩ R2 L 0 := ⟨rfl, rfl, .refl _, fun k hk => by cases hk⟩
    have hWd : Below wd.heap.size wd wf := He.world.trans (T17.mono He.world.size)
    clear hN hA2 O17 T17 He Z1 S2 hAl
    go_loopw [18] (fun s18 wr => ∃ i : Nat, s18 = .int .i64 i ∧ i ≤ N ∧ ∃ bw, Fil bw R2 L i ∧ Br wd wr Wd i bw (.slice a17 N c17) N L) (fun s18 _ => N - (intOf s18).toNat)
    case atStart => exact ⟨0, rfl, by omega, _, hFil0, hBr⟩
    case round =>
      clear hBr hFil0 hWd
      obtain ⟨i, rfl, hi, bw, hFi, hH⟩ := hrel
      rename World => wr
      by_cases hlt : i < N
      · have i1 : (i : Int) < (N : Int) := by omega
        have i2 : (0 : Int) ≤ (i : Int) := by omega
        have hw1 : IntKind.i64.wrap ((i : Int) + 1) = (i : Int) + 1 := i64_id (by omega)
        obtain ⟨cc, hcc⟩ : ∃ cc, L[i]? = some cc := ⟨_, List.getElem?_eq_getElem (by omega)⟩
        obtain ⟨hE, hFi2⟩ := hFi.step hcc (hnth.out cc (List.mem_of_getElem? hcc)) hkL.out hwoh.out
        have hP := br_put hH (by omega) (k := (i : Int)) ⟨by omega, by omega⟩ ((hnth.out cc (List.mem_of_getElem? hcc)).1) hE
        have hrow := hH.row
        obtain ⟨g, cap, e, _⟩ := (own_form hrow).resolve_left (by omega)
        cases e
        replace hcc := Lib.hid hcc
        have hFh := Lib.hid hFi2
        clear hE hFi hFi2
        go_wp2_with (first
          | (refine wl_run (xl_loadC (own_range hrow hcc.out) rfl rfl) rfl ?_)
          | (go_at_call 9; (with_reducible refine hP.mono ?_); rintro e wg ⟨rfl, Hg⟩))
        exact ⟨⟨i + 1, rfl, by omega, _, hFh.out, Hg⟩, by simp [intOf]; omega⟩
      · have i1 : ¬ (i : Int) < (N : Int) := by omega
        obtain rfl : i = N := by omega
        have hWr := hH.bn.world
        have S3 := ups S1 hWr S1.size
        have Z3 := Z0.below hWr
        have hff : fc = true → bw.fits x = true := fun h => by
          obtain ⟨q1, q2⟩ := hfcx.out h
          unfold Bk.fits
          rw [q1, hFi.rate, Bool.true_and]
          have hp := hFi.all
          rw [List.take_of_length_le (by omega)] at hp
          rw [kB_perm (hp.cons x)]
          exact q2
        have hffh := Lib.hid hff
        have hBn := hH.bn
        clear hff hFi hH hlt
        go_upto_region 23 with fail
        go_cut [102] from 94 to 102 (fun s102 wx => s102 = .bool false ∧ Below wr.heap.size wr wx)
        case first =>
          have hf1 := hfxh.out _ S3
          cases fc with
          | false =>
            go_wp2_with (first
              | (refine wl_run (xl_load 25 Z3 rfl rfl Tryz.underlying25 rfl size25 (by omega : 0 + 3 ≤ 3) (cA_all _)) rfl ?_)
              | (go_at_call 25; (with_reducible refine hf1.mono ?_); rintro e wg ⟨rfl, Tg⟩))
            go_meet
            exact ⟨rfl, Tg⟩
          | true =>
            have hw := hffh.out rfl
            go_wp2_with (first
              | (refine wl_run (xl_load 25 Z3 rfl rfl Tryz.underlying25 rfl size25 (by omega : 0 + 3 ≤ 3) (cA_all _)) rfl ?_)
              | (go_at_call 25; (with_reducible refine hf1.mono ?_); rintro e wg ⟨rfl, Tg⟩; have Z4 := Z3.below Tg; have hf2 := bn_fits (hBn.below Tg) (by omega) hx hw)
              | (refine wl_run (xl_load 25 Z4 rfl rfl Tryz.underlying25 rfl size25 (by omega : 0 + 3 ≤ 3) (cA_all _)) rfl ?_)
              | (go_at_call 25; (with_reducible refine hf2.mono ?_); rintro e wh ⟨rfl, Th⟩))
            go_meet
            exact ⟨rfl, ups Tg Th Tg.size⟩
        case rest =>
        obtain ⟨rfl, Tr⟩ := hcut
        rename World => ws
        have S4 := ups S3 Tr S3.size
        have Z4 := Z3.below Tr
        have hB4 := hBo.below S4
        have hC1 := copy_any hB4 (by omega) 1
        obtain ⟨ex, hex⟩ : ∃ ex, b.swpE id x false = ex := ⟨_, rfl⟩
        have hex2 : (b.drop id false).putE id x = ex := by rw [← swp_put, hex]
        obtain ⟨bp, hbp⟩ : ∃ bp, b.swp id x false = bp := ⟨_, rfl⟩
        have hbp2 : ex = 0 → (b.drop id false).put id x = bp := fun h => by rw [← hbp, swp_put2 (by rw [hex]; exact h)]
        have hbph := Lib.hid hbp2
        obtain ⟨q, hq⟩ : ∃ q, bp.all.length = q := ⟨_, rfl⟩
        have W5 : Below V0.heap.size V0 ws := ups W4 S4 W4.size
        clear hbp2 hBn hffh hfcx hfxh hB4 S3 Z3 Z0 hWr
        go_upto_region 26 with (first
          | (go_at_call 17; (with_reducible refine hC1.mono ?_); rintro e wt ⟨X, rfl, BX, Tx⟩; have hC2 := copy_any ((hBo.below S4).below Tx) (by omega) 2)
          | (go_at_call 17; (with_reducible refine hC2.mono ?_); rintro e wu ⟨Y, rfl, BY, Ty⟩))
        have hD := b2_make BX Tx BY Ty
        have Z5 := (Z4.below Tx).below Ty
        have hSw := b2_swap hD (by omega) hid hx false hex
        rw [hbp] at hSw
        clear hC1 hC2 BX BY
        go_upto_region 29 with (first
          | (refine wl_run (xl_load 25 Z5 rfl rfl Tryz.underlying25 rfl size25 (by omega : 0 + 3 ≤ 3) (cA_all _)) rfl ?_)
          | (go_at_call 11; (with_reducible refine hSw.mono ?_); rintro e wv ⟨rfl, D1⟩; have hDr := b2_drop D1 (by omega) hid false; have Z6 := Z4.below D1.world)
          | (go_at_call 14; (with_reducible refine hDr.mono ?_); rintro e ww ⟨rfl, D2⟩; have hPu := b2_put D2 (by omega) hid hx hex2; have Z7 := Z4.below D2.world)
          | (refine wl_run (xl_load 25 Z7 rfl rfl Tryz.underlying25 rfl size25 (by omega : 0 + 3 ≤ 3) (cA_all _)) rfl ?_)
          | (go_at_call 9; (with_reducible refine hPu.mono ?_); rintro e wx ⟨rfl, D3⟩))
        have S6 : Below V0.heap.size V0 wx := ups W5 D3.world W5.size
        by_cases h0 : ex = 0
        · have hbe := hbph.out h0
          rw [hbe] at D3
          subst h0
          have hA1 := b2_all1 D3 (by omega) hq
          clear hex hex2 hbe hSw hDr hPu hD D1 D2
          go_wp2_with (first
            | (go_at_call 21; (with_reducible refine hA1.mono ?_); rintro e wy ⟨⟨a1, c1, rfl, h1⟩, Ty1⟩; have hA2 := b2_all2 (D3.below Ty1) (by omega) hq)
            | (go_at_call 21; (with_reducible refine hA2.mono ?_); rintro e wz ⟨⟨a2, c2, rfl, h2⟩, Ty2⟩))
          go_ret
          exact ⟨by simp, ups (ups S6 Ty1 S6.size) Ty2 (ups S6 Ty1 S6.size).size⟩
        · have hn0 : (ex != 0) = true := by simpa using h0
          clear hex hex2 hSw hDr hPu hD D1 D2
          go_wp2_with fail
          go_ret
          exact ⟨by simp [h0], S6⟩
  · have hPl := fun W => played_bad a n c R hR hb W
    clear hb
    go_enter Tryz.func5, Tryz.ntmps5
    go_wp2_with (first
      | (refine wl_box 25 rfl rfl rfl ?_; intro w1 X1 T1)
      | (go_at_call 19; (with_reducible refine (hA _).mono ?_); rintro e w2 ⟨rfl, T2⟩; have hp := nil_eq)
      | (go_at_call 6; (with_reducible refine (hLg _).mono ?_); rintro e w3 ⟨rfl, rfl⟩)
      | (go_at_call 20; (with_reducible refine (hPl _).mono ?_); rintro e w4 ⟨rfl, rfl⟩))
    go_ret
    exact ⟨rfl, ups T1 T2 T1.size⟩
end Go.Proofs.YtjbpaapglamilaaGreat.H
