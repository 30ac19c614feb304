/- A curve's word and a spec's text, as the document tells them. Condition: the numbers are what the fields can hold. -/
import Derived.Test.YtkcmfcgoknhodaaDoorSrW
namespace Go.Proofs.YtkcmfcgoknhodaaDoor
open Go.RowKit Go.Lib W
set_option linter.unusedVariables false
theorem NumI_any (x : Int) (hx : Word x) (w : World) : Calls Tryd.prog 13 #[.int .u64 x] w fun e w' => e = .returned (.string (dec x.toNat)) ∧ Below w.heap.size w w' := by
  obtain ⟨u, rfl⟩ : ∃ u : Nat, x = (u : Int) := ⟨x.toNat, by have := hx.1; omega⟩
  rw [Int.toNat_natCast]
  exact Number_any u (by have := hx.2; omega) w
set_option maxHeartbeats 4000000 in
set_option maxRecDepth 100000 in
theorem drawn_of (f l r : Int) (a0 a1 a2 D1 D2 D3 D4 : ByteArray) (w : World)
    (h0 : ∀ w, Calls Tryd.prog 13 #[.int .u64 f] w fun e w' => e = .returned (.string a0) ∧ Below w.heap.size w w')
    (h1 : ∀ w, Calls Tryd.prog 13 #[.int .u64 l] w fun e w' => e = .returned (.string a1) ∧ Below w.heap.size w w')
    (h2 : ∀ w, Calls Tryd.prog 13 #[.int .u64 r] w fun e w' => e = .returned (.string a2) ∧ Below w.heap.size w w')
    (k1 : ∀ W, (Op.stringOp .add a0 (⟨#[47]⟩ : ByteArray)).run Tryd.prog W = .ok (.string D1) W)
    (k2 : ∀ W, (Op.stringOp .add D1 a1).run Tryd.prog W = .ok (.string D2) W)
    (k3 : ∀ W, (Op.stringOp .add D2 (⟨#[47]⟩ : ByteArray)).run Tryd.prog W = .ok (.string D3) W)
    (k4 : ∀ W, (Op.stringOp .add D3 a2).run Tryd.prog W = .ok (.string D4) W) :
    Calls Tryd.prog 14 #[.agg #[.int .u64 f, .int .u64 l, .int .u64 r]] w fun e w' => e = .returned (.string D4) ∧ Below w.heap.size w w' := by
  have B := Bl.new w 24 #[.int .u64 f, .int .u64 l, .int .u64 r]
  have T := up1 w (.cells #[.int .u64 f, .int .u64 l, .int .u64 r] 24)
  go_enter Tryd.func14, Tryd.ntmps14
  go_upto_region 1 with (fail)
  generalize w.alloc (.cells #[.int .u64 f, .int .u64 l, .int .u64 r] 24) = W1 at B T ⊢
  have E := (Below.refl W1.heap.size W1).drew
  go_region_held3 (fun w' => w'.cell? ⟨w.heap.size, 0, none⟩ = some (.int .u64 f) ∧ w'.cell? ⟨w.heap.size, 1, none⟩ = some (.int .u64 l) ∧ w'.cell? ⟨w.heap.size, 2, none⟩ = some (.int .u64 r))
    (first | exact ⟨B.cell 0, B.cell 1, B.cell 2⟩ | exact ⟨(B.below E).cell 0, (B.below E).cell 1, (B.below E).cell 2⟩)
    (first
      | (go_at_call 13; (with_reducible refine (h0 _).mono ?_); rintro e v1 ⟨rfl, hb⟩; replace E := sps E hb E.size; clear hb)
      | (go_at_call 13; (with_reducible refine (h1 _).mono ?_); rintro e v2 ⟨rfl, hb⟩; replace E := sps E hb E.size; clear hb)
      | (go_at_call 13; (with_reducible refine (h2 _).mono ?_); rintro e v3 ⟨rfl, hb⟩; replace E := sps E hb E.size; clear hb))
  all_goals
    go_wp2
    go_ret
    exact ⟨rfl, sps T E T.size⟩
theorem drawn_any (c : Cw) (h : c.ok) (w : World) :
    Calls Tryd.prog 14 #[.agg #[.int .u64 c.f, .int .u64 c.l, .int .u64 c.r]] w fun e w' => e = .returned (.string (bs (wordT c))) ∧ Below w.heap.size w w' := by
  obtain ⟨w0, w1, w2⟩ := h
  have s0 := dec_short c.f.toNat (by have := w0.2; have := w0.1; omega)
  have s1 := dec_short c.l.toNat (by have := w1.2; have := w1.1; omega)
  have s2 := dec_short c.r.toNat (by have := w2.2; have := w2.1; omega)
  have e : wordT c = ((((decDigits c.f.toNat ++ [47]) ++ decDigits c.l.toNat) ++ [47]) ++ decDigits c.r.toNat) := by simp [wordT, partsT, gl]
  rw [e]
  exact drawn_of c.f c.l c.r _ _ _ _ _ _ _ w (fun w => NumI_any c.f w0 w) (fun w => NumI_any c.l w1 w) (fun w => NumI_any c.r w2 w)
    (add_of (decDigits c.f.toNat) [47] (by omega) (by simp)) (add_of _ (decDigits c.l.toNat) (by simp; omega) (by omega)) (add_of _ [47] (by simp; omega) (by simp)) (add_of _ (decDigits c.r.toNat) (by simp; omega) (by omega))
set_option maxHeartbeats 16000000 in
set_option maxRecDepth 100000 in
theorem rText_of (ii qq pk bt : Int) (lf : Bool) (re sh uu : Cw) (s0 s1 s2 s3 s4 s5 s6 s7 D1 D2 D3 D4 D5 D6 D7 D8 D9 D10 D11 D12 D13 D14 : ByteArray) (w : World)
    (g1 : 0 ≤ ii) (g2 : 0 ≤ qq) (g3 : 0 ≤ pk) (g4 : 0 ≤ bt) (m1 : ii < 9223372036854775808) (m2 : qq < 9223372036854775808) (m3 : pk < 9223372036854775808) (m4 : bt < 9223372036854775808) (hs0 : s0 = if lf then ⟨#[108, 101, 97, 102, 32]⟩ else ⟨#[105, 110, 110, 101, 114, 32]⟩)
    (h1 : ∀ w, Calls Tryd.prog 13 #[.int .u64 ii] w fun e w' => e = .returned (.string s1) ∧ Below w.heap.size w w')
    (h2 : ∀ w, Calls Tryd.prog 13 #[.int .u64 qq] w fun e w' => e = .returned (.string s2) ∧ Below w.heap.size w w')
    (h3 : ∀ w, Calls Tryd.prog 14 #[.agg #[.int .u64 re.f, .int .u64 re.l, .int .u64 re.r]] w fun e w' => e = .returned (.string s3) ∧ Below w.heap.size w w')
    (h4 : ∀ w, Calls Tryd.prog 14 #[.agg #[.int .u64 sh.f, .int .u64 sh.l, .int .u64 sh.r]] w fun e w' => e = .returned (.string s4) ∧ Below w.heap.size w w')
    (h5 : ∀ w, Calls Tryd.prog 14 #[.agg #[.int .u64 uu.f, .int .u64 uu.l, .int .u64 uu.r]] w fun e w' => e = .returned (.string s5) ∧ Below w.heap.size w w')
    (h6 : ∀ w, Calls Tryd.prog 13 #[.int .u64 pk] w fun e w' => e = .returned (.string s6) ∧ Below w.heap.size w w')
    (h7 : ∀ w, Calls Tryd.prog 13 #[.int .u64 bt] w fun e w' => e = .returned (.string s7) ∧ Below w.heap.size w w')
    (k1 : ∀ W, (Op.stringOp .add s0 s1).run Tryd.prog W = .ok (.string D1) W)
    (k2 : ∀ W, (Op.stringOp .add D1 (⟨#[32]⟩ : ByteArray)).run Tryd.prog W = .ok (.string D2) W)
    (k3 : ∀ W, (Op.stringOp .add D2 s2).run Tryd.prog W = .ok (.string D3) W)
    (k4 : ∀ W, (Op.stringOp .add D3 (⟨#[32]⟩ : ByteArray)).run Tryd.prog W = .ok (.string D4) W)
    (k5 : ∀ W, (Op.stringOp .add D4 s3).run Tryd.prog W = .ok (.string D5) W)
    (k6 : ∀ W, (Op.stringOp .add D5 (⟨#[32]⟩ : ByteArray)).run Tryd.prog W = .ok (.string D6) W)
    (k7 : ∀ W, (Op.stringOp .add D6 s4).run Tryd.prog W = .ok (.string D7) W)
    (k8 : ∀ W, (Op.stringOp .add D7 (⟨#[32]⟩ : ByteArray)).run Tryd.prog W = .ok (.string D8) W)
    (k9 : ∀ W, (Op.stringOp .add D8 s5).run Tryd.prog W = .ok (.string D9) W)
    (k10 : ∀ W, (Op.stringOp .add D9 (⟨#[32]⟩ : ByteArray)).run Tryd.prog W = .ok (.string D10) W)
    (k11 : ∀ W, (Op.stringOp .add D10 s6).run Tryd.prog W = .ok (.string D11) W)
    (k12 : ∀ W, (Op.stringOp .add D11 (⟨#[32]⟩ : ByteArray)).run Tryd.prog W = .ok (.string D12) W)
    (k13 : ∀ W, (Op.stringOp .add D12 s7).run Tryd.prog W = .ok (.string D13) W) :
    Calls Tryd.prog 5 #[spW ⟨ii, qq, lf, re, sh, uu, pk, bt⟩] w fun e w' => e = .returned (.tuple #[.string D13, .int .i64 0]) ∧ Below w.heap.size w w' := by
  have B := Bl.new w 26 (spA ⟨ii, qq, lf, re, sh, uu, pk, bt⟩)
  have T := up1 w (.cells (spA ⟨ii, qq, lf, re, sh, uu, pk, bt⟩) 26)
  have i1 : ¬ ii < 0 := by omega
  have i2 : ¬ qq < 0 := by omega
  have i3 : ¬ pk < 0 := by omega
  have i4 : ¬ bt < 0 := by omega
  have u1 : IntKind.u64.wrap ii = ii := by rw [IntKind.wrap_u64]; omega
  have u2 : IntKind.u64.wrap qq = qq := by rw [IntKind.wrap_u64]; omega
  have u3 : IntKind.u64.wrap pk = pk := by rw [IntKind.wrap_u64]; omega
  have u4 : IntKind.u64.wrap bt = bt := by rw [IntKind.wrap_u64]; omega
  clear g1 g2 g3 g4 m1 m2 m3 m4
  cases lf
  · simp only [if_false, Bool.false_eq_true] at hs0
    subst hs0
    go_enter Tryd.func5, Tryd.ntmps5
    go_upto_region 6 with (fail)
    generalize w.alloc (.cells (spA ⟨ii, qq, false, re, sh, uu, pk, bt⟩) 26) = W1 at B T ⊢
    have E := (Below.refl W1.heap.size W1).drew
    go_region_held3 (fun w' => SA w' w.heap.size ⟨ii, qq, false, re, sh, uu, pk, bt⟩)
      (first | with_reducible exact B.spec | with_reducible exact (B.below E).spec)
      (first
        | (go_at_call 13; (with_reducible refine (h1 _).mono ?_); rintro e v1 ⟨rfl, hb⟩; replace E := sps E hb E.size; clear hb)
        | (go_at_call 13; (with_reducible refine (h2 _).mono ?_); rintro e v2 ⟨rfl, hb⟩; replace E := sps E hb E.size; clear hb))
    replace B := B.below E
    replace T := sps T E T.size
    clear E
    go_upto_region 7 with (fail)
    have E := (Below.refl v2.heap.size v2).drew
    go_region_held3 (fun w' => SA w' w.heap.size ⟨ii, qq, false, re, sh, uu, pk, bt⟩)
      (first | with_reducible exact B.spec | with_reducible exact (B.below E).spec)
      (first
        | (go_at_call 14; (with_reducible refine (h3 _).mono ?_); rintro e v3 ⟨rfl, hb⟩; replace E := sps E hb E.size; clear hb)
        | (go_at_call 14; (with_reducible refine (h4 _).mono ?_); rintro e v4 ⟨rfl, hb⟩; replace E := sps E hb E.size; clear hb)
        | (go_at_call 14; (with_reducible refine (h5 _).mono ?_); rintro e v5 ⟨rfl, hb⟩; replace E := sps E hb E.size; clear hb))
    replace B := B.below E
    replace T := sps T E T.size
    clear E
    go_upto_region 8 with (fail)
    have E := (Below.refl v5.heap.size v5).drew
    go_region_held3 (fun w' => SA w' w.heap.size ⟨ii, qq, false, re, sh, uu, pk, bt⟩)
      (first | with_reducible exact B.spec | with_reducible exact (B.below E).spec)
      (first
        | (go_at_call 13; (with_reducible refine (h6 _).mono ?_); rintro e v6 ⟨rfl, hb⟩; replace E := sps E hb E.size; clear hb)
        | (go_at_call 13; (with_reducible refine (h7 _).mono ?_); rintro e v7 ⟨rfl, hb⟩; replace E := sps E hb E.size; clear hb))
    go_wp2
    go_ret2
    exact ⟨rfl, sps T E T.size⟩
  · simp only [if_true] at hs0
    subst hs0
    go_enter Tryd.func5, Tryd.ntmps5
    go_upto_region 6 with (fail)
    generalize w.alloc (.cells (spA ⟨ii, qq, true, re, sh, uu, pk, bt⟩) 26) = W1 at B T ⊢
    have E := (Below.refl W1.heap.size W1).drew
    go_region_held3 (fun w' => SA w' w.heap.size ⟨ii, qq, true, re, sh, uu, pk, bt⟩)
      (first | with_reducible exact B.spec | with_reducible exact (B.below E).spec)
      (first
        | (go_at_call 13; (with_reducible refine (h1 _).mono ?_); rintro e v1 ⟨rfl, hb⟩; replace E := sps E hb E.size; clear hb)
        | (go_at_call 13; (with_reducible refine (h2 _).mono ?_); rintro e v2 ⟨rfl, hb⟩; replace E := sps E hb E.size; clear hb))
    replace B := B.below E
    replace T := sps T E T.size
    clear E
    go_upto_region 7 with (fail)
    have E := (Below.refl v2.heap.size v2).drew
    go_region_held3 (fun w' => SA w' w.heap.size ⟨ii, qq, true, re, sh, uu, pk, bt⟩)
      (first | with_reducible exact B.spec | with_reducible exact (B.below E).spec)
      (first
        | (go_at_call 14; (with_reducible refine (h3 _).mono ?_); rintro e v3 ⟨rfl, hb⟩; replace E := sps E hb E.size; clear hb)
        | (go_at_call 14; (with_reducible refine (h4 _).mono ?_); rintro e v4 ⟨rfl, hb⟩; replace E := sps E hb E.size; clear hb)
        | (go_at_call 14; (with_reducible refine (h5 _).mono ?_); rintro e v5 ⟨rfl, hb⟩; replace E := sps E hb E.size; clear hb))
    replace B := B.below E
    replace T := sps T E T.size
    clear E
    go_upto_region 8 with (fail)
    have E := (Below.refl v5.heap.size v5).drew
    go_region_held3 (fun w' => SA w' w.heap.size ⟨ii, qq, true, re, sh, uu, pk, bt⟩)
      (first | with_reducible exact B.spec | with_reducible exact (B.below E).spec)
      (first
        | (go_at_call 13; (with_reducible refine (h6 _).mono ?_); rintro e v6 ⟨rfl, hb⟩; replace E := sps E hb E.size; clear hb)
        | (go_at_call 13; (with_reducible refine (h7 _).mono ?_); rintro e v7 ⟨rfl, hb⟩; replace E := sps E hb E.size; clear hb))
    go_wp2
    go_ret2
    exact ⟨rfl, sps T E T.size⟩
theorem rText_good (p : Sp) (hp : p.ok) (g : p.good) (w : World) :
    Calls Tryd.prog 5 #[spW p] w fun e w' => e = .returned (.tuple #[.string (bs (txt p)), .int .i64 0]) ∧ Below w.heap.size w w' := by
  obtain ⟨ii, qq, lf, re, sh, uu, pk, bt⟩ := p
  obtain ⟨p1, p2, p3, p4, p5, p6, p7⟩ := hp
  obtain ⟨g1, g2, g3, g4⟩ := g
  simp only at p1 p2 p3 p4 p5 p6 p7 g1 g2 g3 g4
  have la := dec_short ii.toNat (by have := p1.2; omega)
  have lb := dec_short qq.toNat (by have := p2.2; omega)
  have lc := word_short re p3
  have ld := word_short sh p4
  have le := word_short uu p5
  have lg := dec_short pk.toNat (by have := p6.2; omega)
  have lh := dec_short bt.toNat (by have := p7.2; omega)
  have l0 : (firstT lf ++ [32]).length ≤ 6 := by cases lf <;> decide
  have e : txt ⟨ii, qq, lf, re, sh, uu, pk, bt⟩ = (((((((((((((firstT lf ++ [32]) ++ decDigits ii.toNat) ++ [32]) ++ decDigits qq.toNat) ++ [32]) ++ wordT re) ++ [32]) ++ wordT sh) ++ [32]) ++ wordT uu) ++ [32]) ++ decDigits pk.toNat) ++ [32]) ++ decDigits bt.toNat := by
    simp [txt, wordsT, gl]
  rw [e]
  have hs0 : bs (firstT lf ++ [32]) = if lf then ⟨#[108, 101, 97, 102, 32]⟩ else ⟨#[105, 110, 110, 101, 114, 32]⟩ := by cases lf <;> rfl
  have k1 := add_of (firstT lf ++ [32]) (decDigits ii.toNat) (by simp only [List.length_append, List.length_cons, List.length_nil] at *; omega) (by first | omega | (simp only [List.length_cons, List.length_nil]; omega))
  have k2 := add_of ((firstT lf ++ [32]) ++ decDigits ii.toNat) ([32]) (by simp only [List.length_append, List.length_cons, List.length_nil] at *; omega) (by first | omega | (simp only [List.length_cons, List.length_nil]; omega))
  have k3 := add_of (((firstT lf ++ [32]) ++ decDigits ii.toNat) ++ [32]) (decDigits qq.toNat) (by simp only [List.length_append, List.length_cons, List.length_nil] at *; omega) (by first | omega | (simp only [List.length_cons, List.length_nil]; omega))
  have k4 := add_of ((((firstT lf ++ [32]) ++ decDigits ii.toNat) ++ [32]) ++ decDigits qq.toNat) ([32]) (by simp only [List.length_append, List.length_cons, List.length_nil] at *; omega) (by first | omega | (simp only [List.length_cons, List.length_nil]; omega))
  have k5 := add_of (((((firstT lf ++ [32]) ++ decDigits ii.toNat) ++ [32]) ++ decDigits qq.toNat) ++ [32]) (wordT re) (by simp only [List.length_append, List.length_cons, List.length_nil] at *; omega) (by first | omega | (simp only [List.length_cons, List.length_nil]; omega))
  have k6 := add_of ((((((firstT lf ++ [32]) ++ decDigits ii.toNat) ++ [32]) ++ decDigits qq.toNat) ++ [32]) ++ wordT re) ([32]) (by simp only [List.length_append, List.length_cons, List.length_nil] at *; omega) (by first | omega | (simp only [List.length_cons, List.length_nil]; omega))
  have k7 := add_of (((((((firstT lf ++ [32]) ++ decDigits ii.toNat) ++ [32]) ++ decDigits qq.toNat) ++ [32]) ++ wordT re) ++ [32]) (wordT sh) (by simp only [List.length_append, List.length_cons, List.length_nil] at *; omega) (by first | omega | (simp only [List.length_cons, List.length_nil]; omega))
  have k8 := add_of ((((((((firstT lf ++ [32]) ++ decDigits ii.toNat) ++ [32]) ++ decDigits qq.toNat) ++ [32]) ++ wordT re) ++ [32]) ++ wordT sh) ([32]) (by simp only [List.length_append, List.length_cons, List.length_nil] at *; omega) (by first | omega | (simp only [List.length_cons, List.length_nil]; omega))
  have k9 := add_of (((((((((firstT lf ++ [32]) ++ decDigits ii.toNat) ++ [32]) ++ decDigits qq.toNat) ++ [32]) ++ wordT re) ++ [32]) ++ wordT sh) ++ [32]) (wordT uu) (by simp only [List.length_append, List.length_cons, List.length_nil] at *; omega) (by first | omega | (simp only [List.length_cons, List.length_nil]; omega))
  have k10 := add_of ((((((((((firstT lf ++ [32]) ++ decDigits ii.toNat) ++ [32]) ++ decDigits qq.toNat) ++ [32]) ++ wordT re) ++ [32]) ++ wordT sh) ++ [32]) ++ wordT uu) ([32]) (by simp only [List.length_append, List.length_cons, List.length_nil] at *; omega) (by first | omega | (simp only [List.length_cons, List.length_nil]; omega))
  have k11 := add_of (((((((((((firstT lf ++ [32]) ++ decDigits ii.toNat) ++ [32]) ++ decDigits qq.toNat) ++ [32]) ++ wordT re) ++ [32]) ++ wordT sh) ++ [32]) ++ wordT uu) ++ [32]) (decDigits pk.toNat) (by simp only [List.length_append, List.length_cons, List.length_nil] at *; omega) (by first | omega | (simp only [List.length_cons, List.length_nil]; omega))
  have k12 := add_of ((((((((((((firstT lf ++ [32]) ++ decDigits ii.toNat) ++ [32]) ++ decDigits qq.toNat) ++ [32]) ++ wordT re) ++ [32]) ++ wordT sh) ++ [32]) ++ wordT uu) ++ [32]) ++ decDigits pk.toNat) ([32]) (by simp only [List.length_append, List.length_cons, List.length_nil] at *; omega) (by first | omega | (simp only [List.length_cons, List.length_nil]; omega))
  have k13 := add_of (((((((((((((firstT lf ++ [32]) ++ decDigits ii.toNat) ++ [32]) ++ decDigits qq.toNat) ++ [32]) ++ wordT re) ++ [32]) ++ wordT sh) ++ [32]) ++ wordT uu) ++ [32]) ++ decDigits pk.toNat) ++ [32]) (decDigits bt.toNat) (by simp only [List.length_append, List.length_cons, List.length_nil] at *; omega) (by first | omega | (simp only [List.length_cons, List.length_nil]; omega))
  exact rText_of ii qq pk bt lf re sh uu _ _ _ _ _ _ _ _ _ _ _ _ _ _ _ _ _ _ _ _ _ ⟨#[]⟩ w g1 g2 g3 g4 p1.2 p2.2 p6.2 p7.2 hs0
    (fun w => NumI_any ii (i64_word p1 g1) w) (fun w => NumI_any qq (i64_word p2 g2) w) (fun w => drawn_any re p3 w) (fun w => drawn_any sh p4 w) (fun w => drawn_any uu p5 w) (fun w => NumI_any pk (i64_word p6 g3) w) (fun w => NumI_any bt (i64_word p7 g4) w)
    k1 k2 k3 k4 k5 k6 k7 k8 k9 k10 k11 k12 k13
theorem rText_bad (p : Sp) (g : ¬ p.good) (w : World) :
    Calls Tryd.prog 5 #[spW p] w fun e w' => e = .returned (.tuple #[.string ⟨#[]⟩, .int .i64 2]) ∧ Below w.heap.size w w' := by
  have T := up1 w (.cells (spA p) 26)
  by_cases i1 : p.id < 0
  · go_enter Tryd.func5, Tryd.ntmps5
    go_wp2
    go_ret2
    exact ⟨rfl, T⟩
  by_cases i2 : p.par < 0
  · go_enter Tryd.func5, Tryd.ntmps5
    go_wp2
    go_ret2
    exact ⟨rfl, T⟩
  by_cases i3 : p.pk < 0
  · go_enter Tryd.func5, Tryd.ntmps5
    go_wp2
    go_ret2
    exact ⟨rfl, T⟩
  by_cases i4 : p.bt < 0
  · go_enter Tryd.func5, Tryd.ntmps5
    go_wp2
    go_ret2
    exact ⟨rfl, T⟩
  exact absurd ⟨by omega, by omega, by omega, by omega⟩ g
end Go.Proofs.YtkcmfcgoknhodaaDoor
