/- A spec's text, as the program answers it. Condition: the library's tables and errors are laid; the numbers are what the fields can hold. -/
import Derived.Test.YtkcmfcgoknhodaaGreatDoorSpB
namespace Go.Proofs.YtkcmfcgoknhodaaGreatDoor
open Go.RowKit Go.Lib W
set_option linter.unusedVariables false
abbrev spA (p : Sp) : Array Value := #[.int .i64 p.id, .int .i64 p.par, .bool p.leaf, .int .u64 p.re.f, .int .u64 p.re.l, .int .u64 p.re.r, .int .u64 p.sh.f, .int .u64 p.sh.l, .int .u64 p.sh.r, .int .u64 p.up.f, .int .u64 p.up.l, .int .u64 p.up.r, .int .i64 p.pk, .int .i64 p.bt]
abbrev spW (p : Sp) : Value := .agg #[.int .i64 p.id, .int .i64 p.par, .bool p.leaf, .int .u64 p.re.f, .int .u64 p.re.l, .int .u64 p.re.r, .int .u64 p.sh.f, .int .u64 p.sh.l, .int .u64 p.sh.r, .int .u64 p.up.f, .int .u64 p.up.l, .int .u64 p.up.r, .int .i64 p.pk, .int .i64 p.bt]
/-- The cells of the spec in block B. -/
abbrev SA (W : World) (B : Nat) (p : Sp) : Prop :=
  W.cell? ⟨B, 0, none⟩ = some (.int .i64 p.id) ∧ W.cell? ⟨B, 1, none⟩ = some (.int .i64 p.par) ∧ W.cell? ⟨B, 2, none⟩ = some (.bool p.leaf) ∧
  W.cell? ⟨B, 3, none⟩ = some (.int .u64 p.re.f) ∧ W.cell? ⟨B, 4, none⟩ = some (.int .u64 p.re.l) ∧ W.cell? ⟨B, 5, none⟩ = some (.int .u64 p.re.r) ∧
  W.cell? ⟨B, 6, none⟩ = some (.int .u64 p.sh.f) ∧ W.cell? ⟨B, 7, none⟩ = some (.int .u64 p.sh.l) ∧ W.cell? ⟨B, 8, none⟩ = some (.int .u64 p.sh.r) ∧
  W.cell? ⟨B, 9, none⟩ = some (.int .u64 p.up.f) ∧ W.cell? ⟨B, 10, none⟩ = some (.int .u64 p.up.l) ∧ W.cell? ⟨B, 11, none⟩ = some (.int .u64 p.up.r) ∧
  W.cell? ⟨B, 12, none⟩ = some (.int .i64 p.pk) ∧ W.cell? ⟨B, 13, none⟩ = some (.int .i64 p.bt)
theorem Bl.spec {W : World} {B : Nat} {p : Sp} {t : TypeId} (h : Bl W B (spA p) t) : SA W B p :=
  ⟨h.cell 0, h.cell 1, h.cell 2, h.cell 3, h.cell 4, h.cell 5, h.cell 6, h.cell 7, h.cell 8, h.cell 9, h.cell 10, h.cell 11, h.cell 12, h.cell 13⟩
def mi2 (x y : Int) : Int := if y < x then y else x
def mi4 (x y z t : Int) : Int := mi2 (mi2 (mi2 x y) z) t
theorem mi4_nn {x y z t : Int} (h1 : 0 ≤ x) (h2 : 0 ≤ y) (h3 : 0 ≤ z) (h4 : 0 ≤ t) : ¬ mi4 x y z t < 0 := by
  have k : ∀ {a b : Int}, 0 ≤ a → 0 ≤ b → 0 ≤ mi2 a b := fun ha hb => by unfold mi2; split <;> assumption
  have := k (k (k h1 h2) h3) h4
  unfold mi4
  omega
theorem mi2_le (a b : Int) : mi2 a b ≤ a ∧ mi2 a b ≤ b := by unfold mi2; split <;> omega
theorem mi4_neg {x y z t : Int} (h : ¬ (0 ≤ x ∧ 0 ≤ y ∧ 0 ≤ z ∧ 0 ≤ t)) : mi4 x y z t < 0 := by
  have a := mi2_le x y
  have b := mi2_le (mi2 x y) z
  have c := mi2_le (mi2 (mi2 x y) z) t
  unfold mi4
  omega
theorem min_four (W : World) (x y z t : Int) : (Builtin.min_ #[3, 3, 3, 3] 3 #[.int .i64 x, .int .i64 y, .int .i64 z, .int .i64 t]).run Tryz.prog W = .ok (.int .i64 (mi4 x y z t)) W := by
  simp [Builtin.min_, Builtin.min2, mi4, mi2]
  rfl
set_option maxHeartbeats 4000000 in
set_option maxRecDepth 100000 in
theorem Text_of (ii qq pk bt : Int) (lf : Bool) (re sh uu : Cw) (s0 s1 s2 s3 s4 s5 s6 s7 D : ByteArray) (w : World) (hl : Lw w)
    (g1 : 0 ≤ ii) (g2 : 0 ≤ qq) (g3 : 0 ≤ pk) (g4 : 0 ≤ bt) (hs0 : s0 = if lf then ⟨#[108, 101, 97, 102]⟩ else ⟨#[105, 110, 110, 101, 114]⟩)
    (h1 : ∀ w, Lw w → Calls Tryz.prog 18 #[.int .i64 ii] w fun e w' => e = .returned (.string s1) ∧ Below w.heap.size w w')
    (h2 : ∀ w, Lw w → Calls Tryz.prog 18 #[.int .i64 qq] w fun e w' => e = .returned (.string s2) ∧ Below w.heap.size w w')
    (h3 : ∀ w, Lw w → Calls Tryz.prog 19 #[.agg #[.int .u64 re.f, .int .u64 re.l, .int .u64 re.r]] w fun e w' => e = .returned (.string s3) ∧ Below w.heap.size w w')
    (h4 : ∀ w, Lw w → Calls Tryz.prog 19 #[.agg #[.int .u64 sh.f, .int .u64 sh.l, .int .u64 sh.r]] w fun e w' => e = .returned (.string s4) ∧ Below w.heap.size w w')
    (h5 : ∀ w, Lw w → Calls Tryz.prog 19 #[.agg #[.int .u64 uu.f, .int .u64 uu.l, .int .u64 uu.r]] w fun e w' => e = .returned (.string s5) ∧ Below w.heap.size w w')
    (h6 : ∀ w, Lw w → Calls Tryz.prog 18 #[.int .i64 pk] w fun e w' => e = .returned (.string s6) ∧ Below w.heap.size w w')
    (h7 : ∀ w, Lw w → Calls Tryz.prog 18 #[.int .i64 bt] w fun e w' => e = .returned (.string s7) ∧ Below w.heap.size w w')
    (hJ : ∀ W : World, Calls Tryz.prog 17 #[.slice (some ⟨W.heap.size, 0, none⟩) 8 8, .string ⟨#[32]⟩] (W.alloc (.cells #[.string s0, .string s1, .string s2, .string s3, .string s4, .string s5, .string s6, .string s7] 9)) fun e w' => e = .returned (.string D) ∧ Below (W.alloc (.cells #[.string s0, .string s1, .string s2, .string s3, .string s4, .string s5, .string s6, .string s7] 9)).heap.size (W.alloc (.cells #[.string s0, .string s1, .string s2, .string s3, .string s4, .string s5, .string s6, .string s7] 9)) w') :
    Calls Tryz.prog 8 #[spW ⟨ii, qq, lf, re, sh, uu, pk, bt⟩] w fun e w' => e = .returned (.tuple #[.string D, .int .i64 0]) ∧ Below w.heap.size w w' := by
  have B := Bl.new w 26 (spA ⟨ii, qq, lf, re, sh, uu, pk, bt⟩)
  have T := up1 w (.cells (spA ⟨ii, qq, lf, re, sh, uu, pk, bt⟩) 26)
  have L := hl.below T
  have hmin := fun W => min_four W ii qq pk bt
  have hm1 := mi4_nn g1 g2 g3 g4
  generalize mi4 ii qq pk bt = m at hmin hm1
  clear hl g1 g2 g3 g4
  cases lf
  · simp only [if_false, Bool.false_eq_true] at hs0
    subst hs0
    go_enter Tryz.func8, Tryz.ntmps8
    go_upto_region 6 with (fail)
    generalize w.alloc (.cells (spA ⟨ii, qq, false, re, sh, uu, pk, bt⟩) 26) = W1 at B T L ⊢
    clear hmin hm1
    have E := (Below.refl W1.heap.size W1).drew
    go_region_held3 (fun w' => SA w' w.heap.size ⟨ii, qq, false, re, sh, uu, pk, bt⟩)
      (first | exact B.spec | exact (B.below E).spec | exact ((B.below E).alloc _).spec)
      (first
        | (go_at_call 18; (with_reducible refine (h1 _ (L.below E)).mono ?_); rintro e v1 ⟨rfl, hb⟩; replace E := sps E hb E.size; clear hb)
        | (go_at_call 18; (with_reducible refine (h2 _ (L.below E)).mono ?_); rintro e v2 ⟨rfl, hb⟩; replace E := sps E hb E.size; clear hb)
        | (go_at_call 19; (with_reducible refine (h3 _ (L.below E)).mono ?_); rintro e v3 ⟨rfl, hb⟩; replace E := sps E hb E.size; clear hb)
        | (go_at_call 19; (with_reducible refine (h4 _ (L.below E)).mono ?_); rintro e v4 ⟨rfl, hb⟩; replace E := sps E hb E.size; clear hb)
        | (go_at_call 19; (with_reducible refine (h5 _ (L.below E)).mono ?_); rintro e v5 ⟨rfl, hb⟩; replace E := sps E hb E.size; clear hb)
        | (go_at_call 18; (with_reducible refine (h6 _ (L.below E)).mono ?_); rintro e v6 ⟨rfl, hb⟩; replace E := sps E hb E.size; clear hb)
        | (go_at_call 18; (with_reducible refine (h7 _ (L.below E)).mono ?_); rintro e v7 ⟨rfl, hb⟩; replace E := sps E hb E.size; clear hb)
        | (go_at_call 17; (with_reducible refine (hJ _).mono ?_); rintro e v8 ⟨rfl, hb⟩; replace E := sps (E.alloc E.size _) hb (by have := E.size; simp; omega); clear hb))
    go_wp2
    go_ret2
    exact ⟨rfl, sps T E T.size⟩
  · simp only [if_true] at hs0
    subst hs0
    go_enter Tryz.func8, Tryz.ntmps8
    go_upto_region 6 with (fail)
    generalize w.alloc (.cells (spA ⟨ii, qq, true, re, sh, uu, pk, bt⟩) 26) = W1 at B T L ⊢
    clear hmin hm1
    have E := (Below.refl W1.heap.size W1).drew
    go_region_held3 (fun w' => SA w' w.heap.size ⟨ii, qq, true, re, sh, uu, pk, bt⟩)
      (first | exact B.spec | exact (B.below E).spec | exact ((B.below E).alloc _).spec)
      (first
        | (go_at_call 18; (with_reducible refine (h1 _ (L.below E)).mono ?_); rintro e v1 ⟨rfl, hb⟩; replace E := sps E hb E.size; clear hb)
        | (go_at_call 18; (with_reducible refine (h2 _ (L.below E)).mono ?_); rintro e v2 ⟨rfl, hb⟩; replace E := sps E hb E.size; clear hb)
        | (go_at_call 19; (with_reducible refine (h3 _ (L.below E)).mono ?_); rintro e v3 ⟨rfl, hb⟩; replace E := sps E hb E.size; clear hb)
        | (go_at_call 19; (with_reducible refine (h4 _ (L.below E)).mono ?_); rintro e v4 ⟨rfl, hb⟩; replace E := sps E hb E.size; clear hb)
        | (go_at_call 19; (with_reducible refine (h5 _ (L.below E)).mono ?_); rintro e v5 ⟨rfl, hb⟩; replace E := sps E hb E.size; clear hb)
        | (go_at_call 18; (with_reducible refine (h6 _ (L.below E)).mono ?_); rintro e v6 ⟨rfl, hb⟩; replace E := sps E hb E.size; clear hb)
        | (go_at_call 18; (with_reducible refine (h7 _ (L.below E)).mono ?_); rintro e v7 ⟨rfl, hb⟩; replace E := sps E hb E.size; clear hb)
        | (go_at_call 17; (with_reducible refine (hJ _).mono ?_); rintro e v8 ⟨rfl, hb⟩; replace E := sps (E.alloc E.size _) hb (by have := E.size; simp; omega); clear hb))
    go_wp2
    go_ret2
    exact ⟨rfl, sps T E T.size⟩
theorem first_str (lf : Bool) : bs (firstT lf) = if lf then ⟨#[108, 101, 97, 102]⟩ else ⟨#[105, 110, 110, 101, 114]⟩ := by cases lf <;> rfl
theorem join_words (p : Sp) : Lib.join (wordsT p) [32] = txt p := by
  simp [Lib.join, List.intercalate, wordsT, txt, gl]
theorem Text_good (p : Sp) (hp : p.ok) (g : p.good) (w : World) (hl : Lw w) :
    Calls Tryz.prog 8 #[spW p] w fun e w' => e = .returned (.tuple #[.string (bs (txt p)), .int .i64 0]) ∧ Below w.heap.size w w' := by
  have hsh := txt_short p hp g
  have hJ : ∀ W : World, Calls Tryz.prog 17 #[.slice (some ⟨W.heap.size, 0, none⟩) 8 8, .string ⟨#[32]⟩] (W.alloc (.cells #[.string (bs (firstT p.leaf)), .string (dec p.id.toNat), .string (dec p.par.toNat), .string (bs (wordT p.re)), .string (bs (wordT p.sh)), .string (bs (wordT p.up)), .string (dec p.pk.toNat), .string (dec p.bt.toNat)] 9)) fun e w' => e = .returned (.string (bs (txt p))) ∧ Below (W.alloc (.cells #[.string (bs (firstT p.leaf)), .string (dec p.id.toNat), .string (dec p.par.toNat), .string (bs (wordT p.re)), .string (bs (wordT p.sh)), .string (bs (wordT p.up)), .string (dec p.pk.toNat), .string (dec p.bt.toNat)] 9)).heap.size (W.alloc (.cells #[.string (bs (firstT p.leaf)), .string (dec p.id.toNat), .string (dec p.par.toNat), .string (bs (wordT p.re)), .string (bs (wordT p.sh)), .string (bs (wordT p.up)), .string (dec p.pk.toNat), .string (dec p.bt.toNat)] 9)) w' := by
    intro W
    have hX : ((wordsT p).map bs).map (·.data.toList) = wordsT p := by
      rw [List.map_map]
      have : ((fun x : ByteArray => x.data.toList) ∘ bs) = id := by funext x; simp
      rw [this, List.map_id]
    have h := Tryz.strings_Join W.heap.size 0 8 ((wordsT p).map bs) ⟨#[32]⟩ (W.alloc (.cells #[.string (bs (firstT p.leaf)), .string (dec p.id.toNat), .string (dec p.par.toNat), .string (bs (wordT p.re)), .string (bs (wordT p.sh)), .string (bs (wordT p.up)), .string (dec p.pk.toNat), .string (dec p.bt.toNat)] 9)) (fun j x hx => by
      rw [Nat.zero_add, (Bl.new W 9 _).cell j]
      match j, hx with
      | 0, hx | 1, hx | 2, hx | 3, hx | 4, hx | 5, hx | 6, hx | 7, hx => simp [wordsT] at hx; subst hx; rfl
      | j + 8, hx => simp [wordsT] at hx) (by simp) (by simp [wordsT]) (by simp [wordsT]) (by rw [hX, join_words]; omega)
    rw [hX, join_words] at h
    exact h
  obtain ⟨ii, qq, lf, re, sh, uu, pk, bt⟩ := p
  obtain ⟨p1, p2, p3, p4, p5, p6, p7⟩ := hp
  obtain ⟨g1, g2, g3, g4⟩ := g
  exact Text_of ii qq pk bt lf re sh uu _ _ _ _ _ _ _ _ _ w hl g1 g2 g3 g4 (first_str lf) (fun w hl => Itoa_any ii p1 g1 w hl) (fun w hl => Itoa_any qq p2 g2 w hl)
    (fun w hl => wordS_any re p3 w hl) (fun w hl => wordS_any sh p4 w hl) (fun w hl => wordS_any uu p5 w hl) (fun w hl => Itoa_any pk p6 g3 w hl) (fun w hl => Itoa_any bt p7 g4 w hl) hJ
theorem Text_bad (p : Sp) (g : ¬ p.good) (w : World) :
    Calls Tryz.prog 8 #[spW p] w fun e w' => e = .returned (.tuple #[.string ⟨#[]⟩, .int .i64 2]) ∧ Below w.heap.size w w' := by
  have T := up1 w (.cells (spA p) 26)
  have hmin := fun W => min_four W p.id p.par p.pk p.bt
  have hm1 : mi4 p.id p.par p.pk p.bt < 0 := mi4_neg (fun h => g ⟨h.1, h.2.1, h.2.2.1, h.2.2.2⟩)
  generalize mi4 p.id p.par p.pk p.bt = m at hmin hm1
  go_enter Tryz.func8, Tryz.ntmps8
  go_wp2
  go_ret2
  exact ⟨rfl, T⟩
end Go.Proofs.YtkcmfcgoknhodaaGreatDoor
