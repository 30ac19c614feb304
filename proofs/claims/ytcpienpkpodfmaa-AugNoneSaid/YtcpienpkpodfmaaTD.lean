/- What the tree's calls answer that make one node: total, over. No condition. -/
import Derived.Test.YtcpienpkpodfmaaTC
import Derived.StillTailTactics
namespace Go.Proofs.Ytcpienpkpodfmaa
open Go.RowKit Go.Shelf
set_option linter.unusedVariables false
/-- A cell of a block. -/
def Cel (w : World) (B i : Nat) (v : Value) : Prop := B < w.heap.size ∧ w.cell? ⟨B, i, none⟩ = some v
theorem Cel.below {W w : World} {B i : Nat} {v : Value} (h : Cel W B i v) (hb : Below W.heap.size W w) : Cel w B i v := ⟨Nat.lt_of_lt_of_le h.1 hb.size, (hb.cell (p := ⟨B, i, none⟩) h.1).trans h.2⟩
theorem Box.cel {w : World} {B : Nat} {vs : Array Value} {t : TypeId} (h : Box w B vs t) (i : Nat) {v : Value} (e : vs[i]? = some v) : Cel w B i v := ⟨h.lt, (h.cell i).trans e⟩
/-- The two cells of a part's summary. -/
def Cel2 (w : World) (B : Nat) (s : Mk) : Prop := B < w.heap.size ∧ (w.cell? ⟨B, 7, none⟩ = some (.int .u64 s.1) ∧ w.cell? ⟨B, 8, none⟩ = some (.int .i64 s.2))
theorem Cel2.below {W w : World} {B : Nat} {s : Mk} (h : Cel2 W B s) (hb : Below W.heap.size W w) : Cel2 w B s := ⟨Nat.lt_of_lt_of_le h.1 hb.size, (hb.cell (p := ⟨B, 7, none⟩) h.1).trans h.2.1, (hb.cell (p := ⟨B, 8, none⟩) h.1).trans h.2.2⟩
theorem Cel2.under {W w : World} {B n : Nat} {s : Mk} (h : Cel2 W B s) (hb : Below n W w) (hn : B < n) : Cel2 w B s := ⟨Nat.lt_of_lt_of_le h.1 hb.size, (hb.cell (p := ⟨B, 7, none⟩) hn).trans h.2.1, (hb.cell (p := ⟨B, 8, none⟩) hn).trans h.2.2⟩
theorem Box.cel2 {w : World} {B : Nat} {m : It} {r : Bool} {pl pr : Pt} {s : Mk} (h : Box w B (node m r pl pr s) 91) : Cel2 w B s := ⟨h.lt, h.cell 7, h.cell 8⟩
theorem mkC {w : World} {B : Nat} {s : Mk} {t : TypeId} (h : Box w B #[eU s.1, eI s.2] t) : w.cell? ⟨B, 0, none⟩ = some (.int .u64 s.1) ∧ w.cell? ⟨B, 1, none⟩ = some (.int .i64 s.2) := ⟨h.cell 0, h.cell 1⟩
theorem setMk {w : World} {B : Nat} {s : Mk} {t : TypeId} (h : Box w B #[eU s.1, eI s.2] t) (s' : Mk) : Box ((w.setCell ⟨B, 0, none⟩ (.int .u64 s'.1)).setCell ⟨B, 1, none⟩ (.int .i64 s'.2)) B #[eU s'.1, eI s'.2] t := (h.set 0 (eU s'.1)).set 1 (eI s'.2)
theorem below_mk {w W : World} {B n : Nat} {s : Mk} (h : Below n w W) (hB : n ≤ B) : Below n w ((W.setCell ⟨B, 0, none⟩ (.int .u64 s.1)).setCell ⟨B, 1, none⟩ (.int .i64 s.2)) :=
  (h.setCell (p := ⟨B, 0, none⟩) hB _).setCell (p := ⟨B, 1, none⟩) hB _
theorem setNeMk {w : World} {B C : Nat} {vs : Array Value} {t : TypeId} (h : Box w B vs t) (hne : B ≠ C) (s : Mk) : Box ((w.setCell ⟨C, 0, none⟩ (.int .u64 s.1)).setCell ⟨C, 1, none⟩ (.int .i64 s.2)) B vs t := (h.setNe hne _).setNe hne _
/-- What the summary so far is, in a block of its own; the answer's block lies ahead of it. -/
def TotS (w : World) (s : Mk) (v : Value) (W : World) : Prop := ∃ S : Nat, v = .pointer (some ⟨S, 0, none⟩) ∧ w.heap.size < S ∧ Box W S #[eU s.1, eI s.2] 61 ∧ Box W w.heap.size #[eU 0, eI 0] 61 ∧ Below w.heap.size w W
theorem TotS.mk1 {w W : World} {s : Mk} (T : Below w.heap.size w W) (bR : Box W w.heap.size #[eU 0, eI 0] 61) : TotS w s (.pointer (some ⟨W.heap.size, 0, none⟩)) (W.alloc (.cells #[.int .u64 s.1, .int .i64 s.2] 61)) :=
  ⟨_, rfl, bR.lt, Box.new _ _ _, bR.alloc _, T.alloc T.size _⟩
theorem TotS.mk2 {w W : World} {s : Mk} {S : Nat} (hN2 : w.heap.size < S) (HN : Box W S #[eU 0, eI 0] 61) (bR : Box W w.heap.size #[eU 0, eI 0] 61) (T : Below w.heap.size w W) : TotS w s (.pointer (some ⟨S, 0, none⟩)) ((W.setCell ⟨S, 0, none⟩ (.int .u64 s.1)).setCell ⟨S, 1, none⟩ (.int .i64 s.2)) :=
  ⟨S, rfl, hN2, setMk (s := (0, 0)) HN s, setNeMk bR (Nat.ne_of_lt hN2) _, below_mk T (Nat.le_of_lt hN2)⟩
def PtS (w : World) : Option Mk → Pt → Prop
  | none, p => p = none
  | some s, p => ∃ B : Nat, p = some ⟨B, 0, none⟩ ∧ Cel2 w B s
def sumL (m : It) : Option Mk → Mk
  | none => mkO m
  | some a => mn a (mkO m)
def sumR (x : Mk) : Option Mk → Mk
  | none => x
  | some b => mn x b
section
variable (Bt : Nat) (tp : Pt) (tn : Int) (q : Pt) (m : It) (r : Bool) (w : World)
set_option maxRecDepth 100000 in
set_option maxHeartbeats 2000000 in
theorem total_of (pl pr : Pt) (sl sr : Option Mk) (R : Mk) (hR : R = sumR (sumL m sl) sr)
    (ht : Box w Bt (tree tp tn) 87) (hq : Nod w q m r) (hl : PtS w sl pl) (hr : PtS w sr pr) :
    Calls Try.prog 75 #[.pointer (some ⟨Bt, 0, none⟩), .pointer q, .pointer pl, .pointer pr] w fun e w' => e = .returned (mV R) ∧ Below w.heap.size w w' := by
  obtain ⟨B, p1, p2, s, rfl, hB, _⟩ := hq
  obtain ⟨M1, hM1⟩ : ∃ M1, sumL m sl = M1 := ⟨_, rfl⟩
  rw [hM1] at hR
  replace hR := Lib.hid hR
  replace hM1 := Lib.hid hM1
  have bR := Box.new w 61 #[eU 0, eI 0]
  have T0 := up1 w (.cells #[eU 0, eI 0] 61)
  have hz : (w.alloc (.cells #[eU 0, eI 0] 61)).heap.size = w.heap.size + 1 := by simp
  have hBt := ht.lt
  go_enter Try.func75, Try.ntmps75
  go_upto_region 1 with (fail)
  obtain ⟨W0, hW0⟩ : ∃ v, w.alloc (.cells #[eU 0, eI 0] 61) = v := ⟨_, rfl⟩
  rw [hW0] at bR T0 hz ⊢
  clear hW0
  go_cut [9] (fun s9 wx => TotS w (mkO m) s9 wx)
  case first =>
    have hS : ∀ w', Below w.heap.size w w' → w'.cell? ⟨Bt, 0, none⟩ = some (.func (.func 26) #[] #[]) ∧ w'.cell? ⟨B, 0, none⟩ = some (.int .u64 m.1.1) ∧ w'.cell? ⟨B, 1, none⟩ = some (.int .i64 m.1.2) ∧ (w'.cell? ⟨B, 2, none⟩ = some (.int .u64 m.2) ∧ w'.cell? ⟨B, 3, none⟩ = some (.int .i64 m.1.2)) := fun w' h =>
      ⟨(trC (ht.below h)).1, (nodC (hB.below h)).1, (nodC (hB.below h)).2.1, (nodC (hB.below h)).2.2.1⟩
    have T := T0
    have hS0 := hS W0 T
    obtain ⟨t0, c0, c1, c2, cq2⟩ := id hS0
    clear hz
    go_region_held3 (fun w' => w'.cell? ⟨Bt, 0, none⟩ = some (.func (.func 26) #[] #[]) ∧ w'.cell? ⟨B, 0, none⟩ = some (.int .u64 m.1.1) ∧ w'.cell? ⟨B, 1, none⟩ = some (.int .i64 m.1.2) ∧ (w'.cell? ⟨B, 2, none⟩ = some (.int .u64 m.2) ∧ w'.cell? ⟨B, 3, none⟩ = some (.int .i64 m.1.2)))
      (first | exact hS _ T | exact hS _ T.drew | exact hS _ (T.alloc T.size _) | exact hS _ (T.alloc T.size _).drew | exact hS _ ((T.setCell (by exact hN) _).setCell (by exact hN) _) | exact hS _ (((T.alloc T.size _).setCell (by exact T.size) _).setCell (by exact T.size) _))
      (first
        | (go_at_call 26; (with_reducible refine (own_any m.1 (mkO m) _).mono ?_); rintro e w1 ⟨rfl, hb⟩; (first | replace hb := undrew hb | replace hb := undrewN hb | skip); (first | (replace T := up T hb T.size; replace bR := bR.below hb) | (have HN : Box w1 W0.heap.size #[eU 0, eI 0] 61 := (Box.new _ 61 #[eU 0, eI 0]).below hb; have hN2 := bR.lt; have hN := T.size; replace T := up (T.alloc T.size _) hb (T.alloc T.size _).size; replace bR := (bR.alloc _).below hb; have xN : w1.cell? ⟨W0.heap.size, 0, none⟩ = some (.int .u64 0) := HN.cell 0; have yN : w1.cell? ⟨W0.heap.size, 1, none⟩ = some (.int .i64 0) := HN.cell 1; have fN := HN.thaw 0; have gN := HN.thaw 1; have lN := HN.lt)); clear hb))
    all_goals go_wp2_with fail
    all_goals go_meet
    all_goals first
      | with_reducible exact TotS.mk1 (s := mkO m) T bR
      | with_reducible exact TotS.mk2 (s := mkO m) hN2 HN bR T
  case rest =>
    obtain ⟨S, rfl, hwS, hS1, bR1, T1⟩ := hcut
    rename World => W1
    clear bR T0 hz
    go_upto_if 24 with (fail)
    go_cut [] (fun wx => TotS w M1 (.pointer (some ⟨S, 0, none⟩)) wx)
    case first =>
      cases sl with
      | none =>
        obtain rfl : pl = none := hl
        go_wp2
        go_meet
        exact ⟨S, rfl, hwS, by rw [← hM1.out]; simp only [sumL]; exact hS1, bR1, T1⟩
      | some a =>
        obtain ⟨Bl, rfl, hl⟩ := hl
        go_upto_region 3 with (fail)
        have t1 := (trC (ht.below T1)).2.1
        obtain ⟨l6, l7⟩ := (hl.under T1 hl.1).2
        obtain ⟨s0, s1⟩ := mkC hS1
        go_still_tail 9, (by kernel_rfl)
        change wpList _ _ _ _ _ W1.drew
        have T2 := T1.drew
        have hS2 : Box W1.drew S #[eU (mkO m).1, eI (mkO m).2] 61 := hS1
        have bR2 : Box W1.drew w.heap.size #[eU 0, eI 0] 61 := bR1
        generalize W1.drew = W2 at *
        go_wp2_with (go_at_call 28; (with_reducible refine (lesser_any a (mkO m) _).mono ?_); rintro e w3 ⟨rfl, hb3⟩; have hS3 := hS2.below hb3; have bR3 := bR2.below hb3; have xN := hS3.cell 0; have yN := hS3.cell 1; have fN := hS3.thaw 0; have gN := hS3.thaw 1; have lN := hS3.lt)
        go_meet
        have T3 := up T2 hb3 T2.size
        exact ⟨S, rfl, hwS, by rw [← hM1.out]; simp only [sumL]; exact setMk (s := mkO m) hS3 _, setNeMk bR3 (Nat.ne_of_lt hwS) _, below_mk T3 (Nat.le_of_lt hwS)⟩
    case rest =>
      obtain ⟨S', e, _, hS2, bR2, T2⟩ := hcut
      obtain rfl : S = S' := by injection e with e; injection e with e; injection e
      rename World => W2
      clear hS1 bR1 T1 hM1 e
      go_upto_if 36 with (fail)
      go_cut [] (fun wx => TotS w R (.pointer (some ⟨S, 0, none⟩)) wx)
      case first =>
        cases sr with
        | none =>
          obtain rfl : pr = none := hr
          go_wp2
          go_meet
          exact ⟨S, rfl, hwS, by rw [hR.out]; simp only [sumR]; exact hS2, bR2, T2⟩
        | some b =>
          obtain ⟨Br, rfl, hr⟩ := hr
          go_upto_region 5 with (fail)
          have t1 := (trC (ht.below T2)).2.1
          obtain ⟨l6, l7⟩ := (hr.under T2 hr.1).2
          obtain ⟨s0, s1⟩ := mkC hS2
          go_still_tail 9, (by kernel_rfl)
          change wpList _ _ _ _ _ W2.drew
          have T3 := T2.drew
          have hS3 : Box W2.drew S #[eU M1.1, eI M1.2] 61 := hS2
          have bR3 : Box W2.drew w.heap.size #[eU 0, eI 0] 61 := bR2
          generalize W2.drew = W3 at *
          go_wp2_with (go_at_call 28; (with_reducible refine (lesser_any M1 b _).mono ?_); rintro e w3 ⟨rfl, hb3⟩; have hS4 := hS3.below hb3; have bR4 := bR3.below hb3; have xN := hS4.cell 0; have yN := hS4.cell 1; have fN := hS4.thaw 0; have gN := hS4.thaw 1; have lN := hS4.lt)
          go_meet
          have T4 := up T3 hb3 T3.size
          exact ⟨S, rfl, hwS, by rw [hR.out]; simp only [sumR]; exact setMk hS4 _, setNeMk bR4 (Nat.ne_of_lt hwS) _, below_mk T4 (Nat.le_of_lt hwS)⟩
      case rest =>
        obtain ⟨S', e, _, hS3, bR3, T3⟩ := hcut
        obtain rfl : S = S' := by injection e with e; injection e with e; injection e
        rename World => W3
        obtain ⟨s0, s1⟩ := mkC hS3
        obtain ⟨r0, r1⟩ := mkC (s := (0, 0)) bR3
        have f0 := bR3.thaw 0
        have f1 := bR3.thaw 1
        have l0 := bR3.lt
        have l1 := hS3.lt
        clear hR hr hS2 bR2 T2 e
        go_wp2
        have b3 := setMk (s := (0, 0)) bR3 R
        obtain ⟨e0, e1⟩ := mkC b3
        exact bodyPost_ret (v := mV R) (by simp [results, Try.results75, go_sem, e0, e1]) rfl ⟨rfl, below_mk T3 (Nat.le_refl _)⟩
theorem total_any (pl pr : Pt) (a b : Tr) (ht : Box w Bt (tree tp tn) 87) (hq : Nod w q m r) (hl : Tre w pl a) (hr : Tre w pr b) :
    Calls Try.prog 75 #[.pointer (some ⟨Bt, 0, none⟩), .pointer q, .pointer pl, .pointer pr] w fun e w' => e = .returned (mV (Tr.nd m r a b).sum) ∧ Below w.heap.size w w' := by
  cases a with
  | nil =>
    cases b with
    | nil => exact total_of Bt tp tn q m r w pl pr none none _ rfl ht hq hl hr
    | nd mb rb xb yb =>
      obtain ⟨Br, _, _, rfl, hB, _⟩ := hr.open
      exact total_of Bt tp tn q m r w pl _ none (some _) _ rfl ht hq hl ⟨Br, rfl, hB.cel2⟩
  | nd ma ra xa ya =>
    obtain ⟨Bl, _, _, rfl, hA, _⟩ := hl.open
    cases b with
    | nil => exact total_of Bt tp tn q m r w _ pr (some _) none _ rfl ht hq ⟨Bl, rfl, hA.cel2⟩ hr
    | nd mb rb xb yb =>
      obtain ⟨Br, _, _, rfl, hB, _⟩ := hr.open
      exact total_of Bt tp tn q m r w _ _ (some _) (some _) _ rfl ht hq ⟨Bl, rfl, hA.cel2⟩ ⟨Br, rfl, hB.cel2⟩
end
end Go.Proofs.Ytcpienpkpodfmaa
