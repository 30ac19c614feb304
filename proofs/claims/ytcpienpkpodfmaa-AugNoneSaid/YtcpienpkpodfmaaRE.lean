/- The document's own row of ids: Put. No condition but words, and that it isn't long. -/
import Derived.Test.YtcpienpkpodfmaaRD
namespace Go.Proofs.Ytcpienpkpodfmaa
open Go.RowKit Go.Shelf
set_option linter.unusedVariables false
theorem ins_at {x : It} : ∀ {A C : List It}, Lo A x.1 → Hi x.1 C → ins x (A ++ C) = A ++ x :: C
  | [], [], _, _ => rfl
  | [], c :: C, _, h => if_pos (h c (by simp))
  | a :: A, C, h1, h2 => by
    show (if kLt x.1 a.1 then _ else _) = _
    rw [if_neg (kLt_asym (h1 a (by simp)))]
    exact congrArg (a :: ·) (ins_at (A := A) (C := C) (fun z hz => h1 z (by simp [hz])) h2)
theorem owns_below {w w' : World} {m n : Nat} {v : Value} {L : List It} (h : w.ownsRow m 76 3 v n (itC L)) (hb : Below w.heap.size w w') : w'.ownsRow m 76 3 v n (itC L) :=
  h.kept (row := none) ⟨hb.os, hb.tape, hb.output, hb.size, fun k hk _ => hb.block k hk⟩ (by cases v.ownBlock with | none => exact .inl rfl | some b => exact .inr (by simp))
theorem owns_box {w : World} {m n g cap : Nat} {L : List It} (h : w.ownsRow m 76 3 (.slice (some ⟨g, 0, none⟩) n cap) n (itC L)) : m ≤ g ∧ n ≤ cap ∧ ∃ cur : Array Value, Box w g cur 76 := by
  rcases h.2 with ⟨e, _⟩ | ⟨g', cap', cur, e, h1, h2, h3, _⟩
  · cases e
  · cases e; exact ⟨h1, h3, cur, h2⟩
/-- The row's block is written to at the end. -/
theorem put_end {W1 w4 : World} {m R g3 cap3 n : Nat} {L' : List It} {v1 : Value} (hmR : m ≤ R) (hB : Box w4 R #[v1] 28) (hl : L'.length = n) (hown : w4.ownsRow m 76 3 (.slice (some ⟨g3, 0, none⟩) n cap3) n (itC L')) (hO : Off (RS W1 m R) W1 w4) :
    RwO (w4.setCell ⟨R, 0, none⟩ (.slice (some ⟨g3, 0, none⟩) n cap3)) m R L' ∧ Off (RS W1 m R) W1 (w4.setCell ⟨R, 0, none⟩ (.slice (some ⟨g3, 0, none⟩) n cap3)) := by
  subst hl
  obtain ⟨_, _, cur, hg⟩ := owns_box hown
  have hne : g3 ≠ R := box_ne hg hB (by decide)
  have hb := But.set R w4 0 (.slice (some ⟨g3, 0, none⟩) L'.length cap3)
  refine ⟨⟨hmR, _, hB.set 0 _, hown.kept (row := some R) ⟨hb.os, hb.tape, hb.output, hb.size, fun k hk hn => hb.block k hk (fun e => hn (by rw [e]))⟩ (.inr (by simp [Value.ownBlock]; exact hne))⟩, hO.set ⟨hmR, .inl rfl⟩ 0 _⟩
theorem lo_of {x y : It} {A : List It} (hr : Rise (A ++ [y])) (h : kLt y.1 x.1) : Lo (A ++ [y]) x.1 := by
  obtain ⟨_, _, h1, _⟩ := rise_node.1 hr
  intro a ha
  rcases List.mem_append.1 ha with ha | ha
  · exact kLt_trans (h1 a ha) h
  · have : a = y := by simpa using ha
    rw [this]; exact h
theorem wpList_app_nil {w : World} {ops : Array Oper} {rest : List Oper} {o : Oper} {a : Act} {Q : Exit → Act → World → Prop} (hgd : o.guard = none) (s x : Operand)
    (ho : o.op = .call { callee := .builtin .append, args := #[s, x], argTypes := #[26, 26] }) (g : Nat) (hs : a.eval s = .slice (some ⟨g, 0, none⟩) 0 0) (hx : a.eval x = .slice none 0 0)
    (h : wpList Try.prog ops Q rest (a.put o.dst (.slice (some ⟨g, 0, none⟩) 0 0)) w) :
    wpList Try.prog ops Q (o :: rest) a w := by
  refine wpList_plain hgd fun K hK => ?_
  obtain ⟨i0, hi, hz0, hz1, hz2⟩ := info_parts infoT
  have hr : (Builtin.append_ #[26, 26] o.type #[.slice (some ⟨g, 0, none⟩) 0 0, .slice none 0 0]).run Try.prog w = .ok (.slice (some ⟨g, 0, none⟩) 0 0) w := by
    simp [Builtin.append_, run_underlying Try.underlying26, sizeOf, typeInfo, hi, Builtin.lenOf, Builtin.firstCells, storeCells]
  unfold Oper.wp execOp
  simp only [ho, resolve, invoke, builtin, Sem.run_bind, Sem.run_pure, Result.andThen_ok, List.map_toArray, List.map_cons, List.map_nil, hs, hx, hr]
  exact hK _ _ h
/-- Where the walk down the row stands still. -/
def Stop (x : It) (L : List It) (j : Nat) : Prop := j ≤ L.length ∧ Lo (L.take j) x.1 ∧ Hi x.1 (L.drop j)
theorem new_it (w : World) (x : It) : ∀ j u, (itC [x])[j]? = some u → (w.alloc (.cells #[eI x.1.2, eU x.1.1, eU x.2] 76)).cell? ((⟨w.heap.size, 0, none⟩ : Addr).add j) = some u := by
  intro j u hu
  have hadd : (⟨w.heap.size, 0, none⟩ : Addr).add j = ⟨w.heap.size, 0 + j, none⟩ := by unfold Addr.add; split <;> simp_all
  rw [hadd, Nat.zero_add, (Box.new w 76 #[eI x.1.2, eU x.1.1, eU x.2]).cell j, ← hu]
  match j with
  | 0 => rfl
  | 1 => rfl
  | 2 => rfl
  | n + 3 => rfl
theorem put_off {wr w1 w2 w3 : World} {m R g g2 : Nat} {o : Obj} (T1 : Below wr.heap.size wr w1) (h2 : (w1.alloc o).grownBy w2 (some g)) (h3 : w2.grownBy w3 (some g2)) (hg : RS wr m R g) (hgw : g < wr.heap.size) (hat : some g = some g2 ∨ g2 = (w1.alloc o).heap.size) : Off (RS wr m R) wr w3 := by
  have T2 := T1.alloc T1.size o
  have hz := T1.size
  have hz2 : (w1.alloc o).heap.size = w1.heap.size + 1 := by simp
  have hz3 := h2.size
  have hz4 := h3.size
  refine ⟨(h3.os.trans h2.os).trans T2.os, (h3.tape.trans h2.tape).trans T2.tape, (h3.output.trans h2.output).trans T2.output, by omega, fun k hk hn => ?_⟩
  have hkg : k ≠ g := fun e => hn (by rw [e]; exact hg)
  have hkg2 : k ≠ g2 := by
    rcases hat with h | h
    · cases h; exact hkg
    · omega
  exact ((h3.block k (by omega) (fun e => hkg2 (by cases e; rfl))).trans (h2.block k (by omega) (fun e => hkg (by cases e; rfl)))).trans (T2.block k hk)
/-- The last facts ahead of the store. -/
theorem put_all {wr w1 w2 w3 : World} {m R g g2 g3 j n cap cap2 cap3 n3 : Nat} {D : List It} {x : It} {o : Obj} {v : Value} (hmR : m ≤ R) (hB : Box wr R #[v] 28) (hown : wr.ownsRow m 76 3 (.slice (some ⟨g, 0, none⟩) n cap) n (itC D))
    (T1 : Below wr.heap.size wr w1) (hgr2 : (w1.alloc o).grownBy w2 (some g)) (hown2 : w2.ownsRow m 76 3 (.slice (some ⟨g2, 0, none⟩) (j + 1) cap2) (j + 1) (itC (D.take j ++ [x]))) (hat2 : some g = some g2 ∨ g2 = (w1.alloc o).heap.size)
    (hgr3 : w2.grownBy w3 (some g2)) (hown3 : w3.ownsRow m 76 3 (.slice (some ⟨g3, 0, none⟩) n3 cap3) n3 (itC (D.take j ++ [x] ++ D.drop j))) (hst : Stop x D j) :
    Box w3 R #[v] 28 ∧ RwO (w3.setCell ⟨R, 0, none⟩ (.slice (some ⟨g3, 0, none⟩) n3 cap3)) m R (ins x D) ∧ Off (RS wr m R) wr (w3.setCell ⟨R, 0, none⟩ (.slice (some ⟨g3, 0, none⟩) n3 cap3)) := by
  obtain ⟨hmg, _, cur, hg⟩ := owns_box hown
  have hgR : R ≠ g := box_ne hB hg (by decide)
  have b2 : Box w2 R #[v] 28 := (hgr2.block R ((hB.below T1).alloc o).lt (fun e => hgR (by cases e; rfl))).trans ((hB.below T1).alloc o)
  obtain ⟨_, _, cur2, hg2⟩ := owns_box hown2
  have hgR2 : R ≠ g2 := box_ne b2 hg2 (by decide)
  have b3 : Box w3 R #[v] 28 := (hgr3.block R b2.lt (fun e => hgR2 (by cases e; rfl))).trans b2
  have e : D.take j ++ [x] ++ D.drop j = ins x D := by
    have := ins_at hst.2.1 hst.2.2
    rw [List.take_append_drop] at this
    rw [this]; simp
  rw [e] at hown3
  have hl : (ins x D).length = n3 := by have := hown3.1; rw [itC_length] at this; omega
  have hO := put_off (R := R) T1 hgr2 hgr3 ⟨hmg, .inr ⟨cur, hg⟩⟩ hg.lt hat2
  exact ⟨b3, put_end hmR b3 hl hown3 hO⟩
set_option maxRecDepth 100000 in
set_option maxHeartbeats 8000000 in
theorem rwo_put {W : World} {m R : Nat} {L : List It} (x : It) (hx : Word x.1.1 ∧ Inte x.1.2 ∧ Word x.2) (hr : Rise L) (hF : Fine L) (hl : L.length ≤ 500) (h : RwO W m R L) :
    Calls Try.prog 15 #[.pointer (some ⟨R, 0, none⟩), eI x.1.2, eU x.1.1, eU x.2] W fun e w' => e = .returned (.tuple #[]) ∧ RwO w' m R (putA x L) ∧ Off (RS W m R) W w' := by
  have hD := rwo_drop x.1.2 hr hF (by omega) h
  have hrD := rise_dropA (i := x.1.2) hr
  have hFD := fine_dropA (i := x.1.2) hF
  have hlD : (dropA x.1.2 L).length ≤ 500 := by have := dropA_len (i := x.1.2) (L := L); omega
  have hno : ∀ a ∈ dropA x.1.2 L, a.1.2 ≠ x.1.2 := fun a ha => (mem_dropA.1 ha).2
  unfold putA
  generalize dropA x.1.2 L = D at *
  clear h hr hF hl
  go_enter Try.func15, Try.ntmps15
  go_upto_region 1 with (go_at_call 14; (with_reducible refine hD.mono ?_); rintro e W1 ⟨rfl, hR1, hO1⟩)
  clear hD
  obtain ⟨hmR, v, hB, hown⟩ := hR1
  have hfin : ∀ w', RwO w' m R (ins x D) ∧ Off (RS W1 m R) W1 w' → RwO w' m R (ins x D) ∧ Off (RS W m R) W w' := fun w' h => ⟨h.1, RS.trans hO1 h.2⟩
  clear hO1
  rcases (show (v = .slice none 0 0 ∧ D = []) ∨ ∃ g cap, v = .slice (some ⟨g, 0, none⟩) D.length cap from by
    rcases hown.2 with ⟨h1, h2⟩ | ⟨g, cap, cur, h1, _⟩
    · exact .inl ⟨h1, List.length_eq_zero_iff.1 h2⟩
    · exact .inr ⟨g, cap, h1⟩) with ⟨rfl, rfl⟩ | ⟨g, cap, rfl⟩
  · have cR : W1.cell? ⟨R, 0, none⟩ = some (.slice none 0 0) := hB.cell 0
    clear hrD hFD hlD hno
    replace hfin := Lib.hid hfin
    have hfin2 : ∀ w2 g1 cap1, w2.ownsRow W1.heap.size 76 3 (.slice (some ⟨g1, 0, none⟩) 1 cap1) 1 (itC [x]) → Below W1.heap.size W1 w2 → RwO (w2.setCell ⟨R, 0, none⟩ (.slice (some ⟨g1, 0, none⟩) 1 cap1)) m R (ins x []) ∧ Off (RS W1 m R) W1 (w2.setCell ⟨R, 0, none⟩ (.slice (some ⟨g1, 0, none⟩) 1 cap1)) := fun w2 g1 cap1 h1 h2 =>
      put_end hmR (hB.below h2) rfl (owns_mono h1 (by have := hB.lt; omega)) (Off.of h2)
    replace hfin2 := Lib.hid hfin2
    go_wp2
    go_loopw [8] (fun s8 wr => s8 = .int .i64 0 ∧ wr = W1) (fun _ _ => 0)
    case atStart => exact ⟨rfl, rfl⟩
    case round =>
      obtain ⟨rfl, rfl⟩ := hrel
      have hun := undef_ne
      have cA : (wr.alloc (.cells #[] 76)).cell? ⟨R, 0, none⟩ = some (.slice none 0 0) := (hB.alloc _).cell 0
      have T1 := up1 wr (.cells #[] 76)
      have T2 := up2 wr (.cells #[] 76) (.cells #[eI x.1.2, eU x.1.1, eU x.2] 76)
      have hn := new_it (wr.alloc (.cells #[] 76)) x
      simp only [World.size_alloc] at hn
      have hb0 := (Box.new wr 76 #[]).alloc (.cells #[eI x.1.2, eU x.1.1, eU x.2] 76)
      go_wp2_with (first
        | (at_builtin; refine wpList_app_nil rfl (.tmp 61) (.tmp 67) rfl wr.heap.size rfl rfl ?_)
        | (at_builtin; (refine wpList_app rfl (.tmp 75) (.tmp 80) rfl wr.heap.size (.slice none 0 0) 0 [] rfl (World.ownsRow_nil _ _ _ _) (by simp; omega) ⟨wr.heap.size + 1, 0, none⟩ 1 1 [x] rfl rfl hn (by decide) (.inr (by decide)) ?_; intro g2 cap2 w2 hown2 hgr2 hat2; simp only [Nat.zero_add, List.nil_append] at hown2; have T3 := T2.grown hgr2 T2.size (fun k e => by cases e); have hb2 : Box w2 wr.heap.size #[] 76 := (hgr2.block _ hb0.lt (by simp [Value.ownBlock])).trans hb0))
        | (at_builtin; (refine wpList_app rfl (.tmp 81) (.tmp 82) rfl wr.heap.size (.slice (some ⟨g2, 0, none⟩) 1 cap2) 1 [x] rfl hown2 T3.size ⟨wr.heap.size, 0, none⟩ 0 0 [] rfl rfl (by intro j u hu; simp [itC] at hu) (by decide) (.inl (by simp)) ?_; intro g3 cap3 w3 hown3 hgr3 hat3; have T4 := T3.grown hgr3 T3.size (fun k e => (hown2.lt k e).1); have hE := hfin2.out w3 g3 cap3 hown3 T4; have c3 := (hB.below T4).cell 0; have f3 := (hB.below T4).thaw 0; have l3 := (hB.below T4).lt)))
      go_end0
      exact ⟨rfl, hfin.out _ hE⟩
  · obtain ⟨hmg, hcap, cur, hgB⟩ := owns_box hown
    have hgW := hgB.lt
    have cR : W1.cell? ⟨R, 0, none⟩ = some (.slice (some ⟨g, 0, none⟩) D.length cap) := hB.cell 0
    have hce := Lib.hid (row_cells (itC_row hown))
    have hcn : (D.length : Int) ≤ (cap : Int) := by omega
    replace hfin := Lib.hid hfin
    replace hrD := Lib.hid hrD
    replace hno := Lib.hid hno
    go_wp2
    go_loopw [8] (fun s8 wr => ∃ j : Nat, s8 = .int .i64 j ∧ j ≤ D.length ∧ Hid (Hi x.1 (D.drop j)) ∧ wr = W1) (fun s8 _ => (intOf s8).toNat)
    case atStart => exact ⟨D.length, rfl, Nat.le_refl _, Lib.hid (by rw [List.drop_length]; intro a ha; cases ha), rfl⟩
    case round =>
      obtain ⟨j, rfl, hj, hhi, rfl⟩ := hrel
      have hun := undef_ne
      -- what the test says
      rcases (show (j = 0 ∧ Stop x D j) ∨ ∃ p y, j = p + 1 ∧ (∃ hp : p < D.length, y = D[p]) ∧ ((kLt x.1 y.1 ∧ Hi x.1 (D.drop p)) ∨ (kLt y.1 x.1 ∧ Stop x D j)) from by
        rcases Nat.eq_zero_or_pos j with h0 | h0
        · exact .inl ⟨h0, hj, by subst h0; intro a ha; simp at ha, hhi.out⟩
        · have hp : j - 1 < D.length := by omega
          refine .inr ⟨j - 1, D[j - 1], by omega, ⟨hp, rfl⟩, ?_⟩
          have ed : D.drop (j - 1) = D[j - 1] :: D.drop j := by rw [List.drop_eq_getElem_cons hp, Nat.sub_add_cancel h0]
          have et : D.take j = D.take (j - 1) ++ [D[j - 1]] := by
            have := List.take_succ_eq_append_getElem hp
            rwa [Nat.sub_add_cancel h0] at this
          rcases kLt_tri x.1 (D[j - 1]).1 with h | h | h
          · refine .inl ⟨h, fun a ha => ?_⟩
            rw [ed] at ha
            rcases List.mem_cons.1 ha with rfl | ha
            · exact h
            · exact hhi.out a ha
          · exact absurd (by rw [h]) (hno.out _ (List.getElem_mem hp))
          · refine .inr ⟨h, hj, ?_, hhi.out⟩
            rw [et]
            refine lo_of ?_ h
            rw [← et]
            exact hrD.out.sublist (List.take_sublist _ _)) with ⟨h0, hst⟩ | ⟨p, y, hjp, ⟨hp, hy⟩, ⟨hk, hhi2⟩ | ⟨hk, hst⟩⟩
      · have g0 : decide (0 < j) = false := by simp; omega
        clear h0 hhi
        replace hst := Lib.hid hst
        have i4 : (0 : Int) ≤ (j : Int) := by omega
        have i5 : (j : Int) ≤ (D.length : Int) := by omega
        have i6 : (j : Int) ≤ (cap : Int) := by omega
        obtain ⟨ad2, had2, had3, had2'⟩ : ∃ q : Addr, (if cap = j then some (⟨g, 0, none⟩ : Addr) else some ⟨g, j * 3, none⟩) = some q ∧ q.block = g ∧ (D.drop j ≠ [] → q = ⟨g, j * 3, none⟩) := by
          by_cases h : cap = j
          · rw [if_pos h]
            exact ⟨_, rfl, rfl, fun h2 => absurd (List.drop_eq_nil_of_le (by omega)) h2⟩
          · rw [if_neg h]
            exact ⟨_, rfl, rfl, fun _ => rfl⟩
        have hfl2 : ∀ i u, (itC (D.drop j))[i]? = some u → (wr.alloc (.cells #[] 76)).cell? (ad2.add i) = some u := fun i u hu => by
          have := flat_from hown (k := j) had2' i u hu
          have e : (ad2.add i).block = g := by have : ad2.block = g := had3; unfold Addr.add; split <;> simp_all
          exact ((up1 wr (.cells #[] 76)).cell (p := ad2.add i) (by rw [e]; exact hgW)).trans this
        have hl2 : (D.drop j).length = D.length - j := List.length_drop
        have hk6 : 0 + (D.length - j) ≤ 5000 := by omega
        have hk7 : j + 1 ≤ 5000 := by omega
        have hk8 : j + 1 + (D.length - j) ≤ 5000 := by omega
        have hown_j := owns_take hown (k := j) (by omega)
        have hW1 : ∀ w1, (wr.alloc (.cells #[] 76)).grownBy w1 (some wr.heap.size) → Below wr.heap.size wr w1 := fun w1 h => (up1 wr (.cells #[] 76)).grown h (by simp) (fun k e => by cases e; exact Nat.le_refl _)
        have cA : (wr.alloc (.cells #[] 76)).cell? ⟨R, 0, none⟩ = some (.slice (some ⟨g, 0, none⟩) D.length cap) := (hB.alloc _).cell 0
        clear hce hcn
        go_wp2_with (first
          | (at_builtin; (refine wpList_app rfl (.tmp 61) (.tmp 67) rfl wr.heap.size (.slice (some ⟨wr.heap.size, 0, none⟩) 0 0) 0 [] rfl (own0 (Box.new wr 76 #[]) (Nat.le_refl _)) (by simp) ad2 (D.length - j) (cap - j) (D.drop j) rfl hl2 hfl2 hk6 (.inl (by simp)) ?_; intro g1 cap1 w1 hown1 hgr1 hat1; simp only [Nat.zero_add, List.nil_append] at hown1; have T1 := hW1 w1 hgr1; have hownT := owns_below hown_j T1; have c1 := (hB.below T1).cell 0; have c1' := ((hB.below T1).alloc (.cells #[eI x.1.2, eU x.1.1, eU x.2] 76)).cell 0))
          | (at_builtin; (refine wpList_app rfl (.tmp 75) (.tmp 80) rfl m (.slice (some ⟨g, 0, none⟩) j cap) j (D.take j) rfl (hownT.alloc _) (by have := T1.size; simp; omega) ⟨w1.heap.size, 0, none⟩ 1 1 [x] rfl rfl (new_it w1 x) hk7 (.inl (by simp)) ?_; intro g2 cap2 w2 hown2 hgr2 hat2; have hr2 := (hown1.alloc (.cells #[eI x.1.2, eU x.1.1, eU x.2] 76)).kept hgr2 (.inr (by have := (owns_box hown1).1; simp [Value.ownBlock]; omega)); have hz2 := hgr2.size))
          | (at_builtin; (refine wpList_app rfl (.tmp 81) (.tmp 82) rfl m (.slice (some ⟨g2, 0, none⟩) (j + 1) cap2) (j + 1) (D.take j ++ [x]) rfl hown2 (by have := T1.size; simp at hz2; omega) ⟨g1, 0, none⟩ (D.length - j) cap1 (D.drop j) rfl hl2 (hr2.cells (g := g1) rfl) hk8 (.inl (by simp)) ?_; intro g3 cap3 w3 hown3 hgr3 hat3; obtain ⟨hB3, hE⟩ := put_all hmR hB hown T1 hgr2 hown2 hat2 hgr3 hown3 hst.out; have c3 := hB3.cell 0; have f3 := hB3.thaw 0; have l3 := hB3.lt)))
        go_end0
        exact ⟨rfl, hfin.out _ hE⟩
      · replace hhi2 := Lib.hid hhi2
        have g0 : decide (0 < j) = true := by simp; omega
        have j1 : (p : Int) < (D.length : Int) := by omega
        have j2 : (0 : Int) ≤ (p : Int) := by omega
        have j3 : IntKind.i64.wrap ((j : Int) - 1) = (p : Int) := by
          have : (j : Int) - 1 = (p : Int) := by omega
          rw [this]
          simp [IntKind.wrap, IntKind.bits, IntKind.signed]; omega
        obtain ⟨g', o', e, _, y1, y2, y3⟩ := hce.out p wr hp (Below.refl _ _)
        cases e
        rw [← hy] at y1 y2 y3
        simp only [Nat.zero_add] at y1 y2 y3
        obtain ⟨⟨k1, k2⟩, k3⟩ := y
        obtain ⟨⟨x1, x2⟩, x3⟩ := x
        dsimp only at *
        rcases hk with hk | ⟨hk, hk'⟩
        · have hk : x1 < k1 := hk
          have q1 : decide (x1 < k1) = true := by simpa using hk
          clear hk hce hhi hy
          go_wp2_with fail
          exact ⟨⟨p, rfl, by omega, hhi2, by first | rfl | trivial⟩, by simp [intOf]; omega⟩
        · have hk : x1 = k1 := hk
          have hk' : x2 < k2 := hk'
          subst hk
          have q1 : decide (x1 < x1) = false := by simp
          have q2 : (x1 == x1) = true := by simp
          have q3 : decide (x2 < k2) = true := by simpa using hk'
          clear hk' hce hhi hy
          go_wp2_with fail
          exact ⟨⟨p, rfl, by omega, hhi2, by first | rfl | trivial⟩, by simp [intOf]; omega⟩
      · replace hst := Lib.hid hst
        have g0 : decide (0 < j) = true := by simp; omega
        have j1 : (p : Int) < (D.length : Int) := by omega
        have j2 : (0 : Int) ≤ (p : Int) := by omega
        have j3 : IntKind.i64.wrap ((j : Int) - 1) = (p : Int) := by
          have : (j : Int) - 1 = (p : Int) := by omega
          rw [this]
          simp [IntKind.wrap, IntKind.bits, IntKind.signed]; omega
        obtain ⟨g', o', e, _, y1, y2, y3⟩ := hce.out p wr hp (Below.refl _ _)
        cases e
        rw [← hy] at y1 y2 y3
        simp only [Nat.zero_add] at y1 y2 y3
        rcases hk with hk | ⟨hk, hk'⟩
        · have q1 : decide (x.1.1 < y.1.1) = false := by simp; omega
          have q2 : (y.1.1 == x.1.1) = false := by simp; omega
          clear hk hhi hy hjp
          have i4 : (0 : Int) ≤ (j : Int) := by omega
          have i5 : (j : Int) ≤ (D.length : Int) := by omega
          have i6 : (j : Int) ≤ (cap : Int) := by omega
          obtain ⟨ad2, had2, had3, had2'⟩ : ∃ q : Addr, (if cap = j then some (⟨g, 0, none⟩ : Addr) else some ⟨g, j * 3, none⟩) = some q ∧ q.block = g ∧ (D.drop j ≠ [] → q = ⟨g, j * 3, none⟩) := by
            by_cases h : cap = j
            · rw [if_pos h]
              exact ⟨_, rfl, rfl, fun h2 => absurd (List.drop_eq_nil_of_le (by omega)) h2⟩
            · rw [if_neg h]
              exact ⟨_, rfl, rfl, fun _ => rfl⟩
          have hfl2 : ∀ i u, (itC (D.drop j))[i]? = some u → (wr.alloc (.cells #[] 76)).cell? (ad2.add i) = some u := fun i u hu => by
            have := flat_from hown (k := j) had2' i u hu
            have e : (ad2.add i).block = g := by have : ad2.block = g := had3; unfold Addr.add; split <;> simp_all
            exact ((up1 wr (.cells #[] 76)).cell (p := ad2.add i) (by rw [e]; exact hgW)).trans this
          have hl2 : (D.drop j).length = D.length - j := List.length_drop
          have hk6 : 0 + (D.length - j) ≤ 5000 := by omega
          have hk7 : j + 1 ≤ 5000 := by omega
          have hk8 : j + 1 + (D.length - j) ≤ 5000 := by omega
          have hown_j := owns_take hown (k := j) (by omega)
          have hW1 : ∀ w1, (wr.alloc (.cells #[] 76)).grownBy w1 (some wr.heap.size) → Below wr.heap.size wr w1 := fun w1 h => (up1 wr (.cells #[] 76)).grown h (by simp) (fun k e => by cases e; exact Nat.le_refl _)
          have cA : (wr.alloc (.cells #[] 76)).cell? ⟨R, 0, none⟩ = some (.slice (some ⟨g, 0, none⟩) D.length cap) := (hB.alloc _).cell 0
          clear hce hcn
          go_wp2_with (first
            | (at_builtin; (refine wpList_app rfl (.tmp 61) (.tmp 67) rfl wr.heap.size (.slice (some ⟨wr.heap.size, 0, none⟩) 0 0) 0 [] rfl (own0 (Box.new wr 76 #[]) (Nat.le_refl _)) (by simp) ad2 (D.length - j) (cap - j) (D.drop j) rfl hl2 hfl2 hk6 (.inl (by simp)) ?_; intro g1 cap1 w1 hown1 hgr1 hat1; simp only [Nat.zero_add, List.nil_append] at hown1; have T1 := hW1 w1 hgr1; have hownT := owns_below hown_j T1; have c1 := (hB.below T1).cell 0; have c1' := ((hB.below T1).alloc (.cells #[eI x.1.2, eU x.1.1, eU x.2] 76)).cell 0))
            | (at_builtin; (refine wpList_app rfl (.tmp 75) (.tmp 80) rfl m (.slice (some ⟨g, 0, none⟩) j cap) j (D.take j) rfl (hownT.alloc _) (by have := T1.size; simp; omega) ⟨w1.heap.size, 0, none⟩ 1 1 [x] rfl rfl (new_it w1 x) hk7 (.inl (by simp)) ?_; intro g2 cap2 w2 hown2 hgr2 hat2; have hr2 := (hown1.alloc (.cells #[eI x.1.2, eU x.1.1, eU x.2] 76)).kept hgr2 (.inr (by have := (owns_box hown1).1; simp [Value.ownBlock]; omega)); have hz2 := hgr2.size))
            | (at_builtin; (refine wpList_app rfl (.tmp 81) (.tmp 82) rfl m (.slice (some ⟨g2, 0, none⟩) (j + 1) cap2) (j + 1) (D.take j ++ [x]) rfl hown2 (by have := T1.size; simp at hz2; omega) ⟨g1, 0, none⟩ (D.length - j) cap1 (D.drop j) rfl hl2 (hr2.cells (g := g1) rfl) hk8 (.inl (by simp)) ?_; intro g3 cap3 w3 hown3 hgr3 hat3; obtain ⟨hB3, hE⟩ := put_all hmR hB hown T1 hgr2 hown2 hat2 hgr3 hown3 hst.out; have c3 := hB3.cell 0; have f3 := hB3.thaw 0; have l3 := hB3.lt)))
          go_end0
          exact ⟨rfl, hfin.out _ hE⟩
        · have q1 : decide (x.1.1 < y.1.1) = false := by simp; omega
          have q2 : (y.1.1 == x.1.1) = true := by simp; omega
          have q3 : decide (x.1.2 < y.1.2) = false := by simp; omega
          clear hk hk' hhi hy hjp
          have i4 : (0 : Int) ≤ (j : Int) := by omega
          have i5 : (j : Int) ≤ (D.length : Int) := by omega
          have i6 : (j : Int) ≤ (cap : Int) := by omega
          obtain ⟨ad2, had2, had3, had2'⟩ : ∃ q : Addr, (if cap = j then some (⟨g, 0, none⟩ : Addr) else some ⟨g, j * 3, none⟩) = some q ∧ q.block = g ∧ (D.drop j ≠ [] → q = ⟨g, j * 3, none⟩) := by
            by_cases h : cap = j
            · rw [if_pos h]
              exact ⟨_, rfl, rfl, fun h2 => absurd (List.drop_eq_nil_of_le (by omega)) h2⟩
            · rw [if_neg h]
              exact ⟨_, rfl, rfl, fun _ => rfl⟩
          have hfl2 : ∀ i u, (itC (D.drop j))[i]? = some u → (wr.alloc (.cells #[] 76)).cell? (ad2.add i) = some u := fun i u hu => by
            have := flat_from hown (k := j) had2' i u hu
            have e : (ad2.add i).block = g := by have : ad2.block = g := had3; unfold Addr.add; split <;> simp_all
            exact ((up1 wr (.cells #[] 76)).cell (p := ad2.add i) (by rw [e]; exact hgW)).trans this
          have hl2 : (D.drop j).length = D.length - j := List.length_drop
          have hk6 : 0 + (D.length - j) ≤ 5000 := by omega
          have hk7 : j + 1 ≤ 5000 := by omega
          have hk8 : j + 1 + (D.length - j) ≤ 5000 := by omega
          have hown_j := owns_take hown (k := j) (by omega)
          have hW1 : ∀ w1, (wr.alloc (.cells #[] 76)).grownBy w1 (some wr.heap.size) → Below wr.heap.size wr w1 := fun w1 h => (up1 wr (.cells #[] 76)).grown h (by simp) (fun k e => by cases e; exact Nat.le_refl _)
          have cA : (wr.alloc (.cells #[] 76)).cell? ⟨R, 0, none⟩ = some (.slice (some ⟨g, 0, none⟩) D.length cap) := (hB.alloc _).cell 0
          clear hce hcn
          go_wp2_with (first
            | (at_builtin; (refine wpList_app rfl (.tmp 61) (.tmp 67) rfl wr.heap.size (.slice (some ⟨wr.heap.size, 0, none⟩) 0 0) 0 [] rfl (own0 (Box.new wr 76 #[]) (Nat.le_refl _)) (by simp) ad2 (D.length - j) (cap - j) (D.drop j) rfl hl2 hfl2 hk6 (.inl (by simp)) ?_; intro g1 cap1 w1 hown1 hgr1 hat1; simp only [Nat.zero_add, List.nil_append] at hown1; have T1 := hW1 w1 hgr1; have hownT := owns_below hown_j T1; have c1 := (hB.below T1).cell 0; have c1' := ((hB.below T1).alloc (.cells #[eI x.1.2, eU x.1.1, eU x.2] 76)).cell 0))
            | (at_builtin; (refine wpList_app rfl (.tmp 75) (.tmp 80) rfl m (.slice (some ⟨g, 0, none⟩) j cap) j (D.take j) rfl (hownT.alloc _) (by have := T1.size; simp; omega) ⟨w1.heap.size, 0, none⟩ 1 1 [x] rfl rfl (new_it w1 x) hk7 (.inl (by simp)) ?_; intro g2 cap2 w2 hown2 hgr2 hat2; have hr2 := (hown1.alloc (.cells #[eI x.1.2, eU x.1.1, eU x.2] 76)).kept hgr2 (.inr (by have := (owns_box hown1).1; simp [Value.ownBlock]; omega)); have hz2 := hgr2.size))
            | (at_builtin; (refine wpList_app rfl (.tmp 81) (.tmp 82) rfl m (.slice (some ⟨g2, 0, none⟩) (j + 1) cap2) (j + 1) (D.take j ++ [x]) rfl hown2 (by have := T1.size; simp at hz2; omega) ⟨g1, 0, none⟩ (D.length - j) cap1 (D.drop j) rfl hl2 (hr2.cells (g := g1) rfl) hk8 (.inl (by simp)) ?_; intro g3 cap3 w3 hown3 hgr3 hat3; obtain ⟨hB3, hE⟩ := put_all hmR hB hown T1 hgr2 hown2 hat2 hgr3 hown3 hst.out; have c3 := hB3.cell 0; have f3 := hB3.thaw 0; have l3 := hB3.lt)))
          go_end0
          exact ⟨rfl, hfin.out _ hE⟩
end Go.Proofs.Ytcpienpkpodfmaa
