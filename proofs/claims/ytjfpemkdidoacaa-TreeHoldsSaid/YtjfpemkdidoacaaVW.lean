/- The document's own row: Put. No condition but words, and that it isn't long. -/
import Derived.Test.YtjfpemkdidoacaaVV
import Derived.StillTailTactics
namespace Go.Proofs.Ytjfpemkdidoacaa
open Go.RowKit Go.Shelf
set_option linter.unusedVariables false
theorem lo_of {x y : It} {A : List It} (hr : Rise (A ++ [y])) (h : kLt y.1 x.1) : Lo (A ++ [y]) x.1 := by
  obtain ⟨_, _, h1, _⟩ := rise_node.1 hr
  intro a ha
  rcases List.mem_append.1 ha with ha | ha
  · exact kLt_trans (h1 a ha) h
  · have : a = y := by simpa using ha
    rw [this]; exact h
theorem wpList_app_nil {w : World} {ops : Array Oper} {rest : List Oper} {o : Oper} {a : Act} {Q : Exit → Act → World → Prop} (hgd : o.guard = none) (s x : Operand)
    (ho : o.op = .call { callee := .builtin .append, args := #[s, x], argTypes := #[26, 26] }) (g : Nat) (hs : a.eval s = .slice (some ⟨g, 0, none⟩) 0 0) (hx : a.eval x = .slice none 0 0)
    (h : wpList Try.prog ops Q rest (a.put o.dst (.slice (some ⟨g, 0, none⟩) 0 0)) w) :
    wpList Try.prog ops Q (o :: rest) a w := by
  refine wpList_plain hgd fun K hK => ?_
  obtain ⟨i0, hi, hz0, hz1, hz2⟩ := info_parts infoI
  have hr : (Builtin.append_ #[26, 26] o.type #[.slice (some ⟨g, 0, none⟩) 0 0, .slice none 0 0]).run Try.prog w = .ok (.slice (some ⟨g, 0, none⟩) 0 0) w := by
    simp [Builtin.append_, run_underlying Try.underlying26, sizeOf, typeInfo, hi, Builtin.lenOf, Builtin.firstCells, storeCells]
  unfold Oper.wp execOp
  simp only [ho, resolve, invoke, builtin, Sem.run_bind, Sem.run_pure, Result.andThen_ok, List.map_toArray, List.map_cons, List.map_nil, hs, hx, hr]
  exact hK _ _ h
/-- Where the walk down the row stands still. -/
def Stop (x : It) (L : List It) (j : Nat) : Prop := j ≤ L.length ∧ Lo (L.take j) x.1 ∧ Hi x.1 (L.drop j)
theorem new_it (w : World) (x : It) : ∀ j u, (itC [x])[j]? = some u → (w.alloc (.cells #[eU x.1.1, eI x.1.2, eU x.2] 43)).cell? ((⟨w.heap.size, 0, none⟩ : Addr).add j) = some u := by
  intro j u hu
  have hadd : (⟨w.heap.size, 0, none⟩ : Addr).add j = ⟨w.heap.size, 0 + j, none⟩ := by unfold Addr.add; split <;> simp_all
  rw [hadd, Nat.zero_add, (Box.new w 43 #[eU x.1.1, eI x.1.2, eU x.2]).cell j, ← hu]
  match j with
  | 0 => rfl
  | 1 => rfl
  | 2 => rfl
  | n + 3 => rfl
theorem step_appG {w : World} {ops : Array Oper} {o : Oper} {a : Act} {K' : Act → World → Prop} {Q : Exit → Act → World → Prop} {E : Prop} (hw : Region.wanted o (yielded ops a.tmps) = true) (s x : Operand)
    (ho : o.op = .call { callee := .builtin .append, args := #[s, x], argTypes := #[26, 26] })
    (m : Nat) (v : Value) (n : Nat) (X : List It) (hs : a.eval s = v) (hown : w.ownsRow m 43 3 v n (itC X)) (hm : m ≤ w.heap.size)
    (ad : Addr) (k c : Nat) (Y : List It) (hx : a.eval x = .slice (some ad) k c) (hl : Y.length = k) (hflat : ∀ j u, (itC Y)[j]? = some u → w.cell? (ad.add j) = some u) (hn : n + k ≤ 5000) (hne : v ≠ .slice none 0 0 ∨ 0 < k)
    (h : ∀ g cap w', w'.ownsRow m 43 3 (.slice (some ⟨g, 0, none⟩) (n + k) cap) (n + k) (itC (X ++ Y)) → w.grownBy w' v.ownBlock → (v.ownBlock = some g ∨ g = w.heap.size) → K' (a.put o.dst (.slice (some ⟨g, 0, none⟩) (n + k) cap)) w') :
    if Region.wanted o (yielded ops a.tmps) = true then Oper.wp Try.prog o a w K' Q else E := by
  rw [if_pos hw]
  obtain ⟨g, cap, w', hr, h2, h3, h4⟩ := run_app w o.type m v n X hown hm ad k c Y hl hflat hn hne
  unfold Oper.wp execOp
  simp only [ho, resolve, invoke, builtin, Sem.run_bind, Sem.run_pure, Result.andThen_ok, List.map_toArray, List.map_cons, List.map_nil, hs, hx, hr]
  exact h g cap w' h2 h3 h4
theorem put_off {wr w1 w2 w3 : World} {m R g g2 : Nat} {o : Obj} (T1 : Below wr.heap.size wr w1) (h2 : (w1.alloc o).grownBy w2 (some g)) (h3 : w2.grownBy w3 (some g2)) (hg : RS wr m R g) (hgw : g < wr.heap.size) (hat : some g = some g2 ∨ g2 = (w1.alloc o).heap.size) : Off (RS wr m R) wr w3 := by
  have T2 := T1.alloc T1.size o
  have hz := T1.size
  have hz2 : (w1.alloc o).heap.size = w1.heap.size + 1 := by simp
  have hz3 := h2.size
  have hz4 := h3.size
  refine ⟨(h3.os.trans h2.os).trans T2.os, (h3.tape.trans h2.tape).trans T2.tape, (h3.output.trans h2.output).trans T2.output, by omega, fun k hk hn => ?_⟩
  have hkg : k ≠ g := fun e => hn (by rw [e]; exact hg)
  have hkg2 : k ≠ g2 := by
    rcases hat with h | h
    · cases h; exact hkg
    · omega
  exact ((h3.block k (by omega) (fun e => hkg2 (by cases e; rfl))).trans (h2.block k (by omega) (fun e => hkg (by cases e; rfl)))).trans (T2.block k hk)
/-- The last facts ahead of the store. -/
theorem put_all {wr w1 w2 w3 : World} {m R g g2 g3 j n cap cap2 cap3 n3 : Nat} {D : List It} {x : It} {o : Obj} {v : Value} (hmR : m ≤ R) (hB : Box wr R #[v] 28) (hown : wr.ownsRow m 43 3 (.slice (some ⟨g, 0, none⟩) n cap) n (itC D))
    (T1 : Below wr.heap.size wr w1) (hgr2 : (w1.alloc o).grownBy w2 (some g)) (hown2 : w2.ownsRow m 43 3 (.slice (some ⟨g2, 0, none⟩) (j + 1) cap2) (j + 1) (itC (D.take j ++ [x]))) (hat2 : some g = some g2 ∨ g2 = (w1.alloc o).heap.size)
    (hgr3 : w2.grownBy w3 (some g2)) (hown3 : w3.ownsRow m 43 3 (.slice (some ⟨g3, 0, none⟩) n3 cap3) n3 (itC (D.take j ++ [x] ++ D.drop j))) (hst : Stop x D j) :
    Box w3 R #[v] 28 ∧ RwP (w3.setCell ⟨R, 0, none⟩ (.slice (some ⟨g3, 0, none⟩) n3 cap3)) m R (ins x D) ∧ Off (RS wr m R) wr (w3.setCell ⟨R, 0, none⟩ (.slice (some ⟨g3, 0, none⟩) n3 cap3)) := by
  obtain ⟨hmg, _, cur, hg⟩ := owns_box hown
  have hgR : R ≠ g := box_ne hB hg (by decide)
  have b2 : Box w2 R #[v] 28 := (hgr2.block R ((hB.below T1).alloc o).lt (fun e => hgR (by cases e; rfl))).trans ((hB.below T1).alloc o)
  obtain ⟨_, _, cur2, hg2⟩ := owns_box hown2
  have hgR2 : R ≠ g2 := box_ne b2 hg2 (by decide)
  have b3 : Box w3 R #[v] 28 := (hgr3.block R b2.lt (fun e => hgR2 (by cases e; rfl))).trans b2
  have e : D.take j ++ [x] ++ D.drop j = ins x D := by
    have := ins_at hst.2.1 hst.2.2
    rw [List.take_append_drop] at this
    rw [this]; simp
  rw [e] at hown3
  have hl : (ins x D).length = n3 := by have := hown3.1; rw [itC_length] at this; omega
  have hO := put_off (R := R) T1 hgr2 hgr3 ⟨hmg, .inr ⟨cur, hg⟩⟩ hg.lt hat2
  exact ⟨b3, put_end hmR b3 hl hown3 hO⟩
set_option maxRecDepth 100000 in
set_option maxHeartbeats 8000000 in
theorem rwp_put {V : World} {m R : Nat} {D : List It} (x : It) (hx : Word x.1.1 ∧ Inte x.1.2 ∧ Word x.2) (hr : Rise D) (hl : D.length ≤ 500) (h : RwP V m R D) :
    Calls Try.prog 16 #[.pointer (some ⟨R, 0, none⟩), ky x.1, eU x.2] V fun e w' => e = .returned (eI (if has x.1 D then 80 else 0)) ∧ RwP w' m R (putL x D) ∧ Off (RS V m R) V w' := by
  unfold putL
  cases hh : has x.1 D with
  | true =>
    exact (rw_put_twice R x.1 x.2 D V (by omega) h.rw hh).mono fun e w' ⟨x1, x2⟩ => ⟨x1, h.below x2, Off.of x2⟩
  | false =>
    have hno := has_not hh
    have hq : atK x.1 D = none := by
      have := atK_has (k := x.1) (L := D)
      rw [hh] at this
      simpa using this
    have TV := up1 V (.cells #[eU x.1.1, eI x.1.2] 32)
    have bV := Box.new V 32 #[eU x.1.1, eI x.1.2]
    have hA := rw_at R x.1 D (V.alloc (.cells #[eU x.1.1, eI x.1.2] 32)) (by omega) (h.rw.below TV)
    rw [hq] at hA
    have hA : Calls Try.prog 18 #[.pointer (some ⟨R, 0, none⟩), ky x.1] (V.alloc (.cells #[eU x.1.1, eI x.1.2] 32)) fun e w' => e = .returned (.int .i64 (-1)) ∧ Below (V.alloc (.cells #[eU x.1.1, eI x.1.2] 32)).heap.size (V.alloc (.cells #[eU x.1.1, eI x.1.2] 32)) w' := hA
    show Calls _ _ _ _ fun e w' => e = .returned (.int .i64 0) ∧ RwP w' m R (ins x D) ∧ Off (RS V m R) V w'
    obtain ⟨V0, hV0⟩ : ∃ v, V.alloc (.cells #[eU x.1.1, eI x.1.2] 32) = v := ⟨_, rfl⟩
    rw [hV0] at TV bV hA
    obtain ⟨P, hP⟩ : ∃ P, V.heap.size = P := ⟨_, rfl⟩
    rw [hP] at bV
    obtain ⟨z0, z1⟩ := kyC bV
    go_enter Try.func16, Try.ntmps16
    go_upto_region 3 with (go_at_call 18; (with_reducible refine hA.mono ?_); rintro e W ⟨rfl, hbW⟩)
    have TW := upp TV hbW
    have bK0 := bV.below hbW
    obtain ⟨hmR, v, hB0, hown0⟩ := h.below TW
    have hfin : ∀ wr wx, Below W.heap.size W wr → RwP wx m R (ins x D) → Off (RS wr m R) wr wx → RwP wx m R (ins x D) ∧ Off (RS V m R) V wx := fun wr wx h0 h1 h2 => ⟨h1, RS.trans (Off.of (upp TW h0)) h2⟩
    replace hfin := Lib.hid hfin
    clear hbW bV z0 z1 TV hA hq hh h
    rcases (show (v = .slice none 0 0 ∧ D = []) ∨ ∃ g cap, v = .slice (some ⟨g, 0, none⟩) D.length cap from by
      rcases hown0.2 with ⟨h1, h2⟩ | ⟨g, cap, cur, h1, _⟩
      · exact .inl ⟨h1, List.length_eq_zero_iff.1 h2⟩
      · exact .inr ⟨g, cap, h1⟩) with ⟨rfl, rfl⟩ | ⟨g, cap, rfl⟩
    · have hRW := hB0.lt
      first
        | simp only [hP]
        | skip
      clear hV0 TW hP hr hno hl
      have cR0 := hB0.cell 0
      go_wp2
      go_loopw [7] (fun s7 wr => s7 = .int .i64 0 ∧ wr = W) (fun _ _ => 0)
      case atStart => exact ⟨rfl, rfl⟩
      case round =>
        obtain ⟨rfl, rfl⟩ := hrel
        have hun := undef_ne
        go_upto_region 4 with (fail)
        go_cut [32] (fun s32 wx => s32 = .bool false ∧ Below wr.heap.size wr wx)
        case first =>
          go_quiet (fail)
          go_wp2_with fail
          go_meet
          exact ⟨rfl, below_drewN (Below.refl _ _) _⟩
        case rest =>
          obtain ⟨rfl, T⟩ := hcut
          rename World => w0
          have hB := hB0.below T
          have bK := bK0.below T
          have cR := hB.cell 0
          have cA : (w0.alloc (.cells #[] 43)).cell? ⟨R, 0, none⟩ = some (.slice none 0 0) := (hB.alloc _).cell 0
          clear cR0
          go_upto_region 7 with (at_builtin; refine wpList_app_nil rfl (.tmp 35) (.tmp 41) rfl w0.heap.size rfl rfl ?_)
          have T1 := up1 w0 (.cells #[] 43)
          have hB1 := hB.below T1
          have bK1 := bK.below T1
          obtain ⟨w1, hw1⟩ : ∃ v, w0.alloc (.cells #[] 43) = v := ⟨_, rfl⟩
          rw [hw1] at T1 hB1 bK1
          first
            | rw [hw1]
            | skip
          have cR1 := hB1.cell 0
          obtain ⟨k0, k1⟩ := kyC bK1
          have cR2 := (hB1.alloc (.cells #[eU x.1.1, eI x.1.2, eU x.2] 43)).cell 0
          obtain ⟨k2, k3⟩ := kyC (bK1.alloc (.cells #[eU x.1.1, eI x.1.2, eU x.2] 43))
          have hnew := new_it w1 x
          have T2 := T1.alloc T1.size (.cells #[eU x.1.1, eI x.1.2, eU x.2] 43)
          have hz := T1.size
          clear cR cA
          go_cut [] (fun wx => RwP wx m R (ins x []) ∧ Off (RS w0 m R) w0 wx)
          case first =>
            go_region_law
              (first
                | (refine step_appG (by rfl) (.tmp 49) (.tmp 53) (by rfl) w0.heap.size (.slice none 0 0) 0 [] (by rfl) (World.ownsRow_nil _ _ _ _) (by first | (simp; omega) | omega) ⟨w1.heap.size, 0, none⟩ 1 1 [x] (by rfl) rfl (by exact hnew) (by decide) (.inr (by decide)) ?_; intro g2 cap2 w2 hown2 hgr2' hat2'; simp only [Nat.zero_add, List.nil_append] at hown2 ⊢; have hgr2 : (w1.alloc (.cells #[eU x.1.1, eI x.1.2, eU x.2] 43)).grownBy w2 none := ⟨hgr2'.os, hgr2'.tape, hgr2'.output, hgr2'.size, hgr2'.block⟩; have T3 := T2.grown hgr2 T2.size (fun k e => by cases e))
                | (refine step_appG (by rfl) (.tmp 54) (.tmp 55) (by rfl) w0.heap.size (.slice (some ⟨g2, 0, none⟩) 1 cap2) 1 [x] (by rfl) (by exact hown2) (by exact T3.size) ⟨w0.heap.size, 0, none⟩ 0 0 [] (by rfl) rfl (by intro j u hu; simp [itC] at hu) (by decide) (.inl (by simp)) ?_; intro g3 cap3 w3 hown3 hgr3' hat3; have hgr3 : w2.grownBy w3 (some g2) := ⟨hgr3'.os, hgr3'.tape, hgr3'.output, hgr3'.size, hgr3'.block⟩; have T4 := T3.grown hgr3 T3.size (fun k e => (hown2.lt k e).1); have hE := put_end hmR (hB.below T4) rfl (owns_mono hown3 (by have := T.size; omega)) (Off.of (S := RS w0 m R) T4); have c3 := (hB.below T4).cell 0; have f3 := (hB.below T4).thaw 0; have l3 := (hB.below T4).lt))
            all_goals go_wp2_with fail
            all_goals go_meet
            all_goals exact hE
          case rest =>
            obtain ⟨hE1, hE2⟩ := hcut
            go_wp2_with fail
            go_ret
            exact ⟨rfl, hfin.out w0 _ T hE1 hE2⟩
    · have cR := hB0.cell 0
      have hce := Lib.hid (row_cells (itC_row hown0))
      have hcap0 := (owns_box hown0).2.1
      have hcn : (D.length : Int) ≤ (cap : Int) := by omega
      replace hr := Lib.hid hr
      replace hno := Lib.hid hno
      first
        | simp only [hP]
        | skip
      clear hV0 TW hP
      go_wp2
      go_loopw [7] (fun s7 wr => ∃ j : Nat, s7 = .int .i64 j ∧ j ≤ D.length ∧ Hid (Hi x.1 (D.drop j)) ∧ Below W.heap.size W wr) (fun s7 _ => (intOf s7).toNat)
      case atStart => exact ⟨D.length, rfl, Nat.le_refl _, Lib.hid (by rw [List.drop_length]; intro a ha; cases ha), Below.refl _ _⟩
      case round =>
        obtain ⟨j, rfl, hj, hhi, T⟩ := hrel
        have hun := undef_ne
        rcases (show (j = 0 ∧ Stop x D j) ∨ ∃ p y, j = p + 1 ∧ (∃ hp : p < D.length, y = D[p]) ∧ ((kLt x.1 y.1 ∧ Hi x.1 (D.drop p)) ∨ (kLt y.1 x.1 ∧ Stop x D j)) from by
          rcases Nat.eq_zero_or_pos j with h0 | h0
          · exact .inl ⟨h0, hj, by subst h0; intro a ha; simp at ha, hhi.out⟩
          · have hp : j - 1 < D.length := by omega
            refine .inr ⟨j - 1, D[j - 1], by omega, ⟨hp, rfl⟩, ?_⟩
            have ed : D.drop (j - 1) = D[j - 1] :: D.drop j := by rw [List.drop_eq_getElem_cons hp, Nat.sub_add_cancel h0]
            have et : D.take j = D.take (j - 1) ++ [D[j - 1]] := by
              have := List.take_succ_eq_append_getElem hp
              rwa [Nat.sub_add_cancel h0] at this
            rcases kLt_tri x.1 (D[j - 1]).1 with h | h | h
            · refine .inl ⟨h, fun a ha => ?_⟩
              rw [ed] at ha
              rcases List.mem_cons.1 ha with rfl | ha
              · exact h
              · exact hhi.out a ha
            · exact absurd h.symm (hno.out _ (List.getElem_mem hp))
            · refine .inr ⟨h, hj, ?_, hhi.out⟩
              rw [et]
              refine lo_of ?_ h
              rw [← et]
              exact hr.out.sublist (List.take_sublist _ _)) with ⟨h0, hst⟩ | ⟨p, y, hjp, ⟨hp, hy⟩, hcase⟩
        · have g0 : decide (0 < j) = false := by simp; omega
          clear h0 hhi hce
          replace hst := Lib.hid hst
          go_upto_region 4 with (fail)
          go_cut [32] (fun s32 wx => s32 = .bool false ∧ Below W.heap.size W wx)
          case first =>
            go_quiet (fail)
            go_wp2_with fail
            go_meet
            exact ⟨rfl, below_drewN T _⟩
          case rest =>
            clear T
            obtain ⟨rfl, T⟩ := hcut
            rename World => wr
            have hB := hB0.below T
            have hown := owns_below hown0 T
            have bK := bK0.below T
            obtain ⟨hmg, hcap, cur, hgB⟩ := owns_box hown
            have hgW := hgB.lt
            have i4 : (0 : Int) ≤ (j : Int) := by omega
            have i5 : (j : Int) ≤ (D.length : Int) := by omega
            have i6 : (j : Int) ≤ (cap : Int) := by omega
            obtain ⟨ad2, had2, had3, had2'⟩ : ∃ q : Addr, (if cap = j then some (⟨g, 0, none⟩ : Addr) else some ⟨g, j * 3, none⟩) = some q ∧ q.block = g ∧ (D.drop j ≠ [] → q = ⟨g, j * 3, none⟩) := by
              by_cases h : cap = j
              · rw [if_pos h]
                exact ⟨_, rfl, rfl, fun h2 => absurd (List.drop_eq_nil_of_le (by omega)) h2⟩
              · rw [if_neg h]
                exact ⟨_, rfl, rfl, fun _ => rfl⟩
            have hfl2 : ∀ i u, (itC (D.drop j))[i]? = some u → (wr.alloc (.cells #[] 43)).cell? (ad2.add i) = some u := fun i u hu => by
              have := flat_from hown (k := j) had2' i u hu
              have e : (ad2.add i).block = g := by have : ad2.block = g := had3; unfold Addr.add; split <;> simp_all
              exact ((up1 wr (.cells #[] 43)).cell (p := ad2.add i) (by rw [e]; exact hgW)).trans this
            have hl2 : (D.drop j).length = D.length - j := List.length_drop
            have hk6 : 0 + (D.length - j) ≤ 5000 := by omega
            have hk7 : j + 1 ≤ 5000 := by omega
            have hk8 : j + 1 + (D.length - j) ≤ 5000 := by omega
            have hown_j := owns_take hown (k := j) (by omega)
            have hW1 : ∀ w1, (wr.alloc (.cells #[] 43)).grownBy w1 (some wr.heap.size) → Below wr.heap.size wr w1 := fun w1 h => (up1 wr (.cells #[] 43)).grown h (by simp) (fun k e => by cases e; exact Nat.le_refl _)
            have cR := hB.cell 0
            have cA : (wr.alloc (.cells #[] 43)).cell? ⟨R, 0, none⟩ = some (.slice (some ⟨g, 0, none⟩) D.length cap) := (hB.alloc _).cell 0
            have hTw := T.size
            clear hB0 hown0 bK0 hgB
            go_upto_region 7 with (at_builtin; (refine wpList_app rfl (.tmp 35) (.tmp 41) rfl wr.heap.size (.slice (some ⟨wr.heap.size, 0, none⟩) 0 0) 0 [] rfl (own0 (Box.new wr 43 #[]) (Nat.le_refl _)) (by simp) ad2 (D.length - j) (cap - j) (D.drop j) rfl hl2 hfl2 hk6 (.inl (by simp)) ?_; intro g1 cap1 w1 hown1 hgr1 hat1; simp only [Nat.zero_add, List.nil_append] at hown1; have T1 := hW1 w1 hgr1))
            have hownT := owns_below hown_j T1
            have hB1 := hB.below T1
            have bK1 := bK.below T1
            have cR1 := hB1.cell 0
            obtain ⟨k0, k1⟩ := kyC bK1
            have hz1 := T1.size
            have cR2 := (hB1.alloc (.cells #[eU x.1.1, eI x.1.2, eU x.2] 43)).cell 0
            obtain ⟨k2, k3⟩ := kyC (bK1.alloc (.cells #[eU x.1.1, eI x.1.2, eU x.2] 43))
            have hnew := new_it w1 x
            clear cR cA hfl2 had2 had2'
            go_cut [] (fun wx => RwP wx m R (ins x D) ∧ Off (RS wr m R) wr wx)
            case first =>
              go_region_law
                (first
                  | (refine step_appG (by rfl) (.tmp 49) (.tmp 53) (by rfl) m (.slice (some ⟨g, 0, none⟩) j cap) j (D.take j) (by rfl) (by first | exact hownT.alloc _ | exact (hownT.alloc _).kept (World.grownBy.refl _ _) (.inl rfl)) (by first | (simp; omega) | omega) ⟨w1.heap.size, 0, none⟩ 1 1 [x] (by rfl) rfl (by exact hnew) hk7 (.inl (by simp)) ?_; intro g2 cap2 w2 hown2 hgr2' hat2'; have hgr2 : (w1.alloc (.cells #[eU x.1.1, eI x.1.2, eU x.2] 43)).grownBy w2 (some g) := ⟨hgr2'.os, hgr2'.tape, hgr2'.output, hgr2'.size, hgr2'.block⟩; have hat2 : some g = some g2 ∨ g2 = (w1.alloc (.cells #[eU x.1.1, eI x.1.2, eU x.2] 43)).heap.size := hat2'; have hr2 := (hown1.alloc (.cells #[eU x.1.1, eI x.1.2, eU x.2] 43)).kept hgr2 (.inr (by have := (owns_box hown1).1; simp [Value.ownBlock]; omega)); have hz2 := hgr2.size)
                  | (refine step_appG (by rfl) (.tmp 54) (.tmp 55) (by rfl) m (.slice (some ⟨g2, 0, none⟩) (j + 1) cap2) (j + 1) (D.take j ++ [x]) (by rfl) (by exact hown2) (by first | (simp at hz2; omega) | (simp at hz2 ⊢; omega)) ⟨g1, 0, none⟩ (D.length - j) cap1 (D.drop j) (by rfl) hl2 (by exact hr2.cells (g := g1) rfl) hk8 (.inl (by simp)) ?_; intro g3 cap3 w3 hown3 hgr3' hat3; have hgr3 : w2.grownBy w3 (some g2) := ⟨hgr3'.os, hgr3'.tape, hgr3'.output, hgr3'.size, hgr3'.block⟩; obtain ⟨hB3, hE⟩ := put_all hmR hB hown T1 hgr2 hown2 hat2 hgr3 hown3 hst.out; have c3 := hB3.cell 0; have f3 := hB3.thaw 0; have l3 := hB3.lt))
              all_goals go_wp2_with fail
              all_goals go_meet
              all_goals exact hE
            case rest =>
              obtain ⟨hE1, hE2⟩ := hcut
              go_wp2_with fail
              go_ret
              exact ⟨rfl, hfin.out wr _ T hE1 hE2⟩
        · have g0 : decide (0 < j) = true := by simp; omega
          have j1 : (p : Int) < (D.length : Int) := by omega
          have j2 : (0 : Int) ≤ (p : Int) := by omega
          have j3 : IntKind.i64.wrap ((j : Int) - 1) = (p : Int) := by
            have : (j : Int) - 1 = (p : Int) := by omega
            rw [this]
            simp [IntKind.wrap, IntKind.bits, IntKind.signed]; omega
          obtain ⟨g', o', e, _, y1, y2, y3⟩ := hce.out p wr hp T
          cases e
          rw [← hy] at y1 y2 y3
          simp only [Nat.zero_add] at y1 y2 y3
          have cR1 := (hB0.below T).cell 0
          obtain ⟨k0, k1⟩ := kyC (bK0.below T)
          have hgl : g < wr.heap.size := Nat.lt_of_lt_of_le (by obtain ⟨_, _, cur, hgB⟩ := owns_box hown0; exact hgB.lt) T.size
          obtain ⟨b, hdb⟩ : ∃ b, decide (kLt x.1 y.1) = b := ⟨_, rfl⟩
          have hcase2 : (b = true ∧ Hi x.1 (D.drop p)) ∨ (b = false ∧ Stop x D j) := by
            rcases hcase with ⟨h1, h2⟩ | ⟨h1, h2⟩
            · exact .inl ⟨by rw [← hdb]; simpa using h1, h2⟩
            · exact .inr ⟨by rw [← hdb]; simpa using kLt_asym h1, h2⟩
          replace hcase2 := Lib.hid hcase2
          clear hcase hy hhi hce
          obtain ⟨⟨a1, a2⟩, a3⟩ := y
          dsimp only at *
          go_upto_region 4 with (fail)
          go_cut [32] (fun s32 wx => s32 = .bool b ∧ Below W.heap.size W wx)
          case first =>
            have hS : ∀ w', Below wr.heap.size wr w' → (w'.cell? ⟨P, 0, none⟩ = some (.int .u64 x.1.1) ∧ w'.cell? ⟨P, 1, none⟩ = some (.int .i64 x.1.2)) ∧ w'.cell? ⟨R, 0, none⟩ = some (.slice (some ⟨g, 0, none⟩) D.length cap) ∧ w'.cell? ⟨g, p * 3, none⟩ = some (.int .u64 a1) ∧ w'.cell? ⟨g, p * 3 + 1, none⟩ = some (.int .i64 a2) := fun w' hb =>
              ⟨kyC (bK0.below (upp T hb)), (hB0.below (upp T hb)).cell 0, (hb.cell (p := ⟨g, _, none⟩) hgl).trans y1, (hb.cell (p := ⟨g, _, none⟩) hgl).trans y2⟩
            have T0 := Below.refl wr.heap.size wr
            obtain ⟨⟨_, _⟩, _, _, _⟩ := hS wr T0
            clear hjp hcase2
            go_region_held3 (fun w' => (w'.cell? ⟨P, 0, none⟩ = some (.int .u64 x.1.1) ∧ w'.cell? ⟨P, 1, none⟩ = some (.int .i64 x.1.2)) ∧ w'.cell? ⟨R, 0, none⟩ = some (.slice (some ⟨g, 0, none⟩) D.length cap) ∧ w'.cell? ⟨g, p * 3, none⟩ = some (.int .u64 a1) ∧ w'.cell? ⟨g, p * 3 + 1, none⟩ = some (.int .i64 a2))
              (first | exact hS _ T0 | exact hS _ T0.drew | exact hS _ T6 | exact hS _ T6.drew)
              (first | (go_at_call 44; (with_reducible refine (rless_any x.1 (a1, a2) _).mono ?_); rintro e w6 ⟨rfl, hb⟩; (first | replace hb := undrew hb | replace hb := undrewN hb | skip); have T6 := upp T0 hb; rw [hdb]))
            all_goals go_wp2_with fail
            all_goals go_meet
            all_goals first
              | exact ⟨rfl, upp T T6⟩
              | exact ⟨rfl, upp T T6.drew⟩
          case rest =>
            clear T y1 y2 y3 k0 k1 cR1 hdb hgl
            obtain ⟨rfl, T⟩ := hcut
            rename World => wr
            rcases hcase2.out with ⟨rfl, h2⟩ | ⟨rfl, hst⟩
            · replace h2 := Lib.hid h2
              clear hcase2
              go_wp2_with fail
              exact ⟨⟨p, rfl, by omega, h2, T⟩, by simp [intOf]; omega⟩
            · replace hst := Lib.hid hst
              clear hcase2 hjp g0 j1 j2 j3 hp
              have hB := hB0.below T
              have hown := owns_below hown0 T
              have bK := bK0.below T
              obtain ⟨hmg, hcap, cur, hgB⟩ := owns_box hown
              have hgW := hgB.lt
              have i4 : (0 : Int) ≤ (j : Int) := by omega
              have i5 : (j : Int) ≤ (D.length : Int) := by omega
              have i6 : (j : Int) ≤ (cap : Int) := by omega
              obtain ⟨ad2, had2, had3, had2'⟩ : ∃ q : Addr, (if cap = j then some (⟨g, 0, none⟩ : Addr) else some ⟨g, j * 3, none⟩) = some q ∧ q.block = g ∧ (D.drop j ≠ [] → q = ⟨g, j * 3, none⟩) := by
                by_cases h : cap = j
                · rw [if_pos h]
                  exact ⟨_, rfl, rfl, fun h2 => absurd (List.drop_eq_nil_of_le (by omega)) h2⟩
                · rw [if_neg h]
                  exact ⟨_, rfl, rfl, fun _ => rfl⟩
              have hfl2 : ∀ i u, (itC (D.drop j))[i]? = some u → (wr.alloc (.cells #[] 43)).cell? (ad2.add i) = some u := fun i u hu => by
                have := flat_from hown (k := j) had2' i u hu
                have e : (ad2.add i).block = g := by have : ad2.block = g := had3; unfold Addr.add; split <;> simp_all
                exact ((up1 wr (.cells #[] 43)).cell (p := ad2.add i) (by rw [e]; exact hgW)).trans this
              have hl2 : (D.drop j).length = D.length - j := List.length_drop
              have hk6 : 0 + (D.length - j) ≤ 5000 := by omega
              have hk7 : j + 1 ≤ 5000 := by omega
              have hk8 : j + 1 + (D.length - j) ≤ 5000 := by omega
              have hown_j := owns_take hown (k := j) (by omega)
              have hW1 : ∀ w1, (wr.alloc (.cells #[] 43)).grownBy w1 (some wr.heap.size) → Below wr.heap.size wr w1 := fun w1 h => (up1 wr (.cells #[] 43)).grown h (by simp) (fun k e => by cases e; exact Nat.le_refl _)
              have cR := hB.cell 0
              have cA : (wr.alloc (.cells #[] 43)).cell? ⟨R, 0, none⟩ = some (.slice (some ⟨g, 0, none⟩) D.length cap) := (hB.alloc _).cell 0
              have hTw := T.size
              clear hB0 hown0 bK0 hgB
              go_upto_region 7 with (at_builtin; (refine wpList_app rfl (.tmp 35) (.tmp 41) rfl wr.heap.size (.slice (some ⟨wr.heap.size, 0, none⟩) 0 0) 0 [] rfl (own0 (Box.new wr 43 #[]) (Nat.le_refl _)) (by simp) ad2 (D.length - j) (cap - j) (D.drop j) rfl hl2 hfl2 hk6 (.inl (by simp)) ?_; intro g1 cap1 w1 hown1 hgr1 hat1; simp only [Nat.zero_add, List.nil_append] at hown1; have T1 := hW1 w1 hgr1))
              have hownT := owns_below hown_j T1
              have hB1 := hB.below T1
              have bK1 := bK.below T1
              have cR1 := hB1.cell 0
              obtain ⟨k0, k1⟩ := kyC bK1
              have hz1 := T1.size
              have cR2 := (hB1.alloc (.cells #[eU x.1.1, eI x.1.2, eU x.2] 43)).cell 0
              obtain ⟨k2, k3⟩ := kyC (bK1.alloc (.cells #[eU x.1.1, eI x.1.2, eU x.2] 43))
              have hnew := new_it w1 x
              clear cR cA hfl2 had2 had2'
              go_cut [] (fun wx => RwP wx m R (ins x D) ∧ Off (RS wr m R) wr wx)
              case first =>
                go_region_law
                  (first
                    | (refine step_appG (by rfl) (.tmp 49) (.tmp 53) (by rfl) m (.slice (some ⟨g, 0, none⟩) j cap) j (D.take j) (by rfl) (by first | exact hownT.alloc _ | exact (hownT.alloc _).kept (World.grownBy.refl _ _) (.inl rfl)) (by first | (simp; omega) | omega) ⟨w1.heap.size, 0, none⟩ 1 1 [x] (by rfl) rfl (by exact hnew) hk7 (.inl (by simp)) ?_; intro g2 cap2 w2 hown2 hgr2' hat2'; have hgr2 : (w1.alloc (.cells #[eU x.1.1, eI x.1.2, eU x.2] 43)).grownBy w2 (some g) := ⟨hgr2'.os, hgr2'.tape, hgr2'.output, hgr2'.size, hgr2'.block⟩; have hat2 : some g = some g2 ∨ g2 = (w1.alloc (.cells #[eU x.1.1, eI x.1.2, eU x.2] 43)).heap.size := hat2'; have hr2 := (hown1.alloc (.cells #[eU x.1.1, eI x.1.2, eU x.2] 43)).kept hgr2 (.inr (by have := (owns_box hown1).1; simp [Value.ownBlock]; omega)); have hz2 := hgr2.size)
                    | (refine step_appG (by rfl) (.tmp 54) (.tmp 55) (by rfl) m (.slice (some ⟨g2, 0, none⟩) (j + 1) cap2) (j + 1) (D.take j ++ [x]) (by rfl) (by exact hown2) (by first | (simp at hz2; omega) | (simp at hz2 ⊢; omega)) ⟨g1, 0, none⟩ (D.length - j) cap1 (D.drop j) (by rfl) hl2 (by exact hr2.cells (g := g1) rfl) hk8 (.inl (by simp)) ?_; intro g3 cap3 w3 hown3 hgr3' hat3; have hgr3 : w2.grownBy w3 (some g2) := ⟨hgr3'.os, hgr3'.tape, hgr3'.output, hgr3'.size, hgr3'.block⟩; obtain ⟨hB3, hE⟩ := put_all hmR hB hown T1 hgr2 hown2 hat2 hgr3 hown3 hst.out; have c3 := hB3.cell 0; have f3 := hB3.thaw 0; have l3 := hB3.lt))
                all_goals go_wp2_with fail
                all_goals go_meet
                all_goals exact hE
              case rest =>
                obtain ⟨hE1, hE2⟩ := hcut
                go_wp2_with fail
                go_ret
                exact ⟨rfl, hfin.out wr _ T hE1 hE2⟩
end Go.Proofs.Ytjfpemkdidoacaa
