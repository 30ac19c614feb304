/- A copy that starts now is put behind those kept. -/
import Derived.Test.YtknpfcnjnpcboaaSgA
import Derived.WalkMore
import Derived.Deep.RegionLaw
namespace Go.Proofs.Ytknpfcnjnpcboaa
open Go.RowKit Go.Shelf W
set_option linter.unusedVariables false
set_option maxRecDepth 100000
/-- All that lay stays, but block B and one row. -/
structure Fr (B : Nat) (row : Option Nat) (w w' : World) : Prop where
  os : w'.os = w.os
  tape : w'.tape = w.tape
  output : w'.output = w.output
  size : w.heap.size ≤ w'.heap.size
  block : ∀ j, j < w.heap.size → j ≠ B → some j ≠ row → w'.heap[j]? = w.heap[j]?
theorem Fr.of {B : Nat} {row : Option Nat} {w w' : World} (h : But B w w') : Fr B row w w' := ⟨h.os, h.tape, h.output, h.size, fun j h1 h2 _ => h.block j h1 h2⟩
theorem Fr.trans {B : Nat} {row row' : Option Nat} {a b c : World} (h : Fr B row a b) (k : Fr B row' b c) (hr : ∀ g, row' = some g → row = some g ∨ a.heap.size ≤ g) : Fr B row a c :=
  ⟨k.os.trans h.os, k.tape.trans h.tape, k.output.trans h.output, Nat.le_trans h.size k.size, fun j h1 h2 h3 => (k.block j (Nat.lt_of_lt_of_le h1 h.size) h2 (fun e => by
    rcases hr j e.symm with h4 | h4
    · exact h3 h4.symm
    · omega)).trans (h.block j h1 h2 h3)⟩
theorem Fr.below {B n : Nat} {row : Option Nat} {w w' : World} (h : Fr B row w w') (hB : n ≤ B) (hn : n ≤ w.heap.size) (hr : ∀ g, row = some g → n ≤ g) : Below n w w' :=
  ⟨h.os, h.tape, h.output, h.size, fun k hk => h.block k (Nat.lt_of_lt_of_le hk hn) (Nat.ne_of_lt (Nat.lt_of_lt_of_le hk hB)) (fun e => by have := hr k e.symm; omega)⟩
theorem Fr.box {B B' : Nat} {row : Option Nat} {w w' : World} {vs : Array Value} {t : TypeId} (h : Fr B row w w') (b : Box w B' vs t) (hne : B' ≠ B) (hr : some B' ≠ row) : Box w' B' vs t := (h.block B' b.lt hne hr).trans b
theorem two_new (w : World) (x y : Int) : ∀ j u, [eU x, eU y][j]? = some u → (w.alloc (.cells #[eU x, eU y] 59)).cell? ((⟨w.heap.size, 0, none⟩ : Addr).add j) = some u := by
  intro j u hj
  match j, hj with
  | 0, hj => simp at hj; subst hj; simp [Addr.add]
  | 1, hj => simp at hj; subst hj; simp [Addr.add]
/-- One copy more onto the first n of those kept: at a step of a region that draws its order. -/
theorem step_append_kept {w : World} {ops : Array Oper} {o : Oper} {a : Act} {K' : Act → World → Prop} {Q : Exit → Act → World → Prop} {E : Prop} (hgd : o.guard = none) (s x : Operand)
    (ho : o.op = .call { callee := .builtin .append, args := #[s, x], argTypes := #[39, 39] }) (m n : Nat) (V : Value) (K : List (Int × Int)) (k : Int × Int) (hs : a.eval s = V)
    (hV : (V = .slice none 0 0 ∧ n = 0) ∨ ∃ g o cap, V = .slice (some ⟨g, o, none⟩) n cap ∧ m ≤ g ∧ RowAt w g o cap K) (hn : n ≤ K.length) (hn2 : n ≤ 1000)
    (ad : Addr) (c : Nat) (hx : a.eval x = .slice (some ad) 1 c) (hnews : ∀ j u, [eU k.1, eU k.2][j]? = some u → w.cell? (ad.add j) = some u) (hm : m ≤ w.heap.size)
    (h : ∀ g o' cap w', RowAt w' g o' cap (K.take n ++ [k]) → w.grownBy w' V.ownBlock → m ≤ g → (V.ownBlock = some g ∨ g = w.heap.size) → K' (a.put o.dst (.slice (some ⟨g, o', none⟩) (n + 1) cap)) w') :
    if Region.wanted o (yielded ops a.tmps) = true then Oper.wp Try.prog o a w K' Q else E := by
  have hw : Region.wanted o (yielded ops a.tmps) = true := by simp [Region.wanted, hgd]
  rw [if_pos hw]
  obtain ⟨g, o', cap, w', hr, h1, h2, h3, h4⟩ := run_append_kept w o.type Try.underlying39 m n V K k hV hn hn2 ad c hnews hm
  unfold Oper.wp execOp
  simp only [ho, resolve, invoke, builtin, Sem.run_bind, Sem.run_pure, Result.andThen_ok, List.map_toArray, List.map_cons, List.map_nil, hs, hx, hr]
  exact h g o' cap w' h1 h2 h3 h4
/-- Behind an append: block B, and what else is. -/
theorem grown_box {w w' : World} {row : Option Nat} {B : Nat} {u : Array Value} {t : TypeId} (hg : w.grownBy w' row) (b : Box w B u t) (h : row ≠ some B) : Box w' B u t := (hg.block B b.lt (fun e => h e.symm)).trans b
/-- What is laid in the end. -/
theorem join_fin {w wr w2 : World} {m B n nn g o' cap' : Nat} {K : List (Int × Int)} {f l r x y0 k : Int} {v V : Value} {ob : Obj} (hBm : B < w.heap.size) (hT : Below w.heap.size w wr) (hgrow : (wr.alloc ob).drew.grownBy w2 V.ownBlock) (hVo : V.ownBlock = v.ownBlock)
    (hbx : SgB w2 B f l r v x k true) (hrow : RowAt w2 g o' cap' (K.take n ++ [(x, y0)])) (hmg : m ≤ g) (hat : V.ownBlock = some g ∨ g = (wr.alloc ob).drew.heap.size) (hn : n ≤ K.length) (hJ : IsJoin f l r x y0 K (K.take n ++ [(x, y0)])) (hnn : nn = n + 1) :
    (∃ v' K', SgB (w2.setCell ⟨B, 6, none⟩ (.slice (some ⟨g, o', none⟩) nn cap')) B f l r v' x k true ∧ KeptAt (w2.setCell ⟨B, 6, none⟩ (.slice (some ⟨g, o', none⟩) nn cap')) m v' K' ∧ IsJoin f l r x y0 K K' ∧ (v'.ownBlock = v.ownBlock ∨ ∃ g, v'.ownBlock = some g ∧ w.heap.size ≤ g)) ∧
      Fr B v.ownBlock w (w2.setCell ⟨B, 6, none⟩ (.slice (some ⟨g, o', none⟩) nn cap')) := by
  have hu := (hT.trans ((up1 wr ob).drew.mono hT.size))
  have hl : (K.take n ++ [(x, y0)]).length = nn := by simp; omega
  refine ⟨⟨_, K.take n ++ [(x, y0)], hbx.put _, .inr ⟨g, o', cap', by rw [hl], hmg, hrow.of (Below.heap_setCell _ _ _ g (hrow.ne hbx (by decide)))⟩, hJ, ?_⟩, ⟨hgrow.os.trans hu.os, hgrow.tape.trans hu.tape, hgrow.output.trans hu.output, ?_, fun j h1 h2 h3 => ?_⟩⟩
  · rcases hat with h | h
    · exact .inl (by rw [← hVo, h]; rfl)
    · exact .inr ⟨g, rfl, by rw [h]; exact hu.size⟩
  · have := hgrow.size
    have := hu.size
    simp only [World.setCell, Array.size_modify]
    omega
  · rw [Below.heap_setCell _ _ _ j (by exact h2), hgrow.block j (Nat.lt_of_lt_of_le h1 hu.size) (by rw [hVo]; exact h3)]
    exact hu.block j h1
set_option maxHeartbeats 8000000 in
theorem sg_join (m B : Nat) (K : List (Int × Int)) (f l r x y0 k : Int) (v : Value) (w : World) (hn2 : K.length ≤ 900) (hS : SgB w B f l r v x k true) (hR : KeptAt w m v K) (hmw : m ≤ w.heap.size) (hc : CvS f l r) (hx : 0 ≤ x ∧ x ≤ 9223372036854775808)
    (hy : 0 ≤ y0 ∧ y0 ≤ 4611686018427387904) (hK : ∀ k ∈ K, 0 ≤ k.1 ∧ k.1 ≤ x ∧ 0 ≤ k.2 ∧ k.2 ≤ 4611686018427387904) :
    Calls Try.prog 37 #[.pointer (some ⟨B, 0, none⟩), .agg #[eU x, eU y0]] w fun e w' => e = .returned (.tuple #[]) ∧
      (∃ v' K', SgB w' B f l r v' x k true ∧ KeptAt w' m v' K' ∧ IsJoin f l r x y0 K K' ∧ (v'.ownBlock = v.ownBlock ∨ ∃ g, v'.ownBlock = some g ∧ w.heap.size ≤ g)) ∧ Fr B v.ownBlock w w' := by
  obtain ⟨hf, hl, hr, hm, hfr⟩ := hc
  obtain ⟨hf1, hr1, hl1, _⟩ := id hm
  have xw : Word x := by unfold Word; omega
  have yw : Word y0 := by unfold Word; omega
  have hW := fun w => b_whole_any (x, y0) f l r x w xw yw ⟨hf.1, hf1⟩ hl ⟨hr.1, hr1⟩ xw (Int.le_refl _)
  rw [hv_now hl.1] at hW
  obtain ⟨A1, hA1⟩ : ∃ z, hi6 y0 = z := ⟨_, rfl⟩
  obtain ⟨A2, hA2⟩ : ∃ z, lo6 y0 = z := ⟨_, rfl⟩
  rw [hA1, hA2] at hW
  have hW : ∀ w, Calls Try.prog 53 #[.agg #[eU x, eU y0], .agg #[eU f, eU l, eU r], eU x] w fun e w' => e = .returned (.agg #[eU A1, eU A2]) ∧ Below w.heap.size w w' := hW
  have hA := Lib.hid (show hi6 y0 = A1 ∧ lo6 y0 = A2 from ⟨hA1, hA2⟩)
  clear hA1 hA2
  have B1 := Box.new w 59 #[eU x, eU y0]
  have T := up1 w (.cells #[eU x, eU y0] 59)
  obtain ⟨W0, hW0⟩ : ∃ W0, w.alloc (.cells #[eU x, eU y0] 59) = W0 := ⟨_, rfl⟩
  have hz : W0.heap.size = w.heap.size + 1 := by rw [← hW0]; simp
  rw [hW0] at B1 T
  have hSh := Lib.hid hS
  have hRh := Lib.hid hR
  have hKh := Lib.hid hK
  have hS0 := hS.below T
  have S1 : ∀ w', Below W0.heap.size W0 w' → SgC w' B f l r v x k true ∧ w'.cell? ⟨w.heap.size, 0, none⟩ = some (.int .u64 x) ∧ w'.cell? ⟨w.heap.size, 1, none⟩ = some (.int .u64 y0) := fun w' hb => ⟨(hS0.below hb).cells, (B1.below hb).two⟩
  have S1h := Lib.hid S1
  have T0h := Lib.hid T
  have B1h := Lib.hid B1
  have S00 := Lib.hid (S1 W0 (Below.refl _ _))
  have hS0h := Lib.hid hS0
  have hzh := Lib.hid hz
  clear hS hR hK S1 hS0 hz T B1
  go_enter Try.func37, Try.ntmps37
  go_upto_region 1 with fail
  apply wp_scope_straight
  go_upto_region 1 with fail
  go_cut [4] (fun s4 wx => ∃ M : Nat, s4 = .pointer (some ⟨M, 0, none⟩) ∧ Has wx M A1 A2 ∧ Below W0.heap.size W0 wx)
  case first =>
    obtain ⟨⟨c0, c1, c2, c3, c4, c5, c6, c7, c8, c9⟩, k0, k1⟩ := S00.out
    go_region_held3 (fun w' => SgC w' B f l r v x k true ∧ w'.cell? ⟨w.heap.size, 0, none⟩ = some (.int .u64 x) ∧ w'.cell? ⟨w.heap.size, 1, none⟩ = some (.int .u64 y0))
      (first | exact S00.out | exact S1h.out _ T1 | exact S1h.out _ (Below.refl _ _).drew | exact S1h.out _ (up1 _ _) | exact S1h.out _ (up1 _ _).drew | exact S1h.out _ ((up1 _ _).drew.alloc (by simp) _) | exact S1h.out _ (T1.alloc T1.size _) | exact S1h.out _ ((T1.setCell (by simp) _).setCell (by simp) _) | exact S1h.out _ ((T1.setCell (by exact Nat.le_refl _) _).setCell (by exact Nat.le_refl _) _))
      (first | (go_at_call 53; (with_reducible refine (hW _).mono ?_); rintro e w1 ⟨rfl, hb⟩; (first | replace hb := undrew hb | replace hb := undrewN hb | skip); (first | (have HN := (Own.new W0 0 0).below hb; have T1 := up (up1 W0 _) hb (up1 W0 _).size; obtain ⟨⟨xN, yN, zN⟩, fN, gN⟩ := id HN) | (have T1 : Below W0.heap.size W0 w1 := hb))))
    all_goals go_wp2_with fail
    all_goals go_meet
    all_goals first
      | exact ⟨_, rfl, Has.new _ _ _, T1.alloc T1.size _⟩
      | exact ⟨_, rfl, (HN.store A1 A2).1, (T1.setCell (by exact Nat.le_refl _) _).setCell (by exact Nat.le_refl _) _⟩
  case rest =>
    obtain ⟨M, rfl, HM, T⟩ := hcut
    rename World => W1
    clear hW S00
    obtain ⟨ad, cap, rfl, hcap⟩ := hRh.out.len
    have hc6 := (S1h.out _ T).1.2.2.2.2.2.2.1
    go_wp2
    go_step3
    go_wp2
    go_loopw [5] (fun s5 wr => ∃ n : Nat, s5 = .int .i64 n ∧ n ≤ K.length ∧ (∀ i a, n ≤ i → K[i]? = some a → y0 ≤ hv f l r a x) ∧ Below W1.heap.size W1 wr) (fun s5 _ => (intOf s5).toNat)
    case atStart => exact ⟨K.length, rfl, Nat.le_refl _, fun i a hi e => (by rw [List.getElem?_eq_none hi] at e; cases e), Below.refl _ _⟩
    case round =>
      obtain ⟨n, rfl, hn, hge, T2⟩ := hrel
      have hgeh := Lib.hid hge
      clear hge hc6
      by_cases h0 : n = 0
      · subst h0
        have hJ := Lib.hid (show IsJoin f l r x y0 K (K.take 0 ++ [(x, y0)]) from ⟨0, by omega, hgeh.out, .inl ⟨rfl, rfl⟩⟩)
        have i0 : ¬ ((0 : Int) < 0) := by omega
        go_upto_region 8 with fail
        have T3 := up T T2 T.size
        have hSx := hS0h.out.below T3
        obtain ⟨⟨c0, c1, c2, c3, c4, c5, c6, c7, c8, c9⟩, k0, k1⟩ := S1h.out _ T3
        have f6 := Box.thaw hSx 6
        clear c0 c1 c2 c3 c4 c5 c7 c8 c9
        have T4 := up T0h.out T3 T0h.out.size
        have hV : ((Value.slice ad 0 cap = .slice none 0 0 ∧ 0 = 0) ∨ ∃ g o c, Value.slice ad 0 cap = .slice (some ⟨g, o, none⟩) 0 c ∧ m ≤ g ∧ RowAt (wr.alloc (.cells #[eU x, eU y0] 59)) g o c K) := by
          have hRx := (hRh.out.below T4).below (up1 wr (.cells #[eU x, eU y0] 59))
          rcases hRx with ⟨e, e0⟩ | ⟨g, o, c, e, h1, h2⟩
          · injection e with e1 e2 e3; subst e1; subst e3
            have h7 : K.length = 0 := by rw [e0]; rfl
            have h8 : 0 = 0 := by omega
            exact .inl ⟨by rw [h8], h8⟩
          · injection e with e1 e2 e3; subst e1; subst e3; exact .inr ⟨g, o, _, rfl, h1, h2⟩
        have hSy : SgB ((wr.alloc (.cells #[eU x, eU y0] 59)).drew) B f l r (.slice ad K.length cap) x k true := hSx.below (up1 wr _).drew
        have c6a : (wr.alloc (.cells #[.int .u64 x, .int .u64 y0] 59)).cell? ⟨B, 6, none⟩ = some (.slice ad K.length cap) := (hSx.below (up1 wr _)).cells.2.2.2.2.2.2.1
        have hVo : (Value.slice ad 0 cap).ownBlock = (Value.slice ad K.length cap).ownBlock := by cases ad <;> rfl
        have hneB : (Value.slice ad 0 cap).ownBlock ≠ some B := by
          have := (hRh.out.below T4).ne hSx (by decide)
          rw [hVo]
          exact this
        have hVh := Lib.hid hVo
        have hTs : m ≤ ((wr.alloc (.cells #[eU x, eU y0] 59)).drew).heap.size := by have := T4.size; simp; omega
        clear hVo
        go_region_law (refine step_append_kept (by rfl) (.tmp 68) (.tmp 70) (by rfl) m 0 (.slice ad 0 cap) K (x, y0) (by rfl) hV (by omega) (by omega) ⟨wr.heap.size, 0, none⟩ 1 (by rfl) (two_new _ _ _) hTs ?_; intro g o' cap' w2 hrow hgrow hmg hat; have hbx : SgB w2 B f l r (.slice ad K.length cap) x k true := grown_box hgrow hSy hneB; have c6' := hbx.cells.2.2.2.2.2.2.1; have f6' := Box.thaw hbx 6; replace hat := Lib.hid hat; replace hrow := Lib.hid hrow; replace hgrow := Lib.hid hgrow)
        all_goals go_wp2
        all_goals go_end0
        all_goals exact ⟨rfl, join_fin hSh.out.lt T4 hgrow.out hVh.out hbx hrow.out hmg hat.out (by omega) hJ.out rfl⟩
      · obtain ⟨p, hp⟩ : ∃ q, n = q + 1 := ⟨n - 1, by omega⟩
        have hpK : p < K.length := by omega
        have T3 := up T T2 T.size
        have T4 := up T0h.out T3 T0h.out.size
        obtain ⟨g0, o0, cap0, e0, hmg0, hRow⟩ := hRh.out.some (by omega)
        injection e0 with e1 e2 e3
        subst e1 e3
        obtain ⟨a, ha⟩ : ∃ a, K[p] = a := ⟨_, rfl⟩
        have hget : K[p]? = some a := by rw [List.getElem?_eq_getElem hpK, ha]
        have ka := hKh.out K[p] (List.getElem_mem hpK)
        obtain ⟨z0, z1⟩ := (hRow.below T4).cell hpK
        rw [ha] at ka z0 z1
        have i1 : (n : Int) - 1 = (p : Int) := by omega
        have i2 : (p : Int) < (K.length : Int) := by omega
        have i3 : (0 : Int) ≤ (p : Int) := by omega
        have i4 : (K.length : Int) ≤ (cap : Int) := by omega
        have i5 : (0 : Int) < (n : Int) := by omega
        have i6 : 0 < n := by omega
        have i7 : (n : Int) ≤ (cap : Int) := by omega
        have i8 : n ≤ cap := by omega
        have aw0 : Word a.1 := by unfold Word; omega
        have aw1 : Word a.2 := by unfold Word; omega
        have hWa := fun w => b_whole_any a f l r x w aw0 aw1 ⟨hf.1, hf1⟩ hl ⟨hr.1, hr1⟩ xw ka.2.1
        have hWl := fun w => b_whole_any a 0 0 r x w aw0 aw1 ⟨by omega, by omega⟩ ⟨by omega, by omega⟩ ⟨hr.1, hr1⟩ xw ka.2.1
        rw [hv_straight ka.2.1] at hWl
        have hCa := fun w => Cmp_any (hi6 (hv f l r a x)) (lo6 (hv f l r a x)) (hi6 y0) (lo6 y0) w (lo6_word _) (lo6_word _)
        have hCl := fun w => Cmp_any (hi6 (lv r a x)) (lo6 (lv r a x)) (hi6 y0) (lo6 y0) w (lo6_word _) (lo6_word _)
        rw [cmp6, hA.out.1, hA.out.2] at hCa hCl
        obtain ⟨c1, hc1⟩ : ∃ z, cmpN (hv f l r a x) y0 = z := ⟨_, rfl⟩
        obtain ⟨c2, hc2⟩ : ∃ z, cmpN (lv r a x) y0 = z := ⟨_, rfl⟩
        obtain ⟨P1, hP1⟩ : ∃ z, hi6 (hv f l r a x) = z := ⟨_, rfl⟩
        obtain ⟨P2, hP2⟩ : ∃ z, lo6 (hv f l r a x) = z := ⟨_, rfl⟩
        obtain ⟨L1, hL1⟩ : ∃ z, hi6 (lv r a x) = z := ⟨_, rfl⟩
        obtain ⟨L2, hL2⟩ : ∃ z, lo6 (lv r a x) = z := ⟨_, rfl⟩
        rw [hP1, hP2] at hWa hCa
        rw [hL1, hL2] at hWl hCl
        rw [hc1] at hCa
        rw [hc2] at hCl
        obtain ⟨d1, hd1⟩ : ∃ d1 : Bool, decide (0 ≤ c1) = d1 := ⟨_, rfl⟩
        obtain ⟨d2, hd2⟩ : ∃ d2 : Bool, decide (c2 ≤ 0) = d2 := ⟨_, rfl⟩
        have hD1 := Lib.hid (show d1 = decide (y0 ≤ hv f l r a x) from by
          rw [← hd1, ← hc1]; unfold cmpN
          split
          · simp; omega
          · split <;> simp <;> omega)
        have hD2 := Lib.hid (show d2 = decide (lv r a x ≤ y0) from by
          rw [← hd2, ← hc2]; unfold cmpN
          split
          · simp; omega
          · split <;> simp <;> omega)
        have hgt := Lib.hid hget
        have hph := Lib.hid hp
        have hRwh := Lib.hid hRow
        clear hc1 hc2 hP1 hP2 hL1 hL2 hget ka hp ha hRow
        obtain ⟨W2, hW2⟩ : ∃ W2, wr.alloc (.cells #[eU a.1, eU a.2] 59) = W2 := ⟨_, rfl⟩
        have Ba := Box.new wr 59 #[eU a.1, eU a.2]
        have T5 := up1 wr (.cells #[eU a.1, eU a.2] 59)
        rw [hW2] at Ba T5
        have T6 := up T3 T5 T3.size
        have S2 : ∀ w', Below W2.heap.size W2 w' → SgC w' B f l r (.slice (some ⟨g0, o0, none⟩) K.length cap) x k true ∧ (w'.cell? ⟨wr.heap.size, 0, none⟩ = some (.int .u64 a.1) ∧ w'.cell? ⟨wr.heap.size, 1, none⟩ = some (.int .u64 a.2)) ∧ w'.cell? ⟨M, 0, none⟩ = some (.int .u64 A1) ∧ w'.cell? ⟨M, 1, none⟩ = some (.int .u64 A2) := fun w' hb =>
          have T7 := up T6 hb T6.size
          ⟨(S1h.out _ T7).1, (Ba.below hb).two, (((HM.below T2).below T5).below hb).2⟩
        have S2h := Lib.hid S2
        have S20 := Lib.hid (S2 W2 (Below.refl _ _))
        clear S2 Ba
        (obtain ⟨⟨c0, c1, c2, c3, c4, c5, c6, c7, c8, c9⟩, k0, k1⟩ := S1h.out _ T3); clear c0 c1 c2 c3 c4 c5 c7 c8 c9 k0 k1
        go_upto_region 6 with fail
        go_cut [34] from 22 to 61 (fun s34 wx => s34 = .bool d1 ∧ Below W2.heap.size W2 wx)
        case first =>
          obtain ⟨⟨c0, c1, c2, c3, c4, c5, c6, c7, c8, c9⟩, ⟨y0, y1⟩, m0, m1⟩ := S20.out
          go_region_held3 (fun w' => SgC w' B f l r (.slice (some ⟨g0, o0, none⟩) K.length cap) x k true ∧ (w'.cell? ⟨wr.heap.size, 0, none⟩ = some (.int .u64 a.1) ∧ w'.cell? ⟨wr.heap.size, 1, none⟩ = some (.int .u64 a.2)) ∧ w'.cell? ⟨M, 0, none⟩ = some (.int .u64 A1) ∧ w'.cell? ⟨M, 1, none⟩ = some (.int .u64 A2))
            (first | exact S20.out | exact S2h.out _ hb2 | exact S2h.out _ (up hb2 hb3 hb2.size))
            (first
              | (go_at_call 53; (with_reducible refine (hWa _).mono ?_); rintro e w2 ⟨rfl, hb2⟩; (first | replace hb2 := undrew hb2 | replace hb2 := undrewN hb2 | skip))
              | (go_at_call 54; (with_reducible refine (hCa _).mono ?_); rintro e w3 ⟨rfl, hb3⟩; (first | replace hb3 := undrew hb3 | replace hb3 := undrewN hb3 | skip)))
          all_goals go_wp2_with fail
          all_goals go_meet
          all_goals exact ⟨rfl, up hb2 hb3 hb2.size⟩
        case rest =>
          obtain ⟨rfl, T8⟩ := hcut
          rename World => W3
          clear S20 hWa hCa
          have T9 := up T5 T8 T5.size
          have T10 := up T2 T9 T2.size
          cases d1
          · have S21 := Lib.hid (S2h.out W3 T8)
            have S22 : ∀ w', Below W3.heap.size W3 w' → _ := fun w' hb => S2h.out w' (up T8 hb T8.size)
            have S22h := Lib.hid S22
            clear S22 S2h
            go_upto_region 7 with fail
            go_cut [48] from 22 to 61 (fun s48 wx => s48 = .bool d2 ∧ Below W3.heap.size W3 wx)
            case first =>
              obtain ⟨⟨c0, c1, c2, c3, c4, c5, c6, c7, c8, c9⟩, ⟨y0, y1⟩, m0, m1⟩ := S21.out
              go_region_held3 (fun w' => SgC w' B f l r (.slice (some ⟨g0, o0, none⟩) K.length cap) x k true ∧ (w'.cell? ⟨wr.heap.size, 0, none⟩ = some (.int .u64 a.1) ∧ w'.cell? ⟨wr.heap.size, 1, none⟩ = some (.int .u64 a.2)) ∧ w'.cell? ⟨M, 0, none⟩ = some (.int .u64 A1) ∧ w'.cell? ⟨M, 1, none⟩ = some (.int .u64 A2))
                (first | exact S21.out | exact S22h.out _ hb2 | exact S22h.out _ (up hb2 hb3 hb2.size))
                (first
                  | (go_at_call 53; (with_reducible refine (hWl _).mono ?_); rintro e w2 ⟨rfl, hb2⟩; (first | replace hb2 := undrew hb2 | replace hb2 := undrewN hb2 | skip))
                  | (go_at_call 54; (with_reducible refine (hCl _).mono ?_); rintro e w3 ⟨rfl, hb3⟩; (first | replace hb3 := undrew hb3 | replace hb3 := undrewN hb3 | skip)))
              all_goals go_wp2_with fail
              all_goals go_meet
              all_goals exact ⟨rfl, up hb2 hb3 hb2.size⟩
            case rest =>
              obtain ⟨rfl, T11⟩ := hcut
              rename World => W4
              clear S21 S22h hWl hCl
              have T12 := up T10 T11 T10.size
              cases d2
              · have hJ := Lib.hid (show IsJoin f l r x y0 K (K.take n ++ [(x, y0)]) from ⟨n, hn, hgeh.out, .inr ⟨p, a, hph.out, hgt.out, by have := hD1.out; simpa using this.symm, .inr ⟨by have := hD2.out; simpa using this.symm, rfl⟩⟩⟩)
                clear z0 z1 c6
                go_upto_region 8 with fail
                have T3 := up T T12 T.size
                have hSx := hS0h.out.below T3
                obtain ⟨⟨c0, c1, c2, c3, c4, c5, c6, c7, c8, c9⟩, k0, k1⟩ := S1h.out _ T3
                have f6 := Box.thaw hSx 6
                clear c0 c1 c2 c3 c4 c5 c7 c8 c9
                have T4 := up T0h.out T3 T0h.out.size
                have hV : ((Value.slice (some ⟨g0, o0, none⟩) n cap = .slice none 0 0 ∧ n = 0) ∨ ∃ g o c, Value.slice (some ⟨g0, o0, none⟩) n cap = .slice (some ⟨g, o, none⟩) n c ∧ m ≤ g ∧ RowAt (W4.alloc (.cells #[eU x, eU y0] 59)) g o c K) := by
                  exact .inr ⟨g0, o0, cap, rfl, hmg0, (hRwh.out.below T4).below (up1 _ _)⟩
                have hSy : SgB ((W4.alloc (.cells #[eU x, eU y0] 59)).drew) B f l r (.slice (some ⟨g0, o0, none⟩) K.length cap) x k true := hSx.below (up1 W4 _).drew
                have c6a : (W4.alloc (.cells #[.int .u64 x, .int .u64 y0] 59)).cell? ⟨B, 6, none⟩ = some (.slice (some ⟨g0, o0, none⟩) K.length cap) := (hSx.below (up1 W4 _)).cells.2.2.2.2.2.2.1
                have hVo : (Value.slice (some ⟨g0, o0, none⟩) n cap).ownBlock = (Value.slice (some ⟨g0, o0, none⟩) K.length cap).ownBlock := rfl
                have hneB : (Value.slice (some ⟨g0, o0, none⟩) n cap).ownBlock ≠ some B := by
                  have := (hRh.out.below T4).ne hSx (by decide)
                  rw [hVo]
                  exact this
                have hVh := Lib.hid hVo
                have hTs : m ≤ ((W4.alloc (.cells #[eU x, eU y0] 59)).drew).heap.size := by have := T4.size; simp; omega
                clear hVo
                go_region_law (refine step_append_kept (by rfl) (.tmp 68) (.tmp 70) (by rfl) m n (.slice (some ⟨g0, o0, none⟩) n cap) K (x, y0) (by rfl) hV (by omega) (by omega) ⟨W4.heap.size, 0, none⟩ 1 (by rfl) (two_new _ _ _) hTs ?_; intro g o' cap' w2 hrow hgrow hmg hat; have hbx : SgB w2 B f l r (.slice (some ⟨g0, o0, none⟩) K.length cap) x k true := grown_box hgrow hSy hneB; have c6' := hbx.cells.2.2.2.2.2.2.1; have f6' := Box.thaw hbx 6; replace hat := Lib.hid hat; replace hrow := Lib.hid hrow; replace hgrow := Lib.hid hgrow)
                all_goals go_wp2
                all_goals go_end0
                all_goals exact ⟨rfl, join_fin hSh.out.lt T4 hgrow.out hVh.out hbx hrow.out hmg hat.out (by omega) hJ.out rfl⟩
              · have T13 := up T T12 T.size
                have T14 := up T0h.out T13 T0h.out.size
                have hJ := Lib.hid (show IsJoin f l r x y0 K K from ⟨n, hn, hgeh.out, .inr ⟨p, a, hph.out, hgt.out, by have := hD1.out; simpa using this.symm, .inl ⟨by have := hD2.out; simpa using this.symm, rfl⟩⟩⟩)
                clear z0 z1 c6
                go_wp2
                refine bodyPost_ret (results_none rfl _ _ _) rfl ?_
                exact ⟨rfl, ⟨_, K, hSh.out.below T14, hRh.out.below T14, hJ.out, .inl rfl⟩, Fr.of (But.of T14)⟩
          · go_wp2
            go_roundw
            case rel =>
              have hge' : ∀ i a, p ≤ i → K[i]? = some a → y0 ≤ hv f l r a x := fun i b hi e => by
                rcases Nat.lt_or_ge p i with h | h
                · exact hgeh.out i b (by have := hph.out; omega) e
                · obtain rfl : i = p := by omega
                  rw [hgt.out] at e
                  injection e with e
                  subst e
                  have := hD1.out
                  simpa using this.symm
              exact ⟨p, rfl, by omega, hge', T10⟩
            case measure => simp [intOf]; omega
end Go.Proofs.Ytknpfcnjnpcboaa
