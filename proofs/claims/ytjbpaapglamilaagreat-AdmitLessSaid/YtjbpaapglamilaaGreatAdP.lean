/- All live curves and ghosts can be kept. Condition: numbers are what the fields can hold. -/
import Derived.Test.YtjbpaapglamilaaGreatAdW
namespace Go.Proofs.YtjbpaapglamilaaGreat.H
open Go.ChangeShapes Go.WideShapes Go.Deep Go.RowKit W
set_option linter.unusedVariables false
set_option linter.unusedSimpArgs false
def fU (x : Int) : List Value := [eU x]
theorem cellsU : Cells fU 1 := ⟨fun _ => rfl, fun x u hu => by simp [fU] at hu; subst hu; rfl⟩
theorem rowU_map : ∀ (zs : List Int), rowC fU zs = zs.map eU
  | [] => rfl
  | z :: zs => by rw [rowC, rowU_map zs]; rfl
theorem rowU : RowTy Tryz.prog 56 22 1 := ⟨Tryz.underlying56, by decide, by
  obtain ⟨i, h1, h2, h3, h4⟩ := info_parts (show (Tryz.prog.info? 22).map (fun i => (i.zero, i.size, i.bytes)) = some (some (.int .u64 0), 1, 8) by kernel_rfl)
  exact ⟨i, _, 8, h1, h2, h3, h4, rfl, by decide⟩⟩
theorem bslU (x : Int) : Tryz.prog.builtSlice 22 1 [(0, eU x)] = some #[eU x] := by kernel_rfl
theorem bslU3 (x y : Int) : Tryz.prog.builtSlice 22 3 [(0, eU x), (1, eU y), (2, eU 1)] = some #[eU x, eU y, eU 1] := by kernel_rfl
theorem own_range {w : World} {g n cap base i : Nat} {L : List Cv} {c : Cv} (h : w.ownsRow base 25 3 (.slice (some ⟨g, 0, none⟩) n cap) n (rowC fC L)) (hx : L[i]? = some c) : w.rangeAt g (i * 3) (cA c).toList := fun j u hu => by
  have hj : j < 3 := by
    rcases Nat.lt_or_ge j 3 with h | h
    · exact h
    · rw [List.getElem?_eq_none (by simpa [cA] using h)] at hu; cases hu
  exact own_elem cellsC h i c hx j hj u (by rw [cA_list] at hu; exact hu)
theorem own_u {w : World} {g n cap base i : Nat} {T : List Int} {x : Int} (h : w.ownsRow base 22 1 (.slice (some ⟨g, 0, none⟩) n cap) n (rowC fU T)) (hx : T[i]? = some x) : w.cell? ⟨g, i, none⟩ = some (eU x) := by
  have := own_elem cellsU h i x hx 0 (by omega) (eU x) rfl
  rwa [Nat.mul_one] at this
theorem sW_snoc (a : List Cv) (c : Cv) (t : Int) : sW (a ++ [c]) t = sW a t + oneW c t := by rw [sW_append]; simp [sW]
theorem one_may {c : Cv} (h : Nt c) (t : Int) : oneW c t = cW c.f c.l c.r t := if_pos (show c.may from mayB_is.1 h.2.1)
theorem one_small {c : Cv} (h : Nt c) {t : Int} (ht : 0 ≤ t ∧ t < 1048576) : 0 ≤ cW c.f c.l c.r t ∧ cW c.f c.l c.r t ≤ 1099511627776 ∧ cAt c.f c.l c.r t = cW c.f c.l c.r t := by
  have hm : c.may := mayB_is.1 h.2.1
  have hs := cAt_small h.1.1.1 h.1.2.2.1 h.1.2.1.1 ht.1 hm (by omega)
  have hg := (cW_grow (F := c.f) (L := c.l) h.1.1.1 h.1.2.2.1 (Int.le_refl 0) t.toNat).2
  rw [Int.toNat_of_nonneg ht.1, cW_zero h.1.2.1.1, Int.zero_add, Int.zero_add] at hg
  have hst : cSt c.f c.l c.r ≤ 1048576 := by obtain ⟨a, b, _⟩ := hm; unfold cSt; split <;> omega
  have h2 := Int.mul_le_mul hst (show t ≤ 1048576 by omega) ht.1 (by omega)
  exact ⟨cW_nn h.1.1.1 h.1.2.2.1 h.1.2.1.1 ht.1, by omega, hs⟩
theorem sum_small {L : List Cv} (h : ∀ c ∈ L, Nt c) {t : Int} (ht : 0 ≤ t ∧ t < 1048576) : 0 ≤ sW L t ∧ sW L t ≤ L.length * 1099511627776 := by
  induction L with
  | nil => simp [sW]
  | cons c L ih =>
    obtain ⟨h1, h2, h3⟩ := one_small (h c (by simp)) ht
    obtain ⟨i1, i2⟩ := ih (fun d hd => h d (by simp [hd]))
    rw [sW, one_may (h c (by simp))]
    refine ⟨by omega, ?_⟩
    rw [List.length_cons, Int.natCast_add, Int.add_mul]
    omega
theorem ticks_ok (b : Bk) {n : Nat} (h : b.Fit n) {t : Int} (ht : 0 ≤ t ∧ t < 1048576) : sW b.all t ≤ b.R * t := by
  have k := kB_iff.1 h.kept t ht.1 (by omega)
  unfold lateAt at k
  omega
theorem u64_id {x : Int} (h : 0 ≤ x ∧ x < 18446744073709551616) : IntKind.u64.wrap x = x := by
  simp [IntKind.wrap, IntKind.bits, IntKind.signed]; omega
theorem wl_sl3 {P : Program} {ops : Array Oper} {rest : List Oper} {o : Oper} {a : Act} {w : World} {Q : Exit → Act → World → Prop} (t e : TypeId) {x y z : Operand} {u v s : Value} {cells : Array Value} (hw : Region.wanted o (yielded ops a.tmps) = true) (ho : o.op = .buildSlice t 3 #[(0, x), (1, y), (2, z)]) (hx : a.eval x = u) (hy : a.eval y = v) (hz : a.eval z = s) (hu : P.underlying t = some (.slice e)) (hf : P.builtSlice e 3 [(0, u), (1, v), (2, s)] = some cells)
    (h : ∀ w', Box w' w.heap.size cells e → Below w.heap.size w w' → wpList P ops Q rest (a.put o.dst (.slice (some ⟨w.heap.size, 0, none⟩) 3 3)) w') : wpList P ops Q (o :: rest) a w := by
  refine wpList_step fun K hK => ?_
  rw [if_pos hw]
  have hr : (Instr.buildSlice t 3 #[(0, u), (1, v), (2, s)]).run P w = .ok (.slice (some ⟨w.heap.size, 0, none⟩) 3 3) (w.alloc (.cells cells e)) := by
    unfold Program.builtSlice at hf
    cases hie : P.info? e with
    | none => simp [hie] at hf
    | some ie =>
      simp only [hie] at hf
      cases hz : ie.zero with
      | none => simp [hz] at hf
      | some z =>
        simp only [hz] at hf
        by_cases hc : 3 * ie.size > 2 ^ 24 ∨ 3 * ie.size = 0
        · rw [if_pos hc] at hf; cases hf
        · rw [if_neg hc] at hf
          exact run_buildSlice w t e 3 _ cells ie z hu hie hz (fun h' => hc (Or.inl h')) (fun h' => hc (Or.inr h')) hf
  unfold Oper.wp execOp
  simp only [ho, List.map_toArray, List.map_cons, List.map_nil, hx, hy, hz, Sem.run_bind, hr, Result.andThen_ok]
  exact hK _ _ (h _ (Box.new w e cells) (up1 w _))
set_option maxHeartbeats 40000000 in
set_option maxRecDepth 100000 in
theorem AdmitKept_walk (R : Int) (a : Option Addr) (n c : Nat) (xs : Nat → Ac) (t : Int) (V0 : World) (hR : Word R) (hI : IsRow aV 6 V0 a n c xs) (hok : ∀ i, (xs i).ok) (hcm : c ≤ maxLen) (ht : Word t) :
    Calls Tryz.prog 4 #[eU R, .slice a n c, eU t] V0 fun e w' => e = .returned (.bool true) ∧ Below V0.heap.size V0 w' := by
  have hLg := fun W => long_any (a := a) hI.1 W
  have hA := awake_any V0
  by_cases hn : 60 < n
  · rw [decide_eq_true hn] at hLg
    go_enter Tryz.func4, Tryz.ntmps4
    go_wp2_with (first
      | (go_at_call 19; (with_reducible refine hA.mono ?_); rintro e w2 ⟨rfl, T2⟩)
      | (go_at_call 6; (with_reducible refine (hLg _).mono ?_); rintro e w3 ⟨rfl, rfl⟩))
    go_ret
    exact ⟨rfl, T2⟩
  rw [decide_eq_false hn] at hLg
  by_cases hb : 1 ≤ R ∧ R ≤ 1048576
  · have hPl := fun W (hW : Below V0.heap.size V0 W) => played_any a n c xs R hR hb V0 W hW hI hok hcm (by omega)
    go_enter Tryz.func4, Tryz.ntmps4
    go_upto_region 8 with (first
      | (go_at_call 19; (with_reducible refine hA.mono ?_); rintro e w2 ⟨rfl, T2⟩; have hP2 := hPl w2 T2)
      | (go_at_call 6; (with_reducible refine (hLg _).mono ?_); rintro e w3 ⟨rfl, rfl⟩)
      | (go_at_call 20; (with_reducible refine hP2.mono ?_); rintro e w4 ⟨C, b, rfl, hbR, H4⟩; have hp := ptr_eq C))
    have hF := H4.fit
    have hAl : Calls Tryz.prog 21 #[ptr C] w4 fun e w' => ∃ v, e = .returned v ∧ w'.ownsRow w4.heap.size 25 3 v b.all.length (rowC fC b.all) ∧ Below w4.heap.size w4 w' := by
      obtain ⟨χ, hf, h1⟩ := H4
      exact all_of h1 (by omega)
    obtain ⟨N, hN⟩ : ∃ N, b.all.length = N := ⟨_, rfl⟩
    have hN60 : N ≤ 60 := by have := hF.few; rw [Bk.all_len] at hN; omega
    rw [hN] at hAl
    have hKp := fun (a : Option Addr) (k0 c0 : Nat) (W : World) (h : IsCvs W a k0 c0 b.all) => keptP_any 1000 (sortU 1000 (by omega)) b.all hF.words (by omega) (by omega) R true hR a k0 c0 W h (by rw [← kB_iff, ← hbR, hF.kept])
    have hNt := Lib.hid hF.all
    have htk := Lib.hid (fun t (h : 0 ≤ t ∧ t < 1048576) => ticks_ok b hF h)
    have hbRh := Lib.hid hbR
    have hKk := Lib.hid hKp
    have W4 := H4.world
    obtain ⟨L, hL⟩ : ∃ L, b.all = L := ⟨_, rfl⟩
    rw [hL] at hAl hNt htk hKk hN
    have hm1 : 0 ≤ t.tmod 1000 ∧ t.tmod 1000 < 1048576 := by have := ht.1; rw [Int.tmod_eq_emod_of_nonneg this]; omega
    have hm2 : 0 ≤ t.tmod 60 ∧ t.tmod 60 < 1048576 := by have := ht.1; rw [Int.tmod_eq_emod_of_nonneg this]; omega
    obtain ⟨t1, ht1⟩ : ∃ t1, t.tmod 1000 = t1 := ⟨_, rfl⟩
    obtain ⟨t2, ht2⟩ : ∃ t2, t.tmod 60 = t2 := ⟨_, rfl⟩
    rw [ht1] at hm1
    rw [ht2] at hm2
    clear hKp hbR hF H4 hPl hP2 hI hok hA hLg T2 hL
    go_upto_region 13 with (first
      | (go_at_call 21; (with_reducible refine hAl.mono ?_); rintro e w5 ⟨v8, rfl, O8, T5⟩; obtain ⟨a8, c8, rfl, hc8, hm8⟩ := own_len O8; have hK5 := hKk.out a8 _ c8 w5 (own_cvs O8))
      | (go_at_call 22; (with_reducible refine hK5.mono ?_); rintro e w6 ⟨rfl, T6⟩; have O6 := own_below O8 T6)
      | (refine wl_sl3 56 22 (u := eU t1) (v := eU t2) (s := eU 1) rfl rfl rfl rfl rfl Tryz.underlying56 (bslU3 _ _) ?_; intro w7 X7 T7))
    have O7 : w7.ownsRow w6.heap.size 22 1 (.slice (some ⟨w6.heap.size, 0, none⟩) 3 3) 3 (rowC fU [t1, t2, 1]) := ⟨rfl, .inr ⟨w6.heap.size, 3, _, rfl, Nat.le_refl _, X7, Nat.le_refl _, by decide, rfl, rfl⟩⟩
    have Q7 := own_below O6 T7
    have S7 : Below V0.heap.size V0 w7 := ups W4 (ups (ups T5 T6 T5.size) T7 (Nat.le_trans T5.size T6.size)) W4.size
    have hN1 : (N : Int) ≤ (c8 : Int) := by omega
    have hz6 : V0.heap.size ≤ w6.heap.size := Nat.le_trans W4.size (Nat.le_trans T5.size T6.size)
    have hz7 : w6.heap.size ≤ w7.heap.size := T7.size
    clear hAl hK5 hKk O8 O6 X7 T7 T6 T5 W4 hp
    go_loopw [9, 10] (fun s9 s10 wr => ∃ (i : Nat) (T : List Int), s10 = .int .i64 i ∧ i ≤ N ∧ T.length = 3 + i ∧ (∀ x ∈ T, 0 ≤ x ∧ x < 1048576) ∧ wr.ownsRow w6.heap.size 22 1 s9 (3 + i) (rowC fU T) ∧ wr.ownsRow 0 25 3 (.slice a8 N c8) N (rowC fC L) ∧ Below V0.heap.size V0 wr ∧ w6.heap.size ≤ wr.heap.size) (fun _ s10 _ => N - (intOf s10).toNat)
    case atStart => exact ⟨0, [t1, t2, 1], rfl, by omega, rfl, fun x hx => (by
        simp at hx
        rcases hx with h | h | h
        · rw [h]; exact hm1
        · rw [h]; exact hm2
        · rw [h]; decide), O7, own_mono Q7 (Nat.zero_le _), S7, hz7⟩
    case round =>
      clear O7 Q7 S7
      obtain ⟨i, T, rfl, hi, hTl, hTb, hO, hQ, hS, hz⟩ := hrel
      by_cases hlt : i < N
      · have i1 : (i : Int) < (N : Int) := by omega
        have i2 : (0 : Int) ≤ (i : Int) := by omega
        have hw1 : IntKind.i64.wrap ((i : Int) + 1) = (i : Int) + 1 := i64_id (by omega)
        obtain ⟨cc, hcc⟩ : ∃ cc, L[i]? = some cc := ⟨_, List.getElem?_eq_getElem (by omega)⟩
        have hnc := hNt.out cc (List.mem_of_getElem? hcc)
        obtain ⟨g, cap, e, _⟩ := (own_form hQ).resolve_left (by omega)
        cases e
        have hMy : ∀ W, Calls Tryz.prog 23 #[.agg (cA cc)] W fun e w' => e = .returned (.bool (mB cc)) ∧ Below W.heap.size W w' := fun W => may_any cc.f cc.l cc.r W hnc.1.1 hnc.1.2.1 hnc.1.2.2
        simp only [hnc.2.1] at hMy
        have hze : decide (cc = zC) = false := decide_eq_false hnc.2.2
        have hxb : 0 ≤ cc.l.tmod 1048576 ∧ cc.l.tmod 1048576 < 1048576 := by have := hnc.1.2.1.1; rw [Int.tmod_eq_emod_of_nonneg this]; omega
        obtain ⟨x, hx⟩ : ∃ x, cc.l.tmod 1048576 = x := ⟨_, rfl⟩
        rw [hx] at hxb
        replace hcc := Lib.hid hcc
        clear hnc
        go_wp2_with (first
          | (refine wl_run (xl_loadC (own_range hQ hcc.out) rfl rfl) rfl ?_)
          | (go_at_call 23; (with_reducible refine (hMy _).mono ?_); rintro e wa ⟨rfl, Ta⟩; have Qa := own_below hQ Ta; have Oa := own_below hO Ta; have Sa := ups hS Ta hS.size; have d1 := (own_range Qa hcc.out) 1 _ rfl; have hza := Nat.le_trans hz Ta.size)
          | (refine wl_run (xl_loadC (own_range Qa hcc.out) rfl rfl) rfl ?_)
          | (refine wl_run (xl_build0 25 built25 rfl) rfl ?_)
          | (refine wl_run (v := .bool false) ((xl_eq25 (p := cc) (q := zC) rfl rfl rfl).trans (by rw [hze])) rfl ?_)
          | (refine wl_sl 56 22 rfl rfl rfl Tryz.underlying56 (bslU _) ?_; intro w8 X8 T8; have O8 := own_below Oa T8; have Q8 := own_below Qa T8; have S8 := ups Sa T8 Sa.size; have hz8 := Nat.le_trans hza T8.size; have F8 := flat_new (f := fU) (x := x) X8 rfl)
          | (refine wpList_more rowU cellsU rfl _ _ rfl w6.heap.size u9 T [x] (3 + i) 1 hTl rfl rfl O8 _ 1 rfl F8 (by omega) hz8 ?_; intro v9 w9 O9 G9 N9 _; have S9 := S8.grown G9 S8.size (fun g e => Nat.le_trans hz6 (O8.lt g e).1); have Q9 := Q8.grown' G9 (own_own O8 Q8 (by decide))))
        refine ⟨⟨i + 1, T ++ [x], rfl, by omega, (by rw [List.length_append, hTl]; simp; omega), fun y hy => ?_, O9, Q9, S9, Nat.le_trans hz8 G9.size⟩, by simp [intOf]; omega⟩
        rcases List.mem_append.1 hy with hy | hy
        · exact hTb y hy
        · obtain rfl : y = x := by simpa using hy
          exact hxb
      · have i1 : ¬ (i : Int) < (N : Int) := by omega
        obtain ⟨M, hM⟩ : ∃ M, 3 + i = M := ⟨_, rfl⟩
        have hM60 : M ≤ 63 := by omega
        rw [hM] at hTl hO
        obtain ⟨a9, c9, rfl, hc9, _⟩ := own_len hO
        have hM1 : (M : Int) ≤ (c9 : Int) := by omega
        rename World => wq
        have hTh := Lib.hid hTb
        clear hTb hM hlt hi
        go_upto_region 19 with fail
        go_loopw [11, 12, 13] (fun s11 s12 s13 wr => ∃ k : Nat, s11 = .int .i64 k ∧ k ≤ M ∧ Below wq.heap.size wq wr) (fun s11 _ _ _ => M - (intOf s11).toNat)
        case atStart => exact ⟨0, rfl, by omega, Below.refl _ _⟩
        case round =>
          obtain ⟨k, rfl, hk, hT⟩ := hrel
          rename World => ws
          by_cases hlt : k < M
          · have k1 : (k : Int) < (M : Int) := by omega
            have k2 : (0 : Int) ≤ (k : Int) := by omega
            have hw2 : IntKind.i64.wrap ((k : Int) + 1) = (k : Int) + 1 := i64_id (by omega)
            obtain ⟨x, hx⟩ : ∃ x, T[k]? = some x := ⟨_, List.getElem?_eq_getElem (by omega)⟩
            have hxb := hTh.out x (List.mem_of_getElem? hx)
            have hxw : Word x := ⟨hxb.1, by omega⟩
            obtain ⟨g9, cap, e, _⟩ := (own_form hO).resolve_left (by omega)
            cases e
            replace hx := Lib.hid hx
            have hxbh := Lib.hid hxb
            clear hxb
            go_upto_region 23 with fail
            go_loopw [12, 13] (fun s12 s13 wr => ∃ i : Nat, s13 = .int .i64 i ∧ i ≤ N ∧ s12 = eU (sW (L.take i) x) ∧ Below ws.heap.size ws wr) (fun _ s13 _ => N - (intOf s13).toNat)
            case atStart => exact ⟨0, rfl, by omega, by simp [sW], Below.refl _ _⟩
            case round =>
              obtain ⟨i, rfl, hi, rfl, hT3⟩ := hrel
              rename World => wv
              have O8v := own_below hQ (ups hT hT3 hT.size)
              have O9v := own_below hO (ups hT hT3 hT.size)
              by_cases hlt3 : i < N
              · have i1 : (i : Int) < (N : Int) := by omega
                have i2 : (0 : Int) ≤ (i : Int) := by omega
                have hw1 : IntKind.i64.wrap ((i : Int) + 1) = (i : Int) + 1 := i64_id (by omega)
                obtain ⟨cc, hcc⟩ : ∃ cc, L[i]? = some cc := ⟨_, List.getElem?_eq_getElem (by omega)⟩
                have hnc := hNt.out cc (List.mem_of_getElem? hcc)
                have hlL : i < L.length := by omega
                have hck : L[i] = cc := by rw [List.getElem?_eq_getElem hlL] at hcc; exact Option.some.inj hcc
                have hAt : ∀ W, Calls Tryz.prog 24 #[.agg (cA cc), eU x] W fun e w' => e = .returned (eU (cAt cc.f cc.l cc.r x)) ∧ Below W.heap.size W w' := fun W => At_any cc.f cc.l cc.r x W hnc.1.1 hnc.1.2.1 hnc.1.2.2 hxw
                obtain ⟨q1, q2, q3⟩ := one_small hnc hxbh.out
                have hsm := sum_small (L := L.take i) (fun d hd => hNt.out d (List.mem_of_mem_take hd)) hxbh.out
                rw [List.length_take, Nat.min_eq_left (by omega)] at hsm
                have e1 : sW (L.take (i + 1)) x = sW (L.take i) x + cAt cc.f cc.l cc.r x := by
                  rw [List.take_succ_eq_append_getElem hlL, hck, sW_snoc, one_may hnc, q3]
                have hwa : IntKind.u64.wrap (sW (L.take i) x + cAt cc.f cc.l cc.r x) = sW (L.take (i + 1)) x := by
                  rw [e1]; exact u64_id (by rw [q3]; omega)
                obtain ⟨g, cap, e, _⟩ := (own_form O8v).resolve_left (by omega)
                cases e
                generalize cAt cc.f cc.l cc.r x = qa at *
                obtain ⟨sb, hsb⟩ : ∃ sb, sW (L.take (i + 1)) x = sb := ⟨_, rfl⟩
                rw [hsb] at hwa
                have hsbh := Lib.hid hsb
                replace hcc := Lib.hid hcc
                clear e1 hsm q1 q2 q3 hck hnc hsb
                generalize sW (L.take i) x = sa at *
                go_upto_region 25 with fail
                refine wp_region_held_drew (S := fun W => Below wv.heap.size wv W) (by kernel_rfl) (drew_below wv) (fun hHeld => ?_)
                refine wpAnyH_take (i := 0) (v := ?_) (by simp only [List.getElem?_toArray, List.getElem?_cons_zero]; rfl) (by kernel_rfl) (by kernel_rfl) (by kernel_rfl) (by exact fun _ _ _ h => h) (Or.inl ⟨by rfl, ?_⟩) (by assumption) ?_
                rotate_left
                · (intro w hSw; (try dsimp only at hSw); go_simp; (try with_reducible rfl))
                try simp only [Act.put, List.setIfInBounds_toArray, List.set_cons_zero, List.set_cons_succ]
                refine wpAnyH_take (i := 1) (v := ?_) (by simp only [List.getElem?_toArray, List.getElem?_cons_zero, List.getElem?_cons_succ]; rfl) (by kernel_rfl) (by kernel_rfl) (by kernel_rfl) (by exact fun _ _ _ h => h) (Or.inl ⟨by rfl, ?_⟩) (by assumption) ?_
                rotate_left
                · (intro w hSw; (try dsimp only at hSw); go_simp; (try with_reducible rfl))
                try simp only [Act.put, List.setIfInBounds_toArray, List.set_cons_zero, List.set_cons_succ]
                refine wpAnyH_take (i := 2) (v := ?_) (by simp only [List.getElem?_toArray, List.getElem?_cons_zero, List.getElem?_cons_succ]; rfl) (by kernel_rfl) (by kernel_rfl) (by kernel_rfl) (by exact fun _ _ _ h => h) (Or.inl ⟨by rfl, ?_⟩) (by assumption) ?_
                rotate_left
                · (intro w hSw; (try dsimp only at hSw); go_simp; (try with_reducible rfl))
                try simp only [Act.put, List.setIfInBounds_toArray, List.set_cons_zero, List.set_cons_succ]
                refine wpAnyH_take (i := 3) (v := ?_) (by simp only [List.getElem?_toArray, List.getElem?_cons_zero, List.getElem?_cons_succ]; rfl) (by kernel_rfl) (by kernel_rfl) (by kernel_rfl) (by exact fun _ _ _ h => h) (Or.inl ⟨by rfl, ?_⟩) (by assumption) ?_
                rotate_left
                · (intro w hSw; (try dsimp only at hSw); go_simp; (try with_reducible rfl))
                try simp only [Act.put, List.setIfInBounds_toArray, List.set_cons_zero, List.set_cons_succ]
                refine wpAnyH_take (i := 4) (v := .agg (cA cc)) (by simp only [List.getElem?_toArray, List.getElem?_cons_zero, List.getElem?_cons_succ]; rfl) (by kernel_rfl) (by kernel_rfl) (by kernel_rfl) (by exact fun _ _ _ h => h) (Or.inl ⟨by rfl, fun w hSw => xl_loadC (own_range (own_below O8v hSw) hcc.out) rfl rfl⟩) (by assumption) ?_
                try simp only [Act.put, List.setIfInBounds_toArray, List.set_cons_zero, List.set_cons_succ]
                refine wpAnyH_take (i := 5) (v := ?_) (by simp only [List.getElem?_toArray, List.getElem?_cons_zero, List.getElem?_cons_succ]; rfl) (by kernel_rfl) (by kernel_rfl) (by kernel_rfl) (by exact fun _ _ _ h => h) (Or.inl ⟨by rfl, ?_⟩) (by assumption) ?_
                rotate_left
                · (intro w hSw; (try dsimp only at hSw); go_simp; (try with_reducible rfl))
                try simp only [Act.put, List.setIfInBounds_toArray, List.set_cons_zero, List.set_cons_succ]
                refine wpAnyH_take (i := 6) (v := ?_) (by simp only [List.getElem?_toArray, List.getElem?_cons_zero, List.getElem?_cons_succ]; rfl) (by kernel_rfl) (by kernel_rfl) (by kernel_rfl) (by exact fun _ _ _ h => h) (Or.inl ⟨by rfl, ?_⟩) (by assumption) ?_
                rotate_left
                · (intro w hSw; (try dsimp only at hSw); go_simp; (try with_reducible rfl))
                try simp only [Act.put, List.setIfInBounds_toArray, List.set_cons_zero, List.set_cons_succ]
                refine wpAnyH_take (i := 7) (v := ?_) (by simp only [List.getElem?_toArray, List.getElem?_cons_zero, List.getElem?_cons_succ]; rfl) (by kernel_rfl) (by kernel_rfl) (by kernel_rfl) (by exact fun _ _ _ h => h) (Or.inl ⟨by rfl, ?_⟩) (by assumption) ?_
                rotate_left
                · (intro w hSw; (try dsimp only at hSw); go_simp; (try with_reducible rfl))
                try simp only [Act.put, List.setIfInBounds_toArray, List.set_cons_zero, List.set_cons_succ]
                refine wpAnyH_take (i := 8) (v := eU x) (by simp only [List.getElem?_toArray, List.getElem?_cons_zero, List.getElem?_cons_succ]; rfl) (by kernel_rfl) (by kernel_rfl) (by kernel_rfl) (by exact fun _ _ _ h => h) (Or.inl ⟨by rfl, fun w hSw => xl_at 22 (own_u (own_below O9v hSw) hx.out) rfl rfl Tryz.underlying22 rfl⟩) (by assumption) ?_
                try simp only [Act.put, List.setIfInBounds_toArray, List.set_cons_zero, List.set_cons_succ]
                refine wpAnyH_ready (rs := [9]) (by kernel_rfl) (by simp) ?_
                refine AllReadyH.cons (by simp only [List.getElem?_toArray, List.getElem?_cons_zero, List.getElem?_cons_succ]; rfl) (fun K hK => ?_) AllReadyH.nil
                go_simp
                go_at_call 24
                (with_reducible refine (hAt _).mono ?_)
                rintro e wa ⟨rfl, Ta⟩
                have S9 := ups (drew_below wv) Ta (drew_below wv).size
                refine hK.out _ _ S9 (fun hHeld => ?_)
                clear hK K
                try simp only [Act.put, List.setIfInBounds_toArray, List.set_cons_zero, List.set_cons_succ]
                refine wpAnyH_take (i := 10) (v := ?_) (by simp only [List.getElem?_toArray, List.getElem?_cons_zero, List.getElem?_cons_succ]; rfl) (by kernel_rfl) (by kernel_rfl) (by kernel_rfl) (by exact fun _ _ _ h => h) (Or.inl ⟨by rfl, ?_⟩) (by assumption) ?_
                rotate_left
                · (intro w hSw; (try dsimp only at hSw); go_simp; (try with_reducible rfl))
                try simp only [Act.put, List.setIfInBounds_toArray, List.set_cons_zero, List.set_cons_succ]
                refine wpAnyH_take (i := 11) (v := ?_) (by simp only [List.getElem?_toArray, List.getElem?_cons_zero, List.getElem?_cons_succ]; rfl) (by kernel_rfl) (by kernel_rfl) (by kernel_rfl) (by exact fun _ _ _ h => h) (Or.inl ⟨by rfl, ?_⟩) (by assumption) ?_
                rotate_left
                · (intro w hSw; (try dsimp only at hSw); go_simp; (try with_reducible rfl))
                try simp only [Act.put, List.setIfInBounds_toArray, List.set_cons_zero, List.set_cons_succ]
                refine wpAnyH_done (by kernel_rfl) ?_ _
                go_wp2_with fail
                exact ⟨⟨i + 1, rfl, by omega, by rw [hsbh.out], ups hT3 S9 hT3.size⟩, by simp [intOf]; omega⟩
              · have i1 : ¬ (i : Int) < (N : Int) := by omega
                obtain rfl : i = N := by omega
                have hle := htk.out x hxbh.out
                rw [hbRh.out] at hle
                have hRx : 0 ≤ R * x ∧ R * x < 18446744073709551616 := by
                  have h0 := Int.mul_nonneg hR.1 hxw.1
                  have h1 := Int.mul_le_mul hb.2 (show x ≤ 1048576 by have := hxbh.out; omega) hxw.1 (by omega)
                  omega
                have hwm : IntKind.u64.wrap (R * x) = R * x := u64_id hRx
                have e0 : L.take i = L := List.take_of_length_le (by omega)
                rw [e0]
                have d9 := own_u O9v hx.out
                obtain ⟨Rx, hRxe⟩ : ∃ Rx, R * x = Rx := ⟨_, rfl⟩
                rw [hRxe] at hwm hle
                generalize sW L x = sa at *
                have hgt : ¬ Rx < sa := by omega
                clear hRx hle e0
                go_wp2_with fail
                exact ⟨⟨k + 1, rfl, by omega, ups hT hT3 hT.size⟩, by simp [intOf]; omega⟩
          · have k1 : ¬ (k : Int) < (M : Int) := by omega
            go_wp2_with fail
            go_ret
            exact ⟨rfl, ups hS hT hS.size⟩
  · have hPl := fun W => played_bad a n c R hR hb W
    clear hb
    go_enter Tryz.func4, Tryz.ntmps4
    go_wp2_with (first
      | (go_at_call 19; (with_reducible refine hA.mono ?_); rintro e w2 ⟨rfl, T2⟩; have hp := nil_eq)
      | (go_at_call 6; (with_reducible refine (hLg _).mono ?_); rintro e w3 ⟨rfl, rfl⟩)
      | (go_at_call 20; (with_reducible refine (hPl _).mono ?_); rintro e w4 ⟨rfl, rfl⟩))
    go_ret
    exact ⟨rfl, T2⟩
end Go.Proofs.YtjbpaapglamilaaGreat.H
