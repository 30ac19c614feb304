/- TableCopies' walk: a copy holds the same; what is done to one alone changes nothing of the other one. No condition but words. -/
import Derived.Test.YtenghpgnhmglpaaDoorRtP
namespace Go.Proofs.YtenghpgnhmglpaaDoor
open Go.RowKit Go.Shelf
set_option linter.unusedVariables false
set_option linter.unusedSimpArgs false
attribute [local go_sem] Oper.semAt_some
/-- What is there behind a drop and a put of an id. -/
theorem has_both {k v j : Int} {L : List Im} (hg : Good L) : hasI j (putI k v (dropT k L)) = if j = k then mayI k else hasI j L := by
  cases hm : mayI k with
  | false =>
    have hh := may_has hg hm
    rw [dropT_no (by rw [askE_arg hm]; decide), putI_no (by rw [putE_arg hm]; decide)]
    split
    · rename_i e; rw [e]; exact hh
    · rfl
  | true =>
    obtain ⟨M, hM, h1, h2⟩ : ∃ M, dropT k L = M ∧ hasI k M = false ∧ ∀ j, j ≠ k → hasI j M = hasI j L := by
      cases hh : hasI k L with
      | false => exact ⟨L, dropT_no (by rw [askE_no hm hh]; decide), hh, fun _ _ => rfl⟩
      | true =>
        refine ⟨delI k L, dropT_ok (askE_ok hm hh), has_del _ _, fun j hj => ?_⟩
        unfold hasI delI
        rw [List.any_filter]
        congr 1
        funext a
        by_cases e : a.id = j
        · have : a.id ≠ k := fun e2 => hj (e.symm.trans e2)
          simp [e, hj]
        · simp [e]
    rw [hM, putI_ok (putE_ok hm h1)]
    by_cases e : j = k
    · subst e
      rw [if_pos rfl]
      exact has_ins _ _ _
    · rw [if_neg e, ← h2 j e]
      apply Bool.eq_iff_iff.2
      rw [hasI_iff, hasI_iff]
      constructor
      · rintro ⟨a, ha, ea⟩
        rcases ins_mem.1 ha with rfl | ha
        · exact absurd ea.symm e
        · exact ⟨a, ha, ea⟩
      · rintro ⟨a, ha, ea⟩
        exact ⟨a, ins_mem.2 (.inr ha), ea⟩
/-- A row behind n acts that drop an id and put it. -/
def rowB (L : List Im) (ys : Nat → Ac) : Nat → List Im
  | 0 => L
  | n + 1 => putI (ys n).id (ys n).v (dropT (ys n).id (rowB L ys n))
theorem rowB_len (L : List Im) (ys : Nat → Ac) : ∀ n, (rowB L ys n).length ≤ L.length + n
  | 0 => Nat.le_refl _
  | n + 1 => by
    have h := rowB_len L ys n
    have h1 := drop_len (ys n).id (rowB L ys n)
    have h2 := put_len (ys n).id (ys n).v (dropT (ys n).id (rowB L ys n))
    show (putI _ _ _).length ≤ _
    omega
theorem rowB_good {L : List Im} {ys : Nat → Ac} (hg : Good L) (hy : ∀ i, (ys i).ok) : ∀ n, Good (rowB L ys n)
  | 0 => hg
  | n + 1 => (rowB_good hg hy n).drop.put (hy n).2.2.1
theorem rowB_has {L : List Im} {ys : Nat → Ac} (hg : Good L) (hy : ∀ i, (ys i).ok) : ∀ n i, i < n → hasI (ys i).id (rowB L ys n) = mayI (ys i).id
  | 0, i, h => by omega
  | n + 1, i, h => by
    show hasI _ (putI _ _ _) = _
    rw [has_both (rowB_good hg hy n)]
    split
    · rename_i e; rw [e]
    · rename_i e
      refine rowB_has hg hy n i ?_
      rcases Nat.lt_or_ge i n with h1 | h1
      · exact h1
      · obtain rfl : i = n := by omega
        exact absurd rfl e
set_option maxRecDepth 100000 in
set_option maxHeartbeats 12000000 in
theorem copies_ok (a : Option Addr) (n c : Nat) (xs : Nat → Ac) (a2 : Option Addr) (n2 c2 : Nat) (ys : Nat → Ac) (w : World) (ht : Tab w) (hn : n ≤ 100) (hn2 : n2 ≤ 100) (hI : IsRow acC 4 w a n c xs) (hw : ∀ i, (xs i).ok) (hI2 : IsRow acC 4 w a2 n2 c2 ys) (hw2 : ∀ i, (ys i).ok) :
    Calls Tryd.prog 8 #[.slice a n c, .slice a2 n2 c2] w fun e w' => e = .returned (.bool true) ∧ Below w.heap.size w w' := by
  have br := Box.new w 4 #[.bool false]
  have T1 := up1 w (.cells #[.bool false] 4)
  have hz1 : (w.alloc (.cells #[.bool false] 4)).heap.size = w.heap.size + 1 := by simp
  obtain ⟨w1, hw1⟩ : ∃ X, w.alloc (.cells #[.bool false] 4) = X := ⟨_, rfl⟩
  rw [hw1] at br T1 hz1
  have hAw := awake_any tbLaws w1 (ht.below T1)
  have i1 : ¬ (100 : Int) < (n : Int) := by omega
  have i2 : ¬ (100 : Int) < (n2 : Int) := by omega
  have hA : ∀ W, Below w.heap.size w W → Calls Tryd.prog 23 #[.slice a n c] W fun e w' => ∃ B : Nat, e = .returned (.pointer (some ⟨B, 0, none⟩)) ∧ Own1 Tb W w' B (rowA xs n) := fun W hW => acted_ok tbLaws a n c xs W (ht.below hW) (by omega) (hI.below hW) hw
  refine (callsIn_wide (n := 14)).1 ?_
  refine callsIn_of_wp_marks Tryd.func8 rfl trivial ?_ rfl
  simp only [Tryd.ntmps8, List.size_toArray, List.length_cons, List.length_nil, Nat.reduceAdd, Nat.reduceSub, Array.replicate_succ, Array.replicate_zero, List.push_toArray, List.append_toArray, List.nil_append, List.cons_append]
  gi_upto_region 8 with (first
    | (refine ⟨trivial, ?_⟩; gi_at_call 22; (with_reducible refine (callsIn_wide.2 hAw).mono ?_); rintro e w2 ⟨rfl, hb2⟩; have T2 := ups T1 hb2 T1.size)
    | (refine ⟨trivial, ?_⟩; gi_at_call 23; (with_reducible refine (callsIn_wide.2 (hA _ T2)).mono ?_); rintro e w3 ⟨B, rfl, H3⟩; have T3 := ups T2 H3.world T2.size)
    | (refine ⟨trivial, ?_⟩; gi_at_call 23; (with_reducible refine (callsIn_wide.2 (hA _ T3)).mono ?_); rintro e w4 ⟨U, rfl, H4⟩))
  have hLn := rowA_len xs n
  have hg := rowA_good hw n
  generalize rowA xs n = L at *
  have hl : L.length ≤ 100 := by omega
  have hl3 : L.length ≤ 1000 := by omega
  have hw3 := H3.world
  obtain ⟨χ3, _, hB3⟩ := H3
  have hB4 := hB3.below H4.world
  have hTu := H4.tells tbLaws hl3
  have T4 := ups T3 H4.world T3.size
  have Ts := hB4.tells hl3
  have br4 := ((br.below hb2).below hw3).below H4.world
  have bu := Box.new w4 23 #[.pointer (some ⟨U, 0, none⟩)]
  have U1 := up1 w4 (.cells #[.pointer (some ⟨U, 0, none⟩)] 23)
  have hz5 : (w4.alloc (.cells #[.pointer (some ⟨U, 0, none⟩)] 23)).heap.size = w4.heap.size + 1 := by simp
  have T5 := ups T4 U1 T4.size
  have hB5 := hB4.below U1
  have Ts5 := Ts.below U1
  have Tu5 := hTu.below U1
  have br5 := br4.below U1
  obtain ⟨w5, hw5⟩ : ∃ X, w4.alloc (.cells #[.pointer (some ⟨U, 0, none⟩)] 23) = X := ⟨_, rfl⟩
  rw [hw5] at bu T5 hB5 Ts5 Tu5 br5 hz5
  simp only [hw5]
  have hC := own1_copy hB5 hl3
  have hc5 : ∀ (k : Nat) w', k < n2 → Below w5.heap.size w5 w' → ∃ b o, a2 = some ⟨b, o, none⟩ ∧ w'.cell? ⟨b, o + k * 4 + 1, none⟩ = some (.int .i64 (ys k).id) ∧ w'.cell? ⟨b, o + k * 4 + 2, none⟩ = some (.int .u64 (ys k).v) := fun k w' hk T => by
    obtain ⟨b, o, e, _, h⟩ := row_at hI2 k hk
    exact ⟨b, o, e, h w' (ups T5 T T5.size) 1 _ rfl, h w' (ups T5 T T5.size) 2 _ rfl⟩
  have hce := Lib.hid hc5
  have hnc2 : (n2 : Int) ≤ (c2 : Int) := by have := hI2.1; omega
  have hyh := Lib.hid hw2
  have hgh := Lib.hid hg
  clear hI hI2 hw hw2 ht hA hAw Ts hTu U1 hB3 hB4 hB5 H4 br br4 hw1 hw5 hc5 hg i1 i2 T1 T2 T3 T4 hb2
  gi_wp2_with (refine ⟨trivial, ?_⟩; gi_at_call 10; (with_reducible refine (callsIn_wide.2 hC).mono ?_); rintro e w6 ⟨C, rfl, H6⟩)
  gi_loopw [8] (fun s8 wr => ∃ k : Nat, s8 = .int .i64 k ∧ k ≤ n2 ∧ Own1 Tb w5 wr C (rowB L ys k)) (fun s8 _ => n2 - (intOf s8).toNat)
  case atStart => exact ⟨0, rfl, by omega, H6⟩
  case round =>
    clear H6 hC
    obtain ⟨k, rfl, hk, H0⟩ := hrel
    by_cases hlt : k < n2
    · have i1 : (k : Int) < (n2 : Int) := by omega
      have i2 : (0 : Int) ≤ (k : Int) := by omega
      obtain ⟨b, o, rfl, x1, x2⟩ := hce.out k wr hlt H0.world
      have hx := hyh.out k
      have hrl := rowB_len L ys k
      have hdl := drop_len (ys k).id (rowB L ys k)
      have hst : Hid (rowB L ys (k + 1) = putI (ys k).id (ys k).v (dropT (ys k).id (rowB L ys k))) := rfl
      have D1 : ∀ W, Own1 Tb w5 W C (rowB L ys k) → Calls Tryd.prog 17 #[.pointer (some ⟨C, 0, none⟩), eI (ys k).id] W fun e w' => (∃ z : Int, e = .returned (eI z)) ∧ Own1 Tb w5 w' C (dropT (ys k).id (rowB L ys k)) := fun W h => (own1_drop tbLaws _ hx.2.1 h (by omega) rfl rfl).mono fun e w' ⟨h1, h2⟩ => ⟨⟨_, h1⟩, h2⟩
      have D2 : ∀ W, Own1 Tb w5 W C (dropT (ys k).id (rowB L ys k)) → Calls Tryd.prog 16 #[.pointer (some ⟨C, 0, none⟩), eI (ys k).id, eU (ys k).v] W fun e w' => (∃ z : Int, e = .returned (eI z)) ∧ Own1 Tb w5 w' C (putI (ys k).id (ys k).v (dropT (ys k).id (rowB L ys k))) := fun W h => (own1_put tbLaws _ _ hx.2.1 hx.2.2.1 h (by omega) rfl rfl).mono fun e w' ⟨h1, h2⟩ => ⟨⟨_, h1⟩, h2⟩
      have hw1 : IntKind.i64.wrap ((k : Int) + 1) = (k : Int) + 1 := i64_id (by omega)
      gi_upto_region 15 with (refine ⟨trivial, ?_⟩; gi_at_call 17; (with_reducible refine (callsIn_wide.2 (D1 _ H0)).mono ?_); rintro e w7 ⟨⟨z7, rfl⟩, H7⟩)
      obtain ⟨b', o', e, y1, y2⟩ := hce.out k w7 hlt H7.world
      cases e
      have H7d : Own1 Tb w5 w7.drew C (dropT (ys k).id (rowB L ys k)) := H7.below tbLaws (Below.refl _ w7).drew
      refine wpIn_wide.2 ?_
      go_region_held3 (fun w' => w'.cell? ⟨b, o + k * 4 + 1, none⟩ = some (.int .i64 (ys k).id) ∧ w'.cell? ⟨b, o + k * 4 + 2, none⟩ = some (.int .u64 (ys k).v))
        (first | exact ⟨y1, y2⟩ | (obtain ⟨b', o', e, z1, z2⟩ := hce.out k _ hlt H8.world; cases e; exact ⟨z1, z2⟩))
        (first | (go_at_call 16; (with_reducible refine (D2 _ H7).mono ?_); rintro e w8 ⟨⟨z8, rfl⟩, H8⟩) | (go_at_call 16; (with_reducible refine (D2 _ H7d).mono ?_); rintro e w8 ⟨⟨z8, rfl⟩, H8⟩))
      all_goals gi_wp2
      exact ⟨⟨k + 1, rfl, by omega, by rw [hst.out]; exact H8⟩, by simp [intOf]; omega⟩
    · obtain rfl : k = n2 := by omega
      have i1 : ¬ (k : Int) < (k : Int) := by omega
      have hrl := rowB_len L ys k
      have hhas := rowB_has hgh.out hyh.out k
      have hhh := Lib.hid hhas
      clear hhas
      have Tc := H0.tells tbLaws (by omega)
      have T6 := H0.world
      generalize rowB L ys k = M at *
      have q1 : ∀ m, Calls Tryd.prog 13 #[.pointer (some ⟨B, 0, none⟩)] (wr.drewN m) fun e w' => e = .returned (eI (L.length : Int)) ∧ w' = wr.drewN m := fun m => (Ts5.len _ (below_drewN T6 m)).mono fun e w' ⟨x, y⟩ => ⟨x, y.symm⟩
      have q2 : ∀ m, Calls Tryd.prog 13 #[.pointer (some ⟨U, 0, none⟩)] (wr.drewN m) fun e w' => e = .returned (eI (L.length : Int)) ∧ w' = wr.drewN m := fun m => (Tu5.len _ (below_drewN T6 m)).mono fun e w' ⟨x, y⟩ => ⟨x, y.symm⟩
      have bu6 := (bu.below T6).cell 0
      have e0 : ((L.length : Int) != (L.length : Int)) = false := by simp
      gi_upto_region 16 with fail
      refine wpIn_wide.2 ?_
      go_quiet (first | (go_at_call 13; refine Calls.quiet_of_same (q1 _)) | (go_at_call 13; refine Calls.quiet_of_same (q2 _)))
      have T7 : Below w5.heap.size w5 (wr.drewN nq) := below_drewN T6 nq
      have Tc7 := Tc.below (below_drewN (Below.refl _ wr) nq)
      clear q1 q2 bu6 T6 H0 Tc
      generalize wr.drewN nq = V at *
      gi_wp2_with (refine ⟨trivial, ?_⟩; gi_at_call 14; (with_reducible refine (callsIn_wide.2 (Ts5.each V T7)).mono ?_); rintro e w7 ⟨b, rfl, hb7, hbb, hbx, hseq⟩)
      have hz7 := hb7.size
      have hbl := hbx.lt
      have hzV := T7.size
      have hsq := (hseq 13 V.heap.size (by omega) (by omega) (by omega)).toC
      clear hseq
      refine loopC (by omega) (gf := 32) (lb := #[.pointer (Option.some ⟨b, 0, none⟩)]) rfl (enters_of Tryd.func32 (by kernel_rfl) rfl) (n₀ := V.heap.size) (by omega) hsq (fun _ => rfl)
        (fun pre X => Box X b #[.pointer (some ⟨B, 0, none⟩)] 23 ∧ Below V.heap.size V X) (fun _ _ _ => False)
        (fun _ X Y row hI hg hr => ⟨hI.1.turn hg hr hbl, below_turn hI.2 hg hr (by omega)⟩) (fun c _ _ _ _ h => h.elim) (fun _ _ h => h.1) ⟨hbx, hb7⟩
        (fun z a' X => a' = { tmps := #[Value.slice a n c, Value.slice a2 k c2, undef, undef, Value.pointer (some { block := w.heap.size, off := 0 }), Value.pointer (some { block := B, off := 0 }), Value.pointer (some { block := w4.heap.size, off := 0 }), Value.pointer (some { block := C, off := 0 }), Value.int IntKind.i64 ↑k, eI z.id, eU z.v, undef, undef, undef, undef, undef, Value.bool true, Value.bool false, Value.slice a n c, Value.int IntKind.i64 ↑n, Value.bool (decide ((100 : Int) < (n : Int))), Value.bool (decide ((100 : Int) < (n : Int))), Value.slice a2 k c2, Value.int IntKind.i64 ↑k, Value.bool (decide ((100 : Int) < (k : Int))), Value.bool (decide ((100 : Int) < (n : Int)) || decide ((100 : Int) < (k : Int))), Value.slice a n c, Value.pointer (some { block := B, off := 0 }), Value.slice a n c, Value.pointer (some { block := U, off := 0 }), Value.pointer (some { block := B, off := 0 }), Value.bool false, Value.bool false, Value.pointer (some { block := U, off := 0 }), Value.bool false, Value.bool false, Value.pointer (some { block := B, off := 0 }), Value.pointer (some { block := C, off := 0 }), Value.pointer (some { block := C, off := 0 }), Value.bool false, Value.int IntKind.i64 ↑k, Value.slice a2 k c2, Value.int IntKind.i64 ↑k, Value.bool false, u44, u45, u46, u47, u48, u49, u50, u51, u52, u53, u54, u55, u56, u57, u58, u59, u60, u61, u62, u63, u64, Value.pointer (some { block := B, off := 0 }), eI ↑L.length, Value.pointer (some { block := U, off := 0 }), eI ↑L.length, Value.bool false, Value.pointer (some { block := B, off := 0 }), Value.func (Fn.func 32) #[] #[Value.pointer (some { block := b, off := 0 })], eI z.id, eU z.v, undef, undef, undef, undef, undef, undef, undef, undef, undef, undef, undef, undef, undef, undef, undef, undef, undef, undef, undef, undef, undef, undef, undef, undef, undef, undef, undef, undef, undef, undef, undef, undef, undef, undef, undef, undef, undef, undef, undef, undef, undef, undef, undef, undef, undef], defers := [] })
        (fun x a' _ X Y row hs hg hr => hs)
        ?assign ?body ?done ?stop
      case assign =>
        rintro l0 pre z X K hzX hI hK
        simp only [imE]
        gi_wp2
        exact hK _ _ (Mid.refl _ _ X) hI rfl
      case stop =>
        rintro D c pre X hD _ h hK
        exact h.elim
      case body =>
        rintro l0 pre z a' X hzX ⟨h1, h2⟩ rfl hpx
        obtain ⟨hk, hz⟩ := pre_at hpx
        have hat := getI_at hgh.out (List.getElem?_eq_getElem hk)
        have hzi := (hgh.out.each _ (List.getElem_mem hk)).1
        rw [hz] at hat hzi
        have T8 := upp T7 h2
        have cG := Tu5.get z.id X (by show _ ≤ _ ∧ _ < _; omega) T8
        rw [hat.1, hat.2] at cG
        have c1 := (bu.below T8).cell 0
        have e1 : (z.v != z.v) = false := by simp
        have e2 : ((Option.some z.v).getD 0) = z.v := rfl
        rw [e2] at cG
        clear hat hzi hz e2
        gi_wp2_with (refine ⟨trivial, ?_⟩; gi_at_call 15; (with_reducible refine (CallsIn.inRound l0 (callsIn_wide.2 cG)).mono ?_); rintro e w8 ⟨rfl, hb8⟩)
        exact ⟨Mid.of_below hb8 h2.size, h1.below hb8, upp h2 hb8⟩
      case done =>
        rintro D0 zs X hD rfl ⟨h1, h2⟩ hKd
        have nD : D0 < X.heap.size := (Array.getElem?_eq_some_iff.1 hKd).1
        have T8 := upp T7 h2
        have Tc8 := Lib.hid (Tc7.below h2)
        have kd := Lib.hid hKd
        clear hsq hbx hb7 h1 hKd Tc7 Ts5 Tu5 hgh
        gi_wp2
        gi_loopw [13] (fun s13 wr => ∃ j : Nat, s13 = .int .i64 j ∧ j ≤ k ∧ Below X.heap.size X wr) (fun s13 _ => k - (intOf s13).toNat)
        case atStart => exact ⟨0, rfl, by omega, Below.refl _ _⟩
        case round =>
          obtain ⟨j, rfl, hj, hW⟩ := hrel
          by_cases hlt : j < k
          · have i3 : (j : Int) < (k : Int) := by omega
            have i2 : (0 : Int) ≤ (j : Int) := by omega
            obtain ⟨b2, o, rfl, x1, _⟩ := hce.out j wr hlt (upp T8 hW)
            have hx := hyh.out j
            have cG := fun W (h : Below X.heap.size X W) => Tc8.out.get (ys j).id W hx.2.1 h
            rw [hhh.out j hlt] at cG
            have hw1 : IntKind.i64.wrap ((j : Int) + 1) = (j : Int) + 1 := i64_id (by omega)
            have hm : mayI (ys j).id = (decide (1 ≤ (ys j).id) && decide ((ys j).id ≤ 65535)) := by unfold mayI; simp
            rw [hm] at cG
            generalize (getI (ys j).id M).getD 0 = gv at *
            have hX : ∀ W, Below X.heap.size X W → W.cell? ⟨b2, o + j * 4 + 1, none⟩ = some (.int .i64 (ys j).id) := fun W h => by
              obtain ⟨b', o', e, z1, _⟩ := hce.out j W hlt (upp T8 h)
              cases e
              exact z1
            by_cases p1 : 1 ≤ (ys j).id
            · by_cases p2 : (ys j).id ≤ 65535
              · rw [show (decide (1 ≤ (ys j).id) && decide ((ys j).id ≤ 65535)) = true by simp [p1, p2]] at cG
                clear hm
                gi_wp2_with (refine ⟨trivial, ?_⟩; gi_at_call 15; (with_reducible refine (callsIn_wide.2 (cG wr hW)).mono ?_); rintro e w9 ⟨rfl, hb9⟩; have x2 := hX w9 (upp hW hb9))
                exact ⟨⟨j + 1, rfl, by omega, upp hW hb9⟩, by simp [intOf]; omega⟩
              · rw [show (decide (1 ≤ (ys j).id) && decide ((ys j).id ≤ 65535)) = false by simp [p2]] at cG
                clear hm
                gi_wp2_with (refine ⟨trivial, ?_⟩; gi_at_call 15; (with_reducible refine (callsIn_wide.2 (cG wr hW)).mono ?_); rintro e w9 ⟨rfl, hb9⟩; have x2 := hX w9 (upp hW hb9))
                exact ⟨⟨j + 1, rfl, by omega, upp hW hb9⟩, by simp [intOf]; omega⟩
            · rw [show (decide (1 ≤ (ys j).id) && decide ((ys j).id ≤ 65535)) = false by simp [p1]] at cG
              clear hm
              gi_wp2_with (refine ⟨trivial, ?_⟩; gi_at_call 15; (with_reducible refine (callsIn_wide.2 (cG wr hW)).mono ?_); rintro e w9 ⟨rfl, hb9⟩; have x2 := hX w9 (upp hW hb9))
              exact ⟨⟨j + 1, rfl, by omega, upp hW hb9⟩, by simp [intOf]; omega⟩
          · obtain rfl : j = k := by omega
            have i3 : ¬ (j : Int) < (j : Int) := by omega
            have T9 := upp T8 hW
            have b0 := br5.below T9
            have r0 := b0.thaw 0
            have r1 := b0.cell 0
            have hmk := (hW.block D0 nD).trans kd.out
            have qB : Box (wr.setCell ⟨w.heap.size, 0, none⟩ (.bool true)) (w.heap.size) #[.bool true] 4 := b0.set 0 (.bool true)
            have qT := (upp T5 T9).setCell (p := ⟨w.heap.size, 0, none⟩) (by simp) (.bool true)
            have nD2 : D0 ≠ w.heap.size := by have := T5.size; omega
            have fd := (Below.heap_setCell wr ⟨w.heap.size, 0, none⟩ (.bool true) D0 nD2).trans hmk
            have fB : Box ((wr.setCell ⟨w.heap.size, 0, none⟩ (.bool true)).putObj D0 (.deferred none)) (w.heap.size) #[.bool true] 4 := (World.putObj_heap_other (by omega)).trans qB
            have fc := fB.cell 0
            have fb := qT.trans (belowK_b (w := w) (Nat.le_refl _) _ D0 _ (.deferred none) (by have := T5.size; omega) fd rfl rfl)
            clear qB qT fB hmk
            gi_wp2
            refine ⟨by simp, .inl ⟨_, _, rfl, run_takeDeferred fd, ?_⟩⟩
            exact ⟨.bool true, by simp [results, Tryd.results8, go_sem, fc], rfl, fb⟩
theorem copies_over (a : Option Addr) (n c : Nat) (a2 : Option Addr) (n2 c2 : Nat) (w : World) (ht : Tab w) (hn : 100 < n ∨ 100 < n2) :
    Calls Tryd.prog 8 #[.slice a n c, .slice a2 n2 c2] w fun e w' => e = .returned (.bool true) ∧ Below w.heap.size w w' := by
  have br := Box.new w 4 #[.bool false]
  have T1 := up1 w (.cells #[.bool false] 4)
  obtain ⟨w1, hw1⟩ : ∃ X, w.alloc (.cells #[.bool false] 4) = X := ⟨_, rfl⟩
  rw [hw1] at br T1
  have hAw := awake_any tbLaws w1 (ht.below T1)
  refine (callsIn_wide (n := 14)).1 ?_
  refine callsIn_of_wp_marks Tryd.func8 rfl trivial ?_ rfl
  simp only [Tryd.ntmps8, List.size_toArray, List.length_cons, List.length_nil, Nat.reduceAdd, Nat.reduceSub, Array.replicate_succ, Array.replicate_zero, List.push_toArray, List.append_toArray, List.nil_append, List.cons_append]
  have hor : (100 < n) ∨ (¬ 100 < n ∧ 100 < n2) := by omega
  rcases hor with h1 | ⟨h0, h1⟩
  · have i1 : (100 : Int) < (n : Int) := by omega
    gi_wp2_with (refine ⟨trivial, ?_⟩; gi_at_call 22; (with_reducible refine (callsIn_wide.2 hAw).mono ?_); rintro e w2 ⟨rfl, hb2⟩; have r0 := (br.below hb2).thaw 0; have r1 := (br.below hb2).cell 0)
    have fc := ((br.below hb2).set 0 (.bool true)).cell 0
    exact ⟨.bool true, by simp [results, Tryd.results8, go_sem, fc], rfl, (ups T1 hb2 T1.size).setCell (p := ⟨w.heap.size, 0, none⟩) (by simp) (.bool true)⟩
  · have i1 : ¬ (100 : Int) < (n : Int) := by omega
    have i2 : (100 : Int) < (n2 : Int) := by omega
    gi_wp2_with (refine ⟨trivial, ?_⟩; gi_at_call 22; (with_reducible refine (callsIn_wide.2 hAw).mono ?_); rintro e w2 ⟨rfl, hb2⟩; have r0 := (br.below hb2).thaw 0; have r1 := (br.below hb2).cell 0)
    have fc := ((br.below hb2).set 0 (.bool true)).cell 0
    exact ⟨.bool true, by simp [results, Tryd.results8, go_sem, fc], rfl, (ups T1 hb2 T1.size).setCell (p := ⟨w.heap.size, 0, none⟩) (by simp) (.bool true)⟩
theorem TableCopies_walk (a : Option Addr) (n c : Nat) (xs : Nat → Ac) (a2 : Option Addr) (n2 c2 : Nat) (ys : Nat → Ac) (w : World) (ht : Tab w) (hI : IsRow acC 4 w a n c xs) (hw : ∀ i, (xs i).ok) (hI2 : IsRow acC 4 w a2 n2 c2 ys) (hw2 : ∀ i, (ys i).ok) :
    Calls Tryd.prog 8 #[.slice a n c, .slice a2 n2 c2] w fun e w' => e = .returned (.bool true) ∧ Below w.heap.size w w' := by
  by_cases h : 100 < n ∨ 100 < n2
  · exact copies_over a n c a2 n2 c2 w ht h
  · exact copies_ok a n c xs a2 n2 c2 ys w ht (by omega) (by omega) hI hw hI2 hw2
end Go.Proofs.YtenghpgnhmglpaaDoor
