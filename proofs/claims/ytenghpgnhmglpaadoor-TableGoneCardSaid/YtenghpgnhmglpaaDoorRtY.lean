/- TableGone's walk: what is put and dropped leaves all as it was; a table of which all is dropped is empty. No condition but words. -/
import Derived.Test.YtenghpgnhmglpaaDoorRtP
namespace Go.Proofs.YtenghpgnhmglpaaDoor
open Go.RowKit Go.Shelf
set_option linter.unusedVariables false
set_option linter.unusedSimpArgs false
attribute [local go_sem] Oper.semAt_some
abbrev acV (x : Ac) : Array Value := #[.int .u8 x.kd, .int .i64 x.id, .int .u64 x.v, .int .i64 x.ask]
set_option maxRecDepth 100000 in
set_option maxHeartbeats 12000000 in
theorem gone_ok (a : Option Addr) (n c : Nat) (xs : Nat → Ac) (x : Ac) (w : World) (ht : Tab w) (hn : n ≤ 200) (hI : IsRow acC 4 w a n c xs) (hw : ∀ i, (xs i).ok) (hx : x.ok) :
    Calls Tryd.prog 7 #[.slice a n c, .agg (acV x)] w fun e w' => e = .returned (.bool true) ∧ Below w.heap.size w w' := by
  have ba := (Box.new w 31 (acV x)).alloc (.cells #[.bool false] 4)
  have br := Box.new (w.alloc (.cells (acV x) 31)) 4 #[.bool false]
  have T1 := up2 w (.cells (acV x) 31) (.cells #[.bool false] 4)
  have hz1 : ((w.alloc (.cells (acV x) 31)).alloc (.cells #[.bool false] 4)).heap.size = w.heap.size + 2 := by simp
  simp only [World.size_alloc] at br
  obtain ⟨w1, hw1⟩ : ∃ X, (w.alloc (.cells (acV x) 31)).alloc (.cells #[.bool false] 4) = X := ⟨_, rfl⟩
  rw [hw1] at ba br T1 hz1
  have hAw := awake_any tbLaws w1 (ht.below T1)
  refine (callsIn_wide (n := 14)).1 ?_
  refine callsIn_of_wp_marks Tryd.func7 rfl trivial ?_ rfl
  simp only [Tryd.ntmps7, List.size_toArray, List.length_cons, List.length_nil, Nat.reduceAdd, Nat.reduceSub, Array.replicate_succ, Array.replicate_zero, List.push_toArray, List.append_toArray, List.nil_append, List.cons_append]
  gi_wp2_with (first
    | (refine ⟨trivial, ?_⟩; gi_at_call 22; (with_reducible refine (callsIn_wide.2 hAw).mono ?_); rintro e w2 ⟨rfl, hb2⟩)
    | (refine ⟨trivial, ?_⟩; gi_at_call 23; (with_reducible refine (callsIn_wide.2 (acted_ok tbLaws a n c xs w2 ((ht.below T1).below hb2) hn (hI.below (ups T1 hb2 T1.size)) hw)).mono ?_); rintro e w3 ⟨B, rfl, H⟩))
  have hLn := rowA_len xs n
  have hg := rowA_good hw n
  generalize rowA xs n = L at *
  have hl : L.length ≤ 200 := by omega
  have hz2 := hb2.size
  have T2 := ups T1 hb2 T1.size
  have ba2 := ba.below hb2
  have br2 := br.below hb2
  have hC := duo_copy H (by omega)
  obtain ⟨Tp, hTp⟩ : ∃ T, w3.heap.size = T := ⟨_, rfl⟩
  rw [hTp] at hC
  have hz3 := H.world.size
  rw [hTp] at hz3
  clear hI hw ht hn hLn hAw
  gi_upto_region 9 with (refine ⟨trivial, ?_⟩; gi_at_call 10; (with_reducible refine (callsIn_wide.2 hC).mono ?_); rintro e w4 ⟨C, rfl, H4⟩)
  have hl3 : L.length ≤ 1000 := by omega
  have hu : ∀ W, Duo w2 W B L C L Tp → Below w2.heap.size w2 W ∧ W.cell? ⟨Tp, 0, none⟩ = some (.pointer (some ⟨B, 0, none⟩)) ∧ W.cell? ⟨w.heap.size, 1, none⟩ = some (.int .i64 x.id) ∧ W.cell? ⟨w.heap.size, 2, none⟩ = some (.int .u64 x.v) := fun W h => ⟨h.world, h.box.cell 0, (ba2.below h.world).cell 1, (ba2.below h.world).cell 2⟩
  have cl1 : ∀ W, Duo w2 W B L C L Tp → Calls Tryd.prog 13 #[.pointer (some ⟨B, 0, none⟩)] W fun e w' => e = .returned (eI (L.length : Int)) ∧ W = w' := fun W h => (h.tells1 hl3).len W (Below.refl _ _)
  have cl2 : ∀ W, Duo w2 W B L C L Tp → Calls Tryd.prog 13 #[.pointer (some ⟨C, 0, none⟩)] W fun e w' => e = .returned (eI (L.length : Int)) ∧ W = w' := fun W h => (h.tells2 hl3).len W (Below.refl _ _)
  have e0 : ((L.length : Int) != (L.length : Int)) = false := by simp
  obtain ⟨z0, z1, z2, z3⟩ := hu _ H4
  gi_cut [45] from 25 (fun s45 wx => s45 = .bool false ∧ Duo w2 wx B L C L Tp)
  case first =>
    have arm1 : ∀ W, Duo w2 W B L C L Tp → Calls Tryd.prog 16 #[.pointer (some ⟨B, 0, none⟩), eI x.id, eU x.v] W fun e w' => e = .returned (eI (putE x.id L)) ∧ Duo w2 w' B (putI x.id x.v L) C L Tp := fun W h => duo_put1 _ _ hx.2.2.1 h hl3 rfl rfl
    by_cases h0 : putE x.id L = 0
    · obtain ⟨u1, u2⟩ := @undo x.id x.v L h0
      have hKl := put_len x.id x.v L
      have hu2 : ∀ W, Duo w2 W B (putI x.id x.v L) C L Tp → W.cell? ⟨Tp, 0, none⟩ = some (.pointer (some ⟨B, 0, none⟩)) ∧ W.cell? ⟨w.heap.size, 1, none⟩ = some (.int .i64 x.id) := fun W h => ⟨h.box.cell 0, (ba2.below h.world).cell 1⟩
      have arm2 : ∀ W, Duo w2 W B (putI x.id x.v L) C L Tp → Calls Tryd.prog 17 #[.pointer (some ⟨B, 0, none⟩), eI x.id] W fun e w' => e = .returned (eI 0) ∧ Duo w2 w' B L C L Tp := fun W h => duo_drop1 _ h (by omega) u1 u2
      rw [h0] at arm1
      clear u1 u2 hKl h0 H hC
      gi_wp2_with (first
        | (refine ⟨trivial, ?_⟩; gi_at_call 16; (with_reducible refine (callsIn_wide.2 (arm1 _ H4)).mono ?_); rintro e w5 ⟨rfl, H5⟩; obtain ⟨f0, f1⟩ := hu2 _ H5; clear z0 z1 z2 z3)
        | (refine ⟨trivial, ?_⟩; gi_at_call 17; (with_reducible refine (callsIn_wide.2 (arm2 _ H5)).mono ?_); rintro e w6 ⟨rfl, H6⟩; clear f0 f1; obtain ⟨f0, f1, f2, f3⟩ := hu _ H6)
        | (refine ⟨trivial, ?_⟩; gi_at_call 13; (with_reducible refine (callsIn_wide.2 (cl1 _ H6)).mono ?_); rintro e w7 ⟨rfl, rfl⟩)
        | (refine ⟨trivial, ?_⟩; gi_at_call 13; (with_reducible refine (callsIn_wide.2 (cl2 _ H6)).mono ?_); rintro e w7 ⟨rfl, rfl⟩))
      gi_meet
      exact ⟨rfl, H6⟩
    · have q0 : (putE x.id L == 0) = false := by simpa using h0
      have hK := putI_no (v := x.v) h0
      rw [hK] at arm1
      generalize putE x.id L = E at *
      clear hK h0 H hC
      gi_wp2_with (first
        | (refine ⟨trivial, ?_⟩; gi_at_call 16; (with_reducible refine (callsIn_wide.2 (arm1 _ H4)).mono ?_); rintro e w5 ⟨rfl, H5⟩; clear z0 z1 z2 z3; obtain ⟨z0, z1, z2, z3⟩ := hu _ H5)
        | (refine ⟨trivial, ?_⟩; gi_at_call 13; (with_reducible refine (callsIn_wide.2 (cl1 _ H5)).mono ?_); rintro e w7 ⟨rfl, rfl⟩)
        | (refine ⟨trivial, ?_⟩; gi_at_call 13; (with_reducible refine (callsIn_wide.2 (cl2 _ H5)).mono ?_); rintro e w7 ⟨rfl, rfl⟩)
        | (refine ⟨trivial, ?_⟩))
      gi_meet
      exact ⟨rfl, H5⟩
  case rest =>
    obtain ⟨rfl, Hd⟩ := hcut
    rename World => V
    have hzV := Hd.world.size
    have Ts2 := Hd.tells2 hl3
    have Ts1 := Hd.tells1 hl3
    clear H4 H hC hu cl1 cl2 z0 z1 z2 z3
    gi_wp2_with (refine ⟨trivial, ?_⟩; gi_at_call 14; (with_reducible refine (callsIn_wide.2 (Ts2.each V (Below.refl _ _))).mono ?_); rintro e w7 ⟨b, rfl, hb7, hbb, hbx, hseq⟩)
    have hz7 := hb7.size
    have hbl := hbx.lt
    have hsq := (hseq 13 V.heap.size (by omega) (Nat.le_refl _) (by omega)).toC
    clear hseq
    refine loopC (by omega) (gf := 32) (lb := #[.pointer (Option.some ⟨b, 0, none⟩)]) rfl (enters_of Tryd.func32 (by kernel_rfl) rfl) (n₀ := V.heap.size) (by omega) hsq (fun _ => rfl)
      (fun pre X => Box X b #[.pointer (some ⟨C, 0, none⟩)] 23 ∧ Below V.heap.size V X) (fun _ _ _ => False)
      (fun _ X Y row hI hg hr => ⟨hI.1.turn hg hr hbl, below_turn hI.2 hg hr (by omega)⟩) (fun c _ _ _ _ h => h.elim) (fun _ _ h => h.1) ⟨hbx, hb7⟩
      (fun z a' X => a' = { tmps := #[Value.slice a n c, Value.agg (acV x), undef, Value.pointer (some { block := w.heap.size, off := 0 }), Value.pointer (some { block := w.heap.size + 1, off := 0 }), Value.pointer (some { block := Tp, off := 0 }), Value.pointer (some { block := C, off := 0 }), eI z.id, eU z.v, undef, undef, undef, undef, undef, undef, Value.bool true, Value.bool false, Value.slice a n c, Value.pointer (some { block := B, off := 0 }), Value.pointer (some { block := B, off := 0 }), Value.bool false, Value.pointer (some { block := B, off := 0 }), Value.pointer (some { block := C, off := 0 }), Value.pointer (some { block := C, off := 0 }), Value.bool false, u25, u26, u27, u28, u29, u30, u31, u32, u33, u34, u35, u36, u37, u38, u39, u40, u41, u42, u43, u44, Value.bool false, Value.pointer (some { block := C, off := 0 }), Value.func (Fn.func 32) #[] #[Value.pointer (some { block := b, off := 0 })], eI z.id, eU z.v, u50, u51, u52, u53, u54, u55, u56, u57, u58, u59, u60, u61, u62, u63, u64, u65, u66, u67, u68, u69, u70, u71, u72, u73, u74, u75, u76, u77, u78, u79, u80, u81, u82, u83, u84, u85, u86, u87, u88, u89, u90, u91, u92, u93, u94, u95, u96, u97, u98, u99, u100, u101, u102, u103, u104, u105], defers := [] })
      (fun x a' _ X Y row hs hg hr => hs)
      ?assign ?body ?done ?stop
    case assign =>
      rintro l0 pre z X K hzX hI hK
      simp only [imE]
      gi_wp2
      exact hK _ _ (Mid.refl _ _ X) hI rfl
    case stop =>
      rintro D c pre X hD _ h hK
      exact h.elim
    case body =>
      rintro l0 pre z a' X hzX ⟨h1, h2⟩ rfl hpx
      obtain ⟨hk, hz⟩ := pre_at hpx
      have hat := getI_at hg (List.getElem?_eq_getElem hk)
      have hzi := (hg.each _ (List.getElem_mem hk)).1
      rw [hz] at hat hzi
      have cG := Ts1.get z.id X (by show _ ≤ _ ∧ _ < _; omega) h2
      rw [hat.1, hat.2] at cG
      have c1 := (Hd.box.below h2).cell 0
      have e1 : (z.v != z.v) = false := by simp
      have e2 : ((Option.some z.v).getD 0) = z.v := rfl
      rw [e2] at cG
      clear hat hzi hz e2
      gi_wp2_with (refine ⟨trivial, ?_⟩; gi_at_call 15; (with_reducible refine (CallsIn.inRound l0 (callsIn_wide.2 cG)).mono ?_); rintro e w8 ⟨rfl, hb8⟩)
      exact ⟨Mid.of_below hb8 h2.size, h1.below hb8, upp h2 hb8⟩
    case done =>
      rintro D0 ys X hD rfl ⟨h1, h2⟩ hKd
      have c1 := (Hd.box.below h2).cell 0
      have cI := Ts1.ids X h2
      gi_wp2_with (refine ⟨trivial, ?_⟩; gi_at_call 24; (with_reducible refine (callsIn_wide.2 cI).mono ?_); rintro e w9 ⟨iv, rfl, hIds, hb9⟩)
      obtain ⟨ai, ci, rfl, hci, hcm⟩ := own_len hIds
      have hgh := Lib.hid hg
      have G0 := Hd.gn (upp h2 hb9) hIds h2.size ((hb9.block D0 (Array.getElem?_eq_some_iff.1 hKd).1).trans hKd) (by omega)
      have hz4 := h2.size
      generalize X.heap.size = base at *
      clear hIds hb9 cI c1 h1 h2 hKd hg Ts1 Ts2 hbx hb7 hsq Hd
      have hq : ∀ W K, Gn w2 W B K C ys Tp base (.slice ai ys.length ci) ys.length (ys.map fun z => eI z.id) D0 → W.cell? ⟨Tp, 0, none⟩ = some (.pointer (some ⟨B, 0, none⟩)) := fun W K G => G.duo.box.cell 0
      gi_loopw [12] (fun s12 wr => ∃ k : Nat, s12 = .int .i64 k ∧ k ≤ ys.length ∧ Gn w2 wr B (ys.drop k) C ys Tp base (.slice ai ys.length ci) ys.length (ys.map fun z => eI z.id) D0) (fun s12 _ => ys.length - (intOf s12).toNat)
      case atStart => exact ⟨0, rfl, by omega, G0⟩
      case round =>
        clear G0
        obtain ⟨k, rfl, hk, G0⟩ := hrel
        by_cases hlt : k < ys.length
        · have i1 : (k : Int) < (ys.length : Int) := by omega
          have i2 : (0 : Int) ≤ (k : Int) := by omega
          have i3 : (ys.length : Int) ≤ (ci : Int) := by omega
          obtain ⟨h, cap2, cur2, e, _⟩ := own_some G0.row (by omega)
          cases e
          have hY : ∀ W K, Gn w2 W B K C ys Tp base (.slice (some ⟨h, 0, none⟩) ys.length ci) ys.length (ys.map fun z => eI z.id) D0 → W.cell? ⟨Tp, 0, none⟩ = some (.pointer (some ⟨B, 0, none⟩)) ∧ W.cell? ⟨h, k, none⟩ = some (eI ys[k].id) := fun W K G => ⟨hq W K G, by
            obtain ⟨h2, cap2, cur2, e, _, _, _, _, _, hc2⟩ := own_some G.row (by omega)
            cases e
            have y2 := hc2 k (eI ys[k].id) (by simp [List.getElem?_map, List.getElem?_eq_getElem hlt])
            rwa [add_plain, Nat.zero_add] at y2⟩
          obtain ⟨d1, d2, d3, d4⟩ := drop_next hgh.out hlt
          have hdl : (ys.drop k).length ≤ 1000 := by simp; omega
          have hdl2 : (ys.drop (k + 1)).length ≤ 1000 := by simp; omega
          have P1 : ∀ W, Gn w2 W B (ys.drop k) C ys Tp base (.slice (some ⟨h, 0, none⟩) ys.length ci) ys.length (ys.map fun z => eI z.id) D0 → Calls Tryd.prog 17 #[.pointer (some ⟨B, 0, none⟩), eI ys[k].id] W fun e w' => e = .returned (eI 0) ∧ Gn w2 w' B (ys.drop (k + 1)) C ys Tp base (.slice (some ⟨h, 0, none⟩) ys.length ci) ys.length (ys.map fun z => eI z.id) D0 := fun W G => gn_drop1 _ G hdl d1 d2
          have P2 : ∀ W, Gn w2 W B (ys.drop (k + 1)) C ys Tp base (.slice (some ⟨h, 0, none⟩) ys.length ci) ys.length (ys.map fun z => eI z.id) D0 → Calls Tryd.prog 17 #[.pointer (some ⟨B, 0, none⟩), eI ys[k].id] W fun e w' => e = .returned (eI 81) ∧ Gn w2 w' B (ys.drop (k + 1)) C ys Tp base (.slice (some ⟨h, 0, none⟩) ys.length ci) ys.length (ys.map fun z => eI z.id) D0 := fun W G => gn_drop1 _ G hdl2 d3 d4
          have hw1 : IntKind.i64.wrap ((k : Int) + 1) = (k : Int) + 1 := i64_id (by omega)
          clear d1 d2 d3 d4 hdl hdl2 hq
          generalize ys[k] = z at *
          gi_upto_region 21 with fail
          refine wpIn_wide.2 ?_
          have G0d := G0.drew
          have y0 := hY _ _ G0
          go_region_held3 (fun w' => w'.cell? ⟨Tp, 0, none⟩ = some (.pointer (some ⟨B, 0, none⟩)) ∧ w'.cell? ⟨h, k, none⟩ = some (eI z.id))
            (first | exact y0 | exact hY _ _ G5 | exact hY _ _ G6)
            (first | (go_at_call 17; (with_reducible refine (P1 _ G0).mono ?_); rintro e w5 ⟨rfl, G5⟩) | (go_at_call 17; (with_reducible refine (P1 _ G0d).mono ?_); rintro e w5 ⟨rfl, G5⟩) | (go_at_call 17; (with_reducible refine (P2 _ G5).mono ?_); rintro e w6 ⟨rfl, G6⟩) | (go_at_call 17; (with_reducible refine (P2 _ G5.drew).mono ?_); rintro e w6 ⟨rfl, G6⟩))
          gi_wp2
          exact ⟨⟨k + 1, rfl, by omega, G6⟩, by simp [intOf]; omega⟩
        · obtain rfl : k = ys.length := by omega
          have i1 : ¬ (ys.length : Int) < (ys.length : Int) := by omega
          rw [List.drop_length] at G0
          have y0 := hq _ _ G0
          have cN : Calls Tryd.prog 25 #[.pointer (some ⟨B, 0, none⟩), eI (-5)] wr fun e w' => e = .returned (.tuple #[eI 0, .bool false]) ∧ Below wr.heap.size wr w' := (G0.duo.tells1 (by decide)).next (-5) wr ⟨by decide, by decide⟩ (Below.refl _ _)
          have cl1 : ∀ W, Gn w2 W B [] C ys Tp base (.slice ai ys.length ci) ys.length (ys.map fun z => eI z.id) D0 → Calls Tryd.prog 13 #[.pointer (some ⟨B, 0, none⟩)] W fun e w' => e = .returned (eI 0) ∧ W = w' := fun W h => (h.duo.tells1 (by decide)).len W (Below.refl _ _)
          have cl2 : ∀ W, Gn w2 W B [] C ys Tp base (.slice ai ys.length ci) ys.length (ys.map fun z => eI z.id) D0 → Calls Tryd.prog 13 #[.pointer (some ⟨C, 0, none⟩)] W fun e w' => e = .returned (eI (ys.length : Int)) ∧ W = w' := fun W h => (h.duo.tells2 hl3).len W (Below.refl _ _)
          have e1 : ((ys.length : Int) == (ys.length : Int)) = true := by simp
          have hbr : ∀ W K, Gn w2 W B K C ys Tp base (.slice ai ys.length ci) ys.length (ys.map fun z => eI z.id) D0 → Box W (w.heap.size + 1) #[.bool false] 4 := fun W K G => br2.below G.duo.world
          have b0 := hbr _ _ G0
          have r0 := b0.thaw 0
          have r1 := b0.cell 0
          gi_wp2_with (first
            | (refine ⟨trivial, ?_⟩; gi_at_call 25; (with_reducible refine (callsIn_wide.2 cN).mono ?_); rintro e wa ⟨rfl, hba⟩; have G1 := G0.below hba; clear y0 b0 r0 r1; have y0 := hq _ _ G1; have b0 := hbr _ _ G1; have r0 := b0.thaw 0; have r1 := b0.cell 0)
            | (refine ⟨trivial, ?_⟩; gi_at_call 13; (with_reducible refine (callsIn_wide.2 (cl1 _ G1)).mono ?_); rintro e wb ⟨rfl, rfl⟩)
            | (refine ⟨trivial, ?_⟩; gi_at_call 13; (with_reducible refine (callsIn_wide.2 (cl2 _ G1)).mono ?_); rintro e wb ⟨rfl, rfl⟩))
          have qB : Box (wa.setCell ⟨w.heap.size + 1, 0, none⟩ (.bool true)) (w.heap.size + 1) #[.bool true] 4 := b0.set 0 (.bool true)
          have qT := (upp T2 G1.duo.world).setCell (p := ⟨w.heap.size + 1, 0, none⟩) (by simp) (.bool true)
          have nD : D0 ≠ w.heap.size + 1 := by omega
          have fd := (Below.heap_setCell wa ⟨w.heap.size + 1, 0, none⟩ (.bool true) D0 nD).trans G1.mark
          have fB : Box ((wa.setCell ⟨w.heap.size + 1, 0, none⟩ (.bool true)).putObj D0 (.deferred none)) (w.heap.size + 1) #[.bool true] 4 := (World.putObj_heap_other (by omega)).trans qB
          have fc := fB.cell 0
          have fb := qT.trans (belowK_b (w := w) (Nat.le_refl _) _ D0 _ (.deferred none) (by omega) fd rfl rfl)
          refine ⟨by simp, .inl ⟨_, _, rfl, run_takeDeferred fd, ?_⟩⟩
          exact ⟨.bool true, by simp [results, Tryd.results7, go_sem, fc], rfl, fb⟩
theorem gone_over (a : Option Addr) (n c : Nat) (x : Ac) (w : World) (ht : Tab w) (hn : 200 < n) :
    Calls Tryd.prog 7 #[.slice a n c, .agg (acV x)] w fun e w' => e = .returned (.bool true) ∧ Below w.heap.size w w' := by
  have br := Box.new (w.alloc (.cells (acV x) 31)) 4 #[.bool false]
  have T1 := up2 w (.cells (acV x) 31) (.cells #[.bool false] 4)
  simp only [World.size_alloc] at br
  obtain ⟨w1, hw1⟩ : ∃ X, (w.alloc (.cells (acV x) 31)).alloc (.cells #[.bool false] 4) = X := ⟨_, rfl⟩
  rw [hw1] at br T1
  have hAw := awake_any tbLaws w1 (ht.below T1)
  refine (callsIn_wide (n := 14)).1 ?_
  refine callsIn_of_wp_marks Tryd.func7 rfl trivial ?_ rfl
  simp only [Tryd.ntmps7, List.size_toArray, List.length_cons, List.length_nil, Nat.reduceAdd, Nat.reduceSub, Array.replicate_succ, Array.replicate_zero, List.push_toArray, List.append_toArray, List.nil_append, List.cons_append]
  gi_upto_region 5 with (first
    | (refine ⟨trivial, ?_⟩; gi_at_call 22; (with_reducible refine (callsIn_wide.2 hAw).mono ?_); rintro e w2 ⟨rfl, hb2⟩)
    | (refine ⟨trivial, ?_⟩; gi_at_call 23; (with_reducible refine (callsIn_wide.2 (acted_over tbLaws a n c w2 ((ht.below T1).below hb2) hn)).mono ?_); rintro e w3 ⟨rfl, hb3⟩))
  have b4 := ((br.below hb2).below hb3).alloc (.cells #[.pointer none] 23)
  have T3 := ups (ups T1 hb2 T1.size) hb3 (by have := T1.size; have := hb2.size; omega)
  have T4 := ups T3 (up1 w3 (.cells #[.pointer none] 23)) T3.size
  obtain ⟨w4, hw4⟩ : ∃ X, w3.alloc (.cells #[.pointer none] 23) = X := ⟨_, rfl⟩
  rw [hw4] at b4 T4
  simp only [hw4]
  have r0 := b4.thaw 0
  have r1 := b4.cell 0
  have qB : Box (w4.setCell ⟨w.heap.size + 1, 0, none⟩ (.bool true)) (w.heap.size + 1) #[.bool true] 4 := b4.set 0 (.bool true)
  have qT := T4.setCell (p := ⟨w.heap.size + 1, 0, none⟩) (by simp) (.bool true)
  have fc := qB.cell 0
  gi_wp2
  exact ⟨.bool true, by simp [results, Tryd.results7, go_sem, fc], rfl, qT⟩
theorem TableGone_walk (a : Option Addr) (n c : Nat) (xs : Nat → Ac) (x : Ac) (w : World) (ht : Tab w) (hI : IsRow acC 4 w a n c xs) (hw : ∀ i, (xs i).ok) (hx : x.ok) :
    Calls Tryd.prog 7 #[.slice a n c, .agg (acV x)] w fun e w' => e = .returned (.bool true) ∧ Below w.heap.size w w' := by
  rcases Nat.lt_or_ge 200 n with h | h
  · exact gone_over a n c x w ht h
  · exact gone_ok a n c xs x w ht h hI hw hx
end Go.Proofs.YtenghpgnhmglpaaDoor
