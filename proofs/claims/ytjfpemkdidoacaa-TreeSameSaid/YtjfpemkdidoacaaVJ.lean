/- In whatever order the same is put, the tree holds the same, and what is put and dropped again leaves it: the walk of the statement. No condition but words. -/
import Derived.Test.YtjfpemkdidoacaaVI
import Derived.Deep.RegionHeld3
namespace Go.Proofs.Ytjfpemkdidoacaa
open Go.RowKit Go.Shelf
set_option linter.unusedVariables false
set_option linter.unusedSimpArgs false
attribute [local go_sem] Oper.semAt_some
set_option maxRecDepth 100000 in
set_option maxHeartbeats 12000000 in
theorem same_over (a : Option Addr) (n c : Nat) (x : Ac) (q : Int) (w : World) (hn : 100 < n) (hnm : n ≤ maxLen) :
    Calls Try.prog 9 #[.slice a n c, .agg #[eU x.k.1, eI x.k.2, eU x.v, .bool x.d], eU q] w fun e w' => e = .returned (.bool true) ∧ Below w.heap.size w w' := by
  have b2 := Box.new (w.alloc (.cells #[eU x.k.1, eI x.k.2, eU x.v, .bool x.d] 34)) 4 #[.bool false]
  simp only [World.size_alloc] at b2
  have T := up2 w (.cells #[eU x.k.1, eI x.k.2, eU x.v, .bool x.d] 34) (.cells #[.bool false] 4)
  obtain ⟨W0, hW0⟩ : ∃ W0, (w.alloc (.cells #[eU x.k.1, eI x.k.2, eU x.v, .bool x.d] 34)).alloc (.cells #[.bool false] 4) = W0 := ⟨_, rfl⟩
  rw [hW0] at b2 T
  have g1 : (100 : Int) < (n : Int) := by omega
  have f2 := b2.thaw 0
  have c2 := b2.cell 0
  refine (callsIn_wide (n := 12)).1 ?_
  refine callsIn_of_wp_marks Try.func9 rfl trivial ?_ rfl
  simp only [Try.ntmps9, List.size_toArray, List.length_cons, List.length_nil, Nat.reduceAdd, Nat.reduceSub, Array.replicate_succ, Array.replicate_zero, List.push_toArray, List.append_toArray, List.nil_append, List.cons_append]
  gi_wp2_with (first
    | (refine ⟨trivial, ?_⟩; gi_at_call 34; (with_reducible refine (callsIn_wide.2 (awake_any _)).mono ?_); rintro e w1 ⟨rfl, hb⟩; (try rw [hW0] at hb); replace T := upp T hb; replace b2 := b2.below hb; clear hb; clear f2 c2; have f2 := b2.thaw 0; have c2 := b2.cell 0))
  have c9 := (b2.set 0 (.bool true)).cell 0
  refine ⟨.bool true, by simp [results, Try.results9, go_sem, c9], rfl, T.setCell (p := ⟨w.heap.size + 1, 0, none⟩) (by simp) _⟩
set_option maxRecDepth 100000 in
set_option maxHeartbeats 12000000 in
theorem same_ok (a : Option Addr) (n c : Nat) (xs : Nat → Ac) (x : Ac) (q : Int) (w : World) (hn : n ≤ 100) (hI : IsAcs w a n c xs) (hw : ∀ i, (xs i).word) (hx : x.word) :
    Calls Try.prog 9 #[.slice a n c, .agg #[eU x.k.1, eI x.k.2, eU x.v, .bool x.d], eU q] w fun e w' => e = .returned (.bool true) ∧ Below w.heap.size w w' := by
  have hcell : ∀ (k : Nat) w', k < n → Below w.heap.size w w' → ∃ b o, a = some ⟨b, o, none⟩ ∧ b < w.heap.size ∧ AcC w' b (o + k * 4) (xs k) := fun k w' hk T => by
    obtain ⟨h2, h3⟩ := hI
    rcases h3 with h3 | ⟨b, o, e, h3⟩
    · omega
    · exact ⟨b, o, e, h3.1, (h3.below T).2 k hk⟩
  have hcl := Lib.hid hcell
  replace hw := Lib.hid hw
  have hnc : (n : Int) ≤ (c : Int) := by have := hI.1; omega
  clear hI hcell
  have b1 := (Box.new w 34 #[eU x.k.1, eI x.k.2, eU x.v, .bool x.d]).alloc (.cells #[.bool false] 4)
  have b2 := Box.new (w.alloc (.cells #[eU x.k.1, eI x.k.2, eU x.v, .bool x.d] 34)) 4 #[.bool false]
  simp only [World.size_alloc] at b2
  have T := up2 w (.cells #[eU x.k.1, eI x.k.2, eU x.v, .bool x.d] 34) (.cells #[.bool false] 4)
  have hsz : ((w.alloc (.cells #[eU x.k.1, eI x.k.2, eU x.v, .bool x.d] 34)).alloc (.cells #[.bool false] 4)).heap.size = w.heap.size + 2 := by simp
  obtain ⟨W0, hW0⟩ : ∃ W0, (w.alloc (.cells #[eU x.k.1, eI x.k.2, eU x.v, .bool x.d] 34)).alloc (.cells #[.bool false] 4) = W0 := ⟨_, rfl⟩
  rw [hW0] at b1 b2 T hsz
  have TW : Below W0.heap.size W0 W0 := Below.refl _ _
  have g1 : ¬ (100 : Int) < (n : Int) := by omega
  refine (callsIn_wide (n := 12)).1 ?_
  refine callsIn_of_wp_marks Try.func9 rfl trivial ?_ rfl
  simp only [Try.ntmps9, List.size_toArray, List.length_cons, List.length_nil, Nat.reduceAdd, Nat.reduceSub, Array.replicate_succ, Array.replicate_zero, List.push_toArray, List.append_toArray, List.nil_append, List.cons_append]
  gi_wp2_with (first
    | (refine ⟨trivial, ?_⟩; gi_at_call 34; (with_reducible refine (callsIn_wide.2 (awake_any _)).mono ?_); rintro e w1 ⟨rfl, hb⟩; (try rw [hW0] at hb); replace TW := upp TW hb; clear hb)
    | (refine ⟨trivial, ?_⟩; gi_at_call 10; (with_reducible refine (callsIn_wide.2 (ob_new w1)).mono ?_); rintro e w2 ⟨B, rfl, hB, hO, hb⟩; have hBs := Nat.le_trans TW.size hB; replace TW := upp TW hb; clear hb hB)
    | (refine ⟨trivial, ?_⟩; gi_at_call 10; (with_reducible refine (callsIn_wide.2 (ob_new w2)).mono ?_); rintro e w3 ⟨D, rfl, hD, hP, hb⟩; have hDs := Nat.le_trans TW.size hD; have hBD : B ≠ D := (by have := hO.lt; omega); replace TW := upp TW hb; replace hO := hO.below hb; clear hb hD))
  have hT : TT W0 (w3.alloc (.cells #[.pointer (some ⟨D, 0, none⟩)] 23)) B D w3.heap.size [] [] :=
    ⟨⟨hO.below (up1 _ _), hP.below (up1 _ _), hBD⟩, ⟨hBs, hDs, TW.size⟩, Box.new _ _ _, upp TW (up1 _ _)⟩
  clear hO hP hBD hBs hDs TW hW0
  obtain ⟨C, hC⟩ : ∃ z, w3.heap.size = z := ⟨_, rfl⟩
  rw [hC] at hT
  obtain ⟨w4, hw4⟩ : ∃ z, w3.alloc (.cells #[.pointer (some ⟨D, 0, none⟩)] 23) = z := ⟨_, rfl⟩
  rw [hw4] at hT
  first
    | simp only [hw4, hC]
    | simp only [hC]
  clear hw4 hC
  gi_loopw [9] (fun s9 wr => ∃ i : Nat, s9 = .int .i64 i ∧ i ≤ n ∧ TT W0 wr B D C (putN (fun j => (xs j).k) i) (putN (fun j => (xs (n - 1 - j)).k) i)) (fun s9 _ => n - (intOf s9).toNat)
  case atStart => exact ⟨0, rfl, by omega, hT⟩
  case round =>
    clear hT
    obtain ⟨i, rfl, hi, H⟩ := hrel
    by_cases hlt : i < n
    · have i1 : (i : Int) < (n : Int) := by omega
      have i2 : (0 : Int) ≤ (i : Int) := by omega
      obtain ⟨b, o, rfl, hbw, x0, x1, _, _⟩ := hcl.out i wr hlt (upp T H.world)
      obtain ⟨k, hk⟩ : ∃ z, (xs i).k = z := ⟨_, rfl⟩
      obtain ⟨L, hL⟩ : ∃ z, putN (fun j => (xs j).k) i = z := ⟨_, rfl⟩
      obtain ⟨M, hM⟩ : ∃ z, putN (fun j => (xs (n - 1 - j)).k) i = z := ⟨_, rfl⟩
      have hL0 : L.length ≤ 100 := by rw [← hL]; exact Nat.le_trans (putN_len _ i) (by omega)
      have hM0 : M.length ≤ 100 := by rw [← hM]; exact Nat.le_trans (putN_len _ i) (by omega)
      have hs1 : putN (fun j => (xs j).k) (i + 1) = putL (kv k) L := by rw [← hk, ← hL]; rfl
      have hs2 : putN (fun j => (xs (n - 1 - j)).k) (i + 1) = putL (kv (xs (n - 1 - i)).k) M := by rw [← hM]; rfl
      rw [hL, hM] at H
      have hwk : Word k.1 ∧ Inte k.2 ∧ Word (kvV k) := by rw [← hk]; exact ⟨(hw.out i).1, (hw.out i).2.1, kvV_word _⟩
      rw [hk] at x0 x1
      replace hs1 := Lib.hid hs1
      replace hs2 := Lib.hid hs2
      clear hk hL hM
      have hput : ∀ W', TT W0 W' B D C L M → Calls Try.prog 13 #[.pointer (some ⟨B, 0, none⟩), ky k, eU (IntKind.u64.wrap (IntKind.u64.wrap k.2 + k.1))] W' fun e w' => ∃ z : Int, e = .returned (eI z) ∧ TT W0 w' B D C (putL (kv k) L) M := fun W' h =>
        (tt_put1 (kv k) hwk (by omega) h).mono fun e w' ⟨h1, h2⟩ => ⟨_, h1, h2⟩
      have hp1 := hput _ (H.below (Below.refl _ wr).drew)
      gi_upto_region 11 with (fail)
      refine wpIn_wide.2 ?_
      go_still_tail 20, (by kernel_rfl)
      change wpList _ _ _ _ _ wr.drew
      clear hput x0 x1 H
      generalize wr.drew = w6 at *
      obtain ⟨p, hp⟩ : ∃ p, i + p + 1 = n := ⟨n - 1 - i, by omega⟩
      obtain ⟨n1, hn1⟩ : ∃ n1, n1 + 1 = n := ⟨n - 1, by omega⟩
      have z1 : IntKind.i64.wrap ((n : Int) - 1) = (n1 : Int) := by
        have : (n : Int) - 1 = (n1 : Int) := by omega
        rw [this]; simp [IntKind.wrap, IntKind.bits, IntKind.signed]; omega
      have z2 : IntKind.i64.wrap ((n1 : Int) - (i : Int)) = (p : Int) := by
        have : (n1 : Int) - (i : Int) = (p : Int) := by omega
        rw [this]; simp [IntKind.wrap, IntKind.bits, IntKind.signed]; omega
      have z3 : (p : Int) < (n : Int) := by omega
      have z4 : (0 : Int) ≤ (p : Int) := by omega
      have hpe : n - 1 - i = p := by omega
      rw [hpe] at hs2
      go_wp2_with (first | (go_at_call 13; (with_reducible refine hp1.mono ?_); rintro e w7 ⟨z7, rfl, H7⟩))
      clear hp1
      generalize hL1 : putL (kv k) L = L1 at *
      have hL10 : L1.length ≤ 101 := by rw [← hL1]; have := putL_len (x := kv k) (L := L); omega
      clear hL1
      obtain ⟨b', o', e, _, v0, v1, _, _⟩ := hcl.out p w7 (by omega) (upp T H7.world)
      cases e
      have hwp := hw.out p
      obtain ⟨y, hy⟩ : ∃ z, (xs p).k = z := ⟨_, rfl⟩
      rw [hy] at v0 v1 hs2
      have hwy : Word y.1 ∧ Inte y.2 ∧ Word (kvV y) := by rw [← hy]; exact ⟨hwp.1, hwp.2.1, kvV_word _⟩
      clear hy hwp
      have cC := (H7.below (up1 w7 (.cells #[eU y.1, eI y.2] 32))).cut
      obtain ⟨t0, t1⟩ := kyC (Box.new w7 32 #[eU y.1, eI y.2])
      have hp2 : Calls Try.prog 13 #[.pointer (some ⟨D, 0, none⟩), ky y, eU (IntKind.u64.wrap (IntKind.u64.wrap y.2 + y.1))] (w7.alloc (.cells #[eU y.1, eI y.2] 32)) fun e w' => ∃ z : Int, e = .returned (eI z) ∧ TT W0 w' B D C L1 (putL (kv y) M) :=
        (tt_put2 (kv y) hwy (by omega) (H7.below (up1 _ _))).mono fun e w' ⟨h1, h2⟩ => ⟨_, h1, h2⟩
      have hii : (((i + 1 : Nat)) : Int) = (i : Int) + 1 := by omega
      replace hp := Lib.hid hp
      replace hn1 := Lib.hid hn1
      replace hpe := Lib.hid hpe
      gi_wp2_with (first | (refine ⟨trivial, ?_⟩; gi_at_call 13; (with_reducible refine (callsIn_wide.2 hp2).mono ?_); rintro e w8 ⟨z8, rfl, H8⟩))
      refine ⟨⟨i + 1, by rw [hii], by omega, by rw [hs1.out, hs2.out]; exact H8⟩, by simp [intOf]; omega⟩
    · obtain rfl : i = n := by omega
      have i1 : ¬ (i : Int) < (i : Int) := by omega
      rw [putN_rev (fun j => (xs j).k)] at H
      obtain ⟨L, hL⟩ : ∃ z, putN (fun j => (xs j).k) i = z := ⟨_, rfl⟩
      have hL0 : L.length ≤ 100 := by rw [← hL]; exact Nat.le_trans (putN_len _ i) (by omega)
      rw [hL] at H
      clear hL hcl hw hlt
      have hr := H.1.1.rise
      obtain ⟨hb, hhb⟩ : ∃ z, has x.k L = z := ⟨_, rfl⟩
      obtain ⟨vb, hvb⟩ : ∃ z, valL x.k L = z := ⟨_, rfl⟩
      have hG : ∀ W', TT W0 W' B D C L L → Calls Try.prog 17 #[.pointer (some ⟨B, 0, none⟩), ky x.k] W' fun e w' => e = .returned (.tuple #[eU vb, .bool hb]) ∧ Below W'.heap.size W' w' := fun W' h => by rw [← hvb, ← hhb]; exact ob_get x.k h.1.1
      have hA : ∀ W' L1 L2, TT W0 W' B D C L1 L2 → Box W' w.heap.size #[eU x.k.1, eI x.k.2, eU x.v, .bool x.d] 34 := fun W' L1 L2 h => b1.below h.world
      have a0 := (hA _ _ _ H).cell 0
      have a1 := (hA _ _ _ H).cell 1
      have hG1 := hG _ H
      clear hG hvb
      gi_upto_region 15 with (first | (refine ⟨trivial, ?_⟩; gi_at_call 17; (with_reducible refine (callsIn_wide.2 hG1).mono ?_); rintro e w5 ⟨rfl, hb5⟩))
      replace H := H.below hb5
      clear hb5 hG1 a0 a1
      obtain ⟨m, hm⟩ : ∃ z : Int, (L.length : Int) = z := ⟨_, rfl⟩
      have e1 : (m == m) = true := by simp
      have e2 : (m != m) = false := by simp
      have e3 : ((0 : Int) != 0) = false := by simp
      have c27 : ∀ W', TT W0 W' B D C L L → Calls Try.prog 27 #[.pointer (some ⟨B, 0, none⟩)] W' fun e w' => e = .returned (eI m) ∧ W' = w' := fun W' h => by rw [← hm]; exact ob_len h.1.1
      have d27 : ∀ W', TT W0 W' B D C L L → Calls Try.prog 27 #[.pointer (some ⟨D, 0, none⟩)] W' fun e w' => e = .returned (eI m) ∧ W' = w' := fun W' h => by rw [← hm]; exact ob_len h.1.2.1
      have c29 : ∀ W', TT W0 W' B D C L L → Calls Try.prog 29 #[.pointer (some ⟨B, 0, none⟩), eqV] W' fun e w' => e = .returned (.bool true) ∧ Below W'.heap.size W' w' := fun W' h => ob_well (by omega) h.1.1
      have d29 : ∀ W', TT W0 W' B D C L L → Calls Try.prog 29 #[.pointer (some ⟨D, 0, none⟩), eqV] W' fun e w' => e = .returned (.bool true) ∧ Below W'.heap.size W' w' := fun W' h => ob_well (by omega) h.1.2.1
      have hS : ∀ W' L1 L2, TT W0 W' B D C L1 L2 → (W'.cell? ⟨w.heap.size, 0, none⟩ = some (.int .u64 x.k.1) ∧ W'.cell? ⟨w.heap.size, 1, none⟩ = some (.int .i64 x.k.2) ∧ W'.cell? ⟨w.heap.size, 2, none⟩ = some (.int .u64 x.v)) ∧ W'.cell? ⟨C, 0, none⟩ = some (.pointer (some ⟨D, 0, none⟩)) := fun W' L1 L2 h =>
        ⟨⟨(hA _ _ _ h).cell 0, (hA _ _ _ h).cell 1, (hA _ _ _ h).cell 2⟩, h.cut⟩
      clear hm
      gi_cut [120] from 86 (fun s120 wx => s120 = .bool false ∧ TT W0 wx B D C L L)
      case first =>
        cases hb with
        | false =>
          have hne := has_not hhb
          have hdi : del x.k (ins (x.k, x.v) L) = L := del_ins (x := (x.k, x.v)) hne
          have hhi : has x.k (ins (x.k, x.v) L) = true := has_iff.2 ⟨x.v, mem_ins.2 (.inl rfl)⟩
          have c13 : ∀ W', TT W0 W' B D C L L → Calls Try.prog 13 #[.pointer (some ⟨B, 0, none⟩), ky x.k, eU x.v] W' fun e w' => e = .returned (eI 0) ∧ TT W0 w' B D C (ins (x.k, x.v) L) L := fun W' h =>
            (tt_put1 (x.k, x.v) ⟨hx.1, hx.2.1, hx.2.2⟩ (by omega) h).mono fun e w' ⟨h1, h2⟩ => by
              unfold putL at h2
              rw [show has (x.k, x.v).1 L = false from hhb] at h1 h2
              exact ⟨h1, h2⟩
          have c14 : ∀ W', TT W0 W' B D C (ins (x.k, x.v) L) L → Calls Try.prog 14 #[.pointer (some ⟨B, 0, none⟩), ky x.k] W' fun e w' => e = .returned (eI 0) ∧ TT W0 w' B D C L L := fun W' h =>
            (tt_drop1 x.k (by rw [ins_len]; omega) h).mono fun e w' ⟨h1, h2⟩ => by
              rw [hdi] at h2
              rw [hhi] at h1
              exact ⟨h1, h2⟩
          clear hhb hne hdi hhi
          refine wpIn_wide.2 ?_
          go_region_held3 (fun W' => (W'.cell? ⟨w.heap.size, 0, none⟩ = some (.int .u64 x.k.1) ∧ W'.cell? ⟨w.heap.size, 1, none⟩ = some (.int .i64 x.k.2) ∧ W'.cell? ⟨w.heap.size, 2, none⟩ = some (.int .u64 x.v)) ∧ W'.cell? ⟨C, 0, none⟩ = some (.pointer (some ⟨D, 0, none⟩)))
            (first | exact hS _ _ _ H | exact hS _ _ _ (H.below ((Below.refl _ _).drew)) | exact hS _ _ _ (H.below (below_drewN (Below.refl _ _) _)))
            (first
              | (go_at_call 13; (with_reducible refine (c13 _ (by first | exact H | exact H.below ((Below.refl _ _).drew) | exact H.below (below_drewN (Below.refl _ _) _))).mono ?_); rintro e w9 ⟨rfl, H'⟩; replace H := H')
              | (go_at_call 14; (with_reducible refine (c14 _ (by first | exact H | exact H.below ((Below.refl _ _).drew) | exact H.below (below_drewN (Below.refl _ _) _))).mono ?_); rintro e w9 ⟨rfl, H'⟩; replace H := H')
              | (go_at_call 27; (with_reducible refine (c27 _ (by first | exact H | exact H.below ((Below.refl _ _).drew) | exact H.below (below_drewN (Below.refl _ _) _))).mono ?_); rintro e w9 ⟨rfl, rfl⟩)
              | (go_at_call 27; (with_reducible refine (d27 _ (by first | exact H | exact H.below ((Below.refl _ _).drew) | exact H.below (below_drewN (Below.refl _ _) _))).mono ?_); rintro e w9 ⟨rfl, rfl⟩)
              | (go_at_call 29; (with_reducible refine (c29 _ (by first | exact H | exact H.below ((Below.refl _ _).drew) | exact H.below (below_drewN (Below.refl _ _) _))).mono ?_); rintro e w9 ⟨rfl, hb9⟩; replace H := (show TT W0 _ B D C L L from (by first | exact H | exact H.below ((Below.refl _ _).drew) | exact H.below (below_drewN (Below.refl _ _) _))).below hb9; clear hb9)
              | (go_at_call 29; (with_reducible refine (d29 _ (by first | exact H | exact H.below ((Below.refl _ _).drew) | exact H.below (below_drewN (Below.refl _ _) _))).mono ?_); rintro e w9 ⟨rfl, hb9⟩; replace H := (show TT W0 _ B D C L L from (by first | exact H | exact H.below ((Below.refl _ _).drew) | exact H.below (below_drewN (Below.refl _ _) _))).below hb9; clear hb9))
          all_goals gi_wp2
          all_goals gi_meet
          all_goals first
            | exact ⟨rfl, H⟩
            | exact ⟨rfl, H.below ((Below.refl _ _).drew)⟩
            | exact ⟨rfl, H.below (below_drewN (Below.refl _ _) _)⟩
        | true =>
          clear hhb
          refine wpIn_wide.2 ?_
          refine wp_region_noPanic ?_
          refine wp_region_held_drew (S := (fun W' => (W'.cell? ⟨w.heap.size, 0, none⟩ = some (.int .u64 x.k.1) ∧ W'.cell? ⟨w.heap.size, 1, none⟩ = some (.int .i64 x.k.2) ∧ W'.cell? ⟨w.heap.size, 2, none⟩ = some (.int .u64 x.v)) ∧ W'.cell? ⟨C, 0, none⟩ = some (.pointer (some ⟨D, 0, none⟩)))) (by kernel_rfl) (by exact hS _ _ _ (H.below ((Below.refl _ _).drew))) (fun hHeld => ?_)
          refine wpAnyH_take (i := 0) (v := ?_) (by simp only [List.getElem?_toArray, List.getElem?_cons_zero]; rfl) (by kernel_rfl) (by kernel_rfl) (by kernel_rfl) (by exact fun _ _ _ h => h) (Or.inl ⟨by rfl, ?_⟩) (by assumption) ?_
          rotate_left
          · (intro w hSw; (try dsimp only at hSw); go_simp; (try with_reducible rfl))
          try simp only [Act.put, List.setIfInBounds_toArray, List.set_cons_zero, List.set_cons_succ]
          refine wpAnyH_take (i := 1) (v := ?_) (by simp only [List.getElem?_toArray, List.getElem?_cons_zero, List.getElem?_cons_succ]; rfl) (by kernel_rfl) (by kernel_rfl) (by kernel_rfl) (by exact fun _ _ _ h => h) (Or.inl ⟨by rfl, ?_⟩) (by assumption) ?_
          rotate_left
          · (intro w hSw; (try dsimp only at hSw); go_simp; (try with_reducible rfl))
          try simp only [Act.put, List.setIfInBounds_toArray, List.set_cons_zero, List.set_cons_succ]
          refine wpAnyH_take (i := 2) (v := ?_) (by simp only [List.getElem?_toArray, List.getElem?_cons_zero, List.getElem?_cons_succ]; rfl) (by kernel_rfl) (by kernel_rfl) (by kernel_rfl) (by exact fun _ _ _ h => h) (Or.inl ⟨by rfl, ?_⟩) (by assumption) ?_
          rotate_left
          · (intro w hSw; (try dsimp only at hSw); go_simp; (try with_reducible rfl))
          try simp only [Act.put, List.setIfInBounds_toArray, List.set_cons_zero, List.set_cons_succ]
          refine wpAnyH_take (i := 3) (v := undef) (by simp only [List.getElem?_toArray, List.getElem?_cons_zero, List.getElem?_cons_succ]; rfl) (by kernel_rfl) (by kernel_rfl) (by kernel_rfl) (by exact fun _ _ _ h => h) (Or.inr ⟨by rfl, rfl⟩) (by assumption) ?_
          try simp only [Act.put, List.setIfInBounds_toArray, List.set_cons_zero, List.set_cons_succ]
          refine wpAnyH_take (i := 4) (v := undef) (by simp only [List.getElem?_toArray, List.getElem?_cons_zero, List.getElem?_cons_succ]; rfl) (by kernel_rfl) (by kernel_rfl) (by kernel_rfl) (by exact fun _ _ _ h => h) (Or.inr ⟨by rfl, rfl⟩) (by assumption) ?_
          try simp only [Act.put, List.setIfInBounds_toArray, List.set_cons_zero, List.set_cons_succ]
          refine wpAnyH_take (i := 5) (v := undef) (by simp only [List.getElem?_toArray, List.getElem?_cons_zero, List.getElem?_cons_succ]; rfl) (by kernel_rfl) (by kernel_rfl) (by kernel_rfl) (by exact fun _ _ _ h => h) (Or.inr ⟨by rfl, rfl⟩) (by assumption) ?_
          try simp only [Act.put, List.setIfInBounds_toArray, List.set_cons_zero, List.set_cons_succ]
          refine wpAnyH_take (i := 6) (v := undef) (by simp only [List.getElem?_toArray, List.getElem?_cons_zero, List.getElem?_cons_succ]; rfl) (by kernel_rfl) (by kernel_rfl) (by kernel_rfl) (by exact fun _ _ _ h => h) (Or.inr ⟨by rfl, rfl⟩) (by assumption) ?_
          try simp only [Act.put, List.setIfInBounds_toArray, List.set_cons_zero, List.set_cons_succ]
          refine wpAnyH_take (i := 7) (v := undef) (by simp only [List.getElem?_toArray, List.getElem?_cons_zero, List.getElem?_cons_succ]; rfl) (by kernel_rfl) (by kernel_rfl) (by kernel_rfl) (by exact fun _ _ _ h => h) (Or.inr ⟨by rfl, rfl⟩) (by assumption) ?_
          try simp only [Act.put, List.setIfInBounds_toArray, List.set_cons_zero, List.set_cons_succ]
          refine wpAnyH_take (i := 8) (v := undef) (by simp only [List.getElem?_toArray, List.getElem?_cons_zero, List.getElem?_cons_succ]; rfl) (by kernel_rfl) (by kernel_rfl) (by kernel_rfl) (by exact fun _ _ _ h => h) (Or.inr ⟨by rfl, rfl⟩) (by assumption) ?_
          try simp only [Act.put, List.setIfInBounds_toArray, List.set_cons_zero, List.set_cons_succ]
          refine wpAnyH_take (i := 9) (v := undef) (by simp only [List.getElem?_toArray, List.getElem?_cons_zero, List.getElem?_cons_succ]; rfl) (by kernel_rfl) (by kernel_rfl) (by kernel_rfl) (by exact fun _ _ _ h => h) (Or.inr ⟨by rfl, rfl⟩) (by assumption) ?_
          try simp only [Act.put, List.setIfInBounds_toArray, List.set_cons_zero, List.set_cons_succ]
          refine wpAnyH_take (i := 10) (v := undef) (by simp only [List.getElem?_toArray, List.getElem?_cons_zero, List.getElem?_cons_succ]; rfl) (by kernel_rfl) (by kernel_rfl) (by kernel_rfl) (by exact fun _ _ _ h => h) (Or.inr ⟨by rfl, rfl⟩) (by assumption) ?_
          try simp only [Act.put, List.setIfInBounds_toArray, List.set_cons_zero, List.set_cons_succ]
          refine wpAnyH_take (i := 11) (v := undef) (by simp only [List.getElem?_toArray, List.getElem?_cons_zero, List.getElem?_cons_succ]; rfl) (by kernel_rfl) (by kernel_rfl) (by kernel_rfl) (by exact fun _ _ _ h => h) (Or.inr ⟨by rfl, rfl⟩) (by assumption) ?_
          try simp only [Act.put, List.setIfInBounds_toArray, List.set_cons_zero, List.set_cons_succ]
          refine wpAnyH_take (i := 12) (v := undef) (by simp only [List.getElem?_toArray, List.getElem?_cons_zero, List.getElem?_cons_succ]; rfl) (by kernel_rfl) (by kernel_rfl) (by kernel_rfl) (by exact fun _ _ _ h => h) (Or.inr ⟨by rfl, rfl⟩) (by assumption) ?_
          try simp only [Act.put, List.setIfInBounds_toArray, List.set_cons_zero, List.set_cons_succ]
          refine wpAnyH_take (i := 13) (v := undef) (by simp only [List.getElem?_toArray, List.getElem?_cons_zero, List.getElem?_cons_succ]; rfl) (by kernel_rfl) (by kernel_rfl) (by kernel_rfl) (by exact fun _ _ _ h => h) (Or.inr ⟨by rfl, rfl⟩) (by assumption) ?_
          try simp only [Act.put, List.setIfInBounds_toArray, List.set_cons_zero, List.set_cons_succ]
          refine wpAnyH_take (i := 14) (v := undef) (by simp only [List.getElem?_toArray, List.getElem?_cons_zero, List.getElem?_cons_succ]; rfl) (by kernel_rfl) (by kernel_rfl) (by kernel_rfl) (by exact fun _ _ _ h => h) (Or.inr ⟨by rfl, rfl⟩) (by assumption) ?_
          try simp only [Act.put, List.setIfInBounds_toArray, List.set_cons_zero, List.set_cons_succ]
          refine wpAnyH_take (i := 15) (v := undef) (by simp only [List.getElem?_toArray, List.getElem?_cons_zero, List.getElem?_cons_succ]; rfl) (by kernel_rfl) (by kernel_rfl) (by kernel_rfl) (by exact fun _ _ _ h => h) (Or.inr ⟨by rfl, rfl⟩) (by assumption) ?_
          try simp only [Act.put, List.setIfInBounds_toArray, List.set_cons_zero, List.set_cons_succ]
          refine wpAnyH_take (i := 16) (v := undef) (by simp only [List.getElem?_toArray, List.getElem?_cons_zero, List.getElem?_cons_succ]; rfl) (by kernel_rfl) (by kernel_rfl) (by kernel_rfl) (by exact fun _ _ _ h => h) (Or.inr ⟨by rfl, rfl⟩) (by assumption) ?_
          try simp only [Act.put, List.setIfInBounds_toArray, List.set_cons_zero, List.set_cons_succ]
          refine wpAnyH_take (i := 17) (v := ?_) (by simp only [List.getElem?_toArray, List.getElem?_cons_zero, List.getElem?_cons_succ]; rfl) (by kernel_rfl) (by kernel_rfl) (by kernel_rfl) (by exact fun _ _ _ h => h) (Or.inl ⟨by rfl, ?_⟩) (by assumption) ?_
          rotate_left
          · (intro w hSw; (try dsimp only at hSw); go_simp; (try with_reducible rfl))
          try simp only [Act.put, List.setIfInBounds_toArray, List.set_cons_zero, List.set_cons_succ]
          refine wpAnyH_take (i := 18) (v := ?_) (by simp only [List.getElem?_toArray, List.getElem?_cons_zero, List.getElem?_cons_succ]; rfl) (by kernel_rfl) (by kernel_rfl) (by kernel_rfl) (by exact fun _ _ _ h => h) (Or.inl ⟨by rfl, ?_⟩) (by assumption) ?_
          rotate_left
          · (intro w hSw; (try dsimp only at hSw); go_simp; (try with_reducible rfl))
          try simp only [Act.put, List.setIfInBounds_toArray, List.set_cons_zero, List.set_cons_succ]
          refine wpAnyH_take (i := 19) (v := ?_) (by simp only [List.getElem?_toArray, List.getElem?_cons_zero, List.getElem?_cons_succ]; rfl) (by kernel_rfl) (by kernel_rfl) (by kernel_rfl) (by exact fun _ _ _ h => h) (Or.inl ⟨by rfl, ?_⟩) (by assumption) ?_
          rotate_left
          · (intro w hSw; (try dsimp only at hSw); go_simp; (try with_reducible rfl))
          try simp only [Act.put, List.setIfInBounds_toArray, List.set_cons_zero, List.set_cons_succ]
          refine wpAnyH_take (i := 21) (v := ?_) (by simp only [List.getElem?_toArray, List.getElem?_cons_zero, List.getElem?_cons_succ]; rfl) (by kernel_rfl) (by kernel_rfl) (by kernel_rfl) (by exact fun _ _ _ h => h) (Or.inl ⟨by rfl, ?_⟩) (by assumption) ?_
          rotate_left
          · (intro w hSw; (try dsimp only at hSw); go_simp; (try with_reducible rfl))
          try simp only [Act.put, List.setIfInBounds_toArray, List.set_cons_zero, List.set_cons_succ]
          refine wpAnyH_ready (rs := [20]) (by kernel_rfl) (by simp) ?_
          refine AllReadyH.cons (by simp only [List.getElem?_toArray, List.getElem?_cons_zero, List.getElem?_cons_succ]; rfl) (fun K hK => ?_) AllReadyH.nil
          first | (go_at_call 27; (with_reducible refine (c27 _ (by first | exact H | exact H.below ((Below.refl _ _).drew) | exact H.below (below_drewN (Below.refl _ _) _))).mono ?_); rintro e w9 ⟨rfl, rfl⟩) | (go_simp; go_at_call 27; (with_reducible refine (c27 _ (by first | exact H | exact H.below ((Below.refl _ _).drew) | exact H.below (below_drewN (Below.refl _ _) _))).mono ?_); rintro e w9 ⟨rfl, rfl⟩)
          refine hK.out _ _ (by (first | exact hS _ _ _ H | exact hS _ _ _ (H.below ((Below.refl _ _).drew)) | exact hS _ _ _ (H.below (below_drewN (Below.refl _ _) _)))) (fun hHeld => ?_)
          clear hK K
          try simp only [Act.put, List.setIfInBounds_toArray, List.set_cons_zero, List.set_cons_succ]
          refine wpAnyH_ready (rs := [22]) (by kernel_rfl) (by simp) ?_
          refine AllReadyH.cons (by simp only [List.getElem?_toArray, List.getElem?_cons_zero, List.getElem?_cons_succ]; rfl) (fun K hK => ?_) AllReadyH.nil
          first | (go_at_call 27; (with_reducible refine (d27 _ (by first | exact H | exact H.below ((Below.refl _ _).drew) | exact H.below (below_drewN (Below.refl _ _) _))).mono ?_); rintro e w9 ⟨rfl, rfl⟩) | (go_simp; go_at_call 27; (with_reducible refine (d27 _ (by first | exact H | exact H.below ((Below.refl _ _).drew) | exact H.below (below_drewN (Below.refl _ _) _))).mono ?_); rintro e w9 ⟨rfl, rfl⟩)
          refine hK.out _ _ (by (first | exact hS _ _ _ H | exact hS _ _ _ (H.below ((Below.refl _ _).drew)) | exact hS _ _ _ (H.below (below_drewN (Below.refl _ _) _)))) (fun hHeld => ?_)
          clear hK K
          try simp only [Act.put, List.setIfInBounds_toArray, List.set_cons_zero, List.set_cons_succ]
          refine wpAnyH_take (i := 23) (v := ?_) (by simp only [List.getElem?_toArray, List.getElem?_cons_zero, List.getElem?_cons_succ]; rfl) (by kernel_rfl) (by kernel_rfl) (by kernel_rfl) (by exact fun _ _ _ h => h) (Or.inl ⟨by rfl, ?_⟩) (by assumption) ?_
          rotate_left
          · (intro w hSw; (try dsimp only at hSw); go_simp; (try with_reducible rfl))
          try simp only [Act.put, List.setIfInBounds_toArray, List.set_cons_zero, List.set_cons_succ]
          refine wpAnyH_take (i := 24) (v := ?_) (by simp only [List.getElem?_toArray, List.getElem?_cons_zero, List.getElem?_cons_succ]; rfl) (by kernel_rfl) (by kernel_rfl) (by kernel_rfl) (by exact fun _ _ _ h => h) (Or.inl ⟨by rfl, ?_⟩) (by assumption) ?_
          rotate_left
          · (intro w hSw; (try dsimp only at hSw); go_simp; (try with_reducible rfl))
          try simp only [Act.put, List.setIfInBounds_toArray, List.set_cons_zero, List.set_cons_succ]
          refine wpAnyH_take (i := 25) (v := ?_) (by simp only [List.getElem?_toArray, List.getElem?_cons_zero, List.getElem?_cons_succ]; rfl) (by kernel_rfl) (by kernel_rfl) (by kernel_rfl) (by exact fun _ _ _ h => h) (Or.inl ⟨by rfl, ?_⟩) (by assumption) ?_
          rotate_left
          · (intro w hSw; (try dsimp only at hSw); go_simp; (try with_reducible rfl))
          try simp only [Act.put, List.setIfInBounds_toArray, List.set_cons_zero, List.set_cons_succ]
          refine wpAnyH_take (i := 26) (v := ?_) (by simp only [List.getElem?_toArray, List.getElem?_cons_zero, List.getElem?_cons_succ]; rfl) (by kernel_rfl) (by kernel_rfl) (by kernel_rfl) (by exact fun _ _ _ h => h) (Or.inl ⟨by rfl, ?_⟩) (by assumption) ?_
          rotate_left
          · (intro w hSw; (try dsimp only at hSw); go_simp; (try with_reducible rfl))
          try simp only [Act.put, List.setIfInBounds_toArray, List.set_cons_zero, List.set_cons_succ]
          refine wpAnyH_ready (rs := [27]) (by kernel_rfl) (by simp) ?_
          refine AllReadyH.cons (by simp only [List.getElem?_toArray, List.getElem?_cons_zero, List.getElem?_cons_succ]; rfl) (fun K hK => ?_) AllReadyH.nil
          first | (go_at_call 29; (with_reducible refine (c29 _ (by first | exact H | exact H.below ((Below.refl _ _).drew) | exact H.below (below_drewN (Below.refl _ _) _))).mono ?_); rintro e w9 ⟨rfl, hb9⟩; replace H := (show TT W0 _ B D C L L from (by first | exact H | exact H.below ((Below.refl _ _).drew) | exact H.below (below_drewN (Below.refl _ _) _))).below hb9; clear hb9) | (go_simp; go_at_call 29; (with_reducible refine (c29 _ (by first | exact H | exact H.below ((Below.refl _ _).drew) | exact H.below (below_drewN (Below.refl _ _) _))).mono ?_); rintro e w9 ⟨rfl, hb9⟩; replace H := (show TT W0 _ B D C L L from (by first | exact H | exact H.below ((Below.refl _ _).drew) | exact H.below (below_drewN (Below.refl _ _) _))).below hb9; clear hb9)
          refine hK.out _ _ (by (first | exact hS _ _ _ H | exact hS _ _ _ (H.below ((Below.refl _ _).drew)) | exact hS _ _ _ (H.below (below_drewN (Below.refl _ _) _)))) (fun hHeld => ?_)
          clear hK K
          try simp only [Act.put, List.setIfInBounds_toArray, List.set_cons_zero, List.set_cons_succ]
          refine wpAnyH_take (i := 28) (v := ?_) (by simp only [List.getElem?_toArray, List.getElem?_cons_zero, List.getElem?_cons_succ]; rfl) (by kernel_rfl) (by kernel_rfl) (by kernel_rfl) (by exact fun _ _ _ h => h) (Or.inl ⟨by rfl, ?_⟩) (by assumption) ?_
          rotate_left
          · (intro w hSw; (try dsimp only at hSw); go_simp; (try with_reducible rfl))
          try simp only [Act.put, List.setIfInBounds_toArray, List.set_cons_zero, List.set_cons_succ]
          refine wpAnyH_take (i := 29) (v := ?_) (by simp only [List.getElem?_toArray, List.getElem?_cons_zero, List.getElem?_cons_succ]; rfl) (by kernel_rfl) (by kernel_rfl) (by kernel_rfl) (by exact fun _ _ _ h => h) (Or.inl ⟨by rfl, ?_⟩) (by assumption) ?_
          rotate_left
          · (intro w hSw; (try dsimp only at hSw); go_simp; (try with_reducible rfl))
          try simp only [Act.put, List.setIfInBounds_toArray, List.set_cons_zero, List.set_cons_succ]
          refine wpAnyH_take (i := 30) (v := ?_) (by simp only [List.getElem?_toArray, List.getElem?_cons_zero, List.getElem?_cons_succ]; rfl) (by kernel_rfl) (by kernel_rfl) (by kernel_rfl) (by exact fun _ _ _ h => h) (Or.inl ⟨by rfl, ?_⟩) (by assumption) ?_
          rotate_left
          · (intro w hSw; (try dsimp only at hSw); go_simp; (try with_reducible rfl))
          try simp only [Act.put, List.setIfInBounds_toArray, List.set_cons_zero, List.set_cons_succ]
          refine wpAnyH_take (i := 31) (v := ?_) (by simp only [List.getElem?_toArray, List.getElem?_cons_zero, List.getElem?_cons_succ]; rfl) (by kernel_rfl) (by kernel_rfl) (by kernel_rfl) (by exact fun _ _ _ h => h) (Or.inl ⟨by rfl, ?_⟩) (by assumption) ?_
          rotate_left
          · (intro w hSw; (try dsimp only at hSw); go_simp; (try with_reducible rfl))
          try simp only [Act.put, List.setIfInBounds_toArray, List.set_cons_zero, List.set_cons_succ]
          refine wpAnyH_ready (rs := [32]) (by kernel_rfl) (by simp) ?_
          refine AllReadyH.cons (by simp only [List.getElem?_toArray, List.getElem?_cons_zero, List.getElem?_cons_succ]; rfl) (fun K hK => ?_) AllReadyH.nil
          first | (go_at_call 29; (with_reducible refine (d29 _ (by first | exact H | exact H.below ((Below.refl _ _).drew) | exact H.below (below_drewN (Below.refl _ _) _))).mono ?_); rintro e w9 ⟨rfl, hb9⟩; replace H := (show TT W0 _ B D C L L from (by first | exact H | exact H.below ((Below.refl _ _).drew) | exact H.below (below_drewN (Below.refl _ _) _))).below hb9; clear hb9) | (go_simp; go_at_call 29; (with_reducible refine (d29 _ (by first | exact H | exact H.below ((Below.refl _ _).drew) | exact H.below (below_drewN (Below.refl _ _) _))).mono ?_); rintro e w9 ⟨rfl, hb9⟩; replace H := (show TT W0 _ B D C L L from (by first | exact H | exact H.below ((Below.refl _ _).drew) | exact H.below (below_drewN (Below.refl _ _) _))).below hb9; clear hb9)
          refine hK.out _ _ (by (first | exact hS _ _ _ H | exact hS _ _ _ (H.below ((Below.refl _ _).drew)) | exact hS _ _ _ (H.below (below_drewN (Below.refl _ _) _)))) (fun hHeld => ?_)
          clear hK K
          try simp only [Act.put, List.setIfInBounds_toArray, List.set_cons_zero, List.set_cons_succ]
          refine wpAnyH_take (i := 33) (v := ?_) (by simp only [List.getElem?_toArray, List.getElem?_cons_zero, List.getElem?_cons_succ]; rfl) (by kernel_rfl) (by kernel_rfl) (by kernel_rfl) (by exact fun _ _ _ h => h) (Or.inl ⟨by rfl, ?_⟩) (by assumption) ?_
          rotate_left
          · (intro w hSw; (try dsimp only at hSw); go_simp; (try with_reducible rfl))
          try simp only [Act.put, List.setIfInBounds_toArray, List.set_cons_zero, List.set_cons_succ]
          refine wpAnyH_take (i := 34) (v := ?_) (by simp only [List.getElem?_toArray, List.getElem?_cons_zero, List.getElem?_cons_succ]; rfl) (by kernel_rfl) (by kernel_rfl) (by kernel_rfl) (by exact fun _ _ _ h => h) (Or.inl ⟨by rfl, ?_⟩) (by assumption) ?_
          rotate_left
          · (intro w hSw; (try dsimp only at hSw); go_simp; (try with_reducible rfl))
          try simp only [Act.put, List.setIfInBounds_toArray, List.set_cons_zero, List.set_cons_succ]
          refine wpAnyH_done (by kernel_rfl) ?_ _
          refine NoPanic.normal ?_
          gi_wp2
          gi_meet
          first
            | exact ⟨rfl, H⟩
            | exact ⟨rfl, H.below ((Below.refl _ _).drew)⟩
            | exact ⟨rfl, H.below (below_drewN (Below.refl _ _) _)⟩
      case rest =>
        clear H hS c27 d27 c29 d29 hhb
        obtain ⟨rfl, H⟩ := hcut
        rename World => V
        gi_wp2_with (first | (refine ⟨trivial, ?_⟩; gi_at_call 26; (with_reducible refine (callsIn_wide.2 (eachT_any _ _)).mono ?_); rintro e w6 ⟨rfl, rfl⟩))
        have k7 := Box.new V 23 #[.pointer (some ⟨B, 0, none⟩)]
        have TV := up1 V (.cells #[.pointer (some ⟨B, 0, none⟩)] 23)
        have hsV : (V.alloc (.cells #[.pointer (some ⟨B, 0, none⟩)] 23)).heap.size = V.heap.size + 1 := by simp
        obtain ⟨V1, hV1⟩ : ∃ z, V.alloc (.cells #[.pointer (some ⟨B, 0, none⟩)] 23) = z := ⟨_, rfl⟩
        rw [hV1] at k7 TV hsV ⊢
        clear hV1
        have hws := H.world.size
        have hBV := H.1.1.lt
        have hseq := ob_each 11 V.heap.size V.heap.size V1 (by omega) (by omega) (Nat.le_refl _) H.1.1 TV k7
        refine loopC (by omega) (gf := 52) (lb := #[.pointer (some ⟨V.heap.size, 0, none⟩)]) rfl (enters_of Try.func52 (by kernel_rfl) rfl) (n₀ := V.heap.size) (by omega) hseq (fun _ => rfl)
          (fun pre W => Below V.heap.size V W) (fun _ _ _ => False) (fun _ X Y row hI hg hr => below_turn hI hg hr (by omega)) (fun c _ _ _ _ h => h.elim) TV
          (fun z a' W => ∃ Bx, V.heap.size + 1 ≤ Bx ∧ Box W Bx #[eU z.1.1, eI z.1.2] 32 ∧ a' = { tmps := #[.slice a i c, .agg #[eU x.k.1, eI x.k.2, eU x.v, .bool x.d], eU q, undef, .pointer (some ⟨w.heap.size, 0, none⟩), undef, .pointer (some ⟨w.heap.size + 1, 0, none⟩), .pointer (some ⟨B, 0, none⟩), .pointer (some ⟨C, 0, none⟩), eI (i : Int), u10, eU vb, .bool hb, .pointer (some ⟨Bx, 0, none⟩), eU z.2, undef, undef, undef, undef, undef, undef, .bool true, .bool false, .slice a i c, eI (i : Int), .bool (decide ((100 : Int) < (i : Int))), .pointer (some ⟨B, 0, none⟩), .pointer (some ⟨D, 0, none⟩), .pointer (some ⟨B, 0, none⟩), .bool false, .bool false, .pointer (some ⟨D, 0, none⟩), .bool false, .bool false, eI (i : Int), .slice a i c, eI (i : Int), .bool false, u38, u39, u40, u41, u42, u43, u44, u45, u46, u47, u48, u49, u50, u51, u52, u53, u54, u55, u56, u57, u58, u59, u60, u61, u62, u63, u64, u65, u66, u67, u68, u69, u70, u71, u72, u73, u74, u75, u76, u77, u78, .tuple #[eU vb, .bool hb], .pointer (some ⟨B, 0, none⟩), .pointer (some ⟨w.heap.size, 0, none⟩), .agg #[eU x.k.1, eI x.k.2], .tuple #[eU vb, .bool hb], eU vb, .bool hb, u86, u87, u88, u89, u90, u91, u92, u93, u94, u95, u96, u97, u98, u99, u100, u101, u102, u103, u104, u105, u106, u107, u108, u109, u110, u111, u112, u113, u114, u115, u116, u117, u118, u119, .bool false, .pointer (some ⟨B, 0, none⟩), .func (.func 52) #[] #[.pointer (some ⟨V.heap.size, 0, none⟩)], ky z.1, eU z.2, u125, u126, u127, u128, u129, u130, u131, u132, u133, u134, u135, u136, u137, u138, u139, u140, u141, u142, u143, u144, u145, u146, u147, u148, u149, u150, u151, u152, u153, u154, u155, u156, u157], defers := [] })
          (fun x a' _ X Y row hs hg hr => by obtain ⟨Bx, h1, h2, h3⟩ := hs; exact ⟨Bx, h1, box_own Bx 32 _ () X Y row h2 hg (fun r e => (hr r e).2), h3⟩)
          ?assign ?body ?done ?stop
        case assign =>
          rintro l0 pre z W K hzW hI hK
          gi_wp2
          exact hK _ _ (Mid.alloc W hI.size _) (hI.alloc hI.size _) ⟨W.heap.size, by omega, Box.new W 32 _, rfl⟩
        case stop =>
          rintro D c pre W hD _ h hK
          exact h.elim
        case body =>
          rintro l0 pre z a' W hzW hI ⟨Bx, hBx, bX, rfl⟩ hpx
          have hm : z ∈ L := by obtain ⟨s, hs⟩ := hpx; rw [← hs]; simp
          obtain ⟨hv, hh⟩ := mem_valS hr hm
          have hTW := H.below hI
          have cC := hTW.cut
          obtain ⟨x0, x1⟩ := kyC bX
          have hGt : Calls Try.prog 17 #[.pointer (some ⟨D, 0, none⟩), ky z.1] W fun e w' => e = .returned (.tuple #[eU z.2, .bool true]) ∧ Below W.heap.size W w' := by
            have := ob_get z.1 hTW.1.2.1
            rw [hv, hh] at this
            exact this
          have e5 : (z.2 != z.2) = false := by simp
          clear hv hh hm hpx
          dsimp only
          gi_wp2_with (first | (refine ⟨trivial, ?_⟩; gi_at_call 17; (with_reducible refine (CallsIn.inRound l0 (callsIn_wide.2 hGt)).mono ?_); rintro e w7 ⟨rfl, hb⟩))
          exact ⟨Mid.of_below hb hI.size, upp hI hb⟩
        case done =>
          rintro D0 ys W hD rfl hI hK
          clear hseq k7 TV
          replace H := H.below hI
          obtain ⟨lo, hlo⟩ : ∃ z, low (upto q ys) = z := ⟨_, rfl⟩
          obtain ⟨ls, hls⟩ : ∃ z, decide (upto q ys ≠ []) = z := ⟨_, rfl⟩
          have c19 : ∀ W', TT W0 W' B D C ys ys → Calls Try.prog 19 #[.pointer (some ⟨B, 0, none⟩), eU q] W' fun e w' => e = .returned (.tuple #[eU lo, .bool ls]) ∧ Below W'.heap.size W' w' := fun W' h => by rw [← hlo, ← hls]; exact ob_upto q h.1.1
          have d19 : ∀ W', TT W0 W' B D C ys ys → Calls Try.prog 19 #[.pointer (some ⟨D, 0, none⟩), eU q] W' fun e w' => e = .returned (.tuple #[eU lo, .bool ls]) ∧ Below W'.heap.size W' w' := fun W' h => by rw [← hlo, ← hls]; exact ob_upto q h.1.2.1
          have s1 : (lo == lo) = true := by simp
          have s2 : (ls == ls) = true := by simp
          clear hlo hls
          gi_wp2_with (first
            | (refine ⟨trivial, ?_⟩; gi_at_call 19; (with_reducible refine (callsIn_wide.2 (c19 _ H)).mono ?_); rintro e w7 ⟨rfl, hb⟩; replace hK := (hb.block D0 (Array.getElem?_eq_some_iff.1 hK).1).trans hK; replace H := H.below hb; clear hb; have cC := H.cut)
            | (refine ⟨trivial, ?_⟩; gi_at_call 19; (with_reducible refine (callsIn_wide.2 (d19 _ H)).mono ?_); rintro e w8 ⟨rfl, hb⟩; replace hK := (hb.block D0 (Array.getElem?_eq_some_iff.1 hK).1).trans hK; replace H := H.below hb; clear hb; have r0 := (b2.below H.world).cell 0; have r1 := (b2.below H.world).thaw 0))
          have qB := (b2.below H.world).set 0 (.bool true)
          have qT := (upp T H.world).setCell (p := ⟨w.heap.size + 1, 0, none⟩) (by simp) (.bool true)
          have nD : D0 ≠ w.heap.size + 1 := by omega
          have fd := (Below.heap_setCell w8 ⟨w.heap.size + 1, 0, none⟩ (.bool true) D0 nD).trans hK
          have fB : Box ((w8.setCell ⟨w.heap.size + 1, 0, none⟩ (.bool true)).putObj D0 (.deferred none)) (w.heap.size + 1) #[.bool true] 4 := (World.putObj_heap_other (by omega)).trans qB
          have fc := fB.cell 0
          refine ⟨by simp, .inl ⟨_, _, rfl, run_takeDeferred fd, ?_⟩⟩
          exact ⟨.bool true, by simp [results, Try.results9, go_sem, fc], rfl, qT.trans (belowK_b (w := w) (Nat.le_refl _) _ D0 _ _ (by omega) fd rfl rfl)⟩
theorem TreeSame_walk (a : Option Addr) (n c : Nat) (xs : Nat → Ac) (x : Ac) (q : Int) (w : World) (hI : IsAcs w a n c xs) (hw : ∀ i, (xs i).word) (hcm : c ≤ maxLen) (hnn : a = none → n = 0 ∧ c = 0) (hx : x.word) (hq : Word q) :
    Calls Try.prog 9 #[.slice a n c, .agg #[eU x.k.1, eI x.k.2, eU x.v, .bool x.d], eU q] w fun e w' => e = .returned (.bool true) ∧ Below w.heap.size w w' := by
  by_cases hn : n ≤ 100
  · exact same_ok a n c xs x q w hn hI hw hx
  · exact same_over a n c x q w (by omega) (Nat.le_trans hI.1 hcm)
end Go.Proofs.Ytjfpemkdidoacaa
