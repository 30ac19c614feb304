/- Whether one curve is below another one: the walk over the corners. -/
import Derived.Test.YtpopcnebndgblaaGreatBlP
import Derived.Deep.RegionHeld3
namespace Go.Proofs.YtpopcnebndgblaaGreat
open Go.RowKit Go.Shelf W
set_option linter.unusedVariables false
theorem two_row (w : World) (f l r f' l' r' : Int) : CvRow (w.alloc (.cells #[eU f, eU l, eU r, eU f', eU l', eU r'] 32)) w.heap.size 0 [⟨f, l, r⟩, ⟨f', l', r'⟩] := by
  have hb : (w.alloc (.cells #[eU f, eU l, eU r, eU f', eU l', eU r'] 32)).heap[w.heap.size]? = some (.cells #[eU f, eU l, eU r, eU f', eU l', eU r'] 32 (0, 0)) := World.alloc_heap_new w _
  have hz : w.heap.size < (w.alloc (.cells #[eU f, eU l, eU r, eU f', eU l', eU r'] 32)).heap.size := by simp
  generalize w.alloc (.cells #[eU f, eU l, eU r, eU f', eU l', eU r'] 32) = X at *
  have hc : ∀ j, X.cell? ⟨w.heap.size, j, none⟩ = (#[eU f, eU l, eU r, eU f', eU l', eU r'] : Array Value)[j]? := fun j => by simp [World.cell?, hb]
  refine ⟨hz, fun i hi => ?_⟩
  have : i = 0 ∨ i = 1 := by simp at hi; omega
  rcases this with rfl | rfl
  · rw [hc, hc, hc]; simp
  · rw [hc, hc, hc]; simp
set_option maxRecDepth 100000 in
set_option maxHeartbeats 4000000 in
theorem blP_yes (f l r f' l' r' : Int) (cs : List Int) (A B : Int → Int) (bb : Bool) (w : World) (hrr : r ≤ r') (hpos : 0 < cs.length) (hlen : cs.length ≤ 1000)
    (hM : ∀ w, Calls Tryz.prog 74 #[.agg #[eU f, eU l, eU r]] w fun e w' => e = .returned (.bool true) ∧ Below w.heap.size w w')
    (hN : ∀ w, Calls Tryz.prog 74 #[.agg #[eU f', eU l', eU r']] w fun e w' => e = .returned (.bool true) ∧ Below w.heap.size w w')
    (hC : ∀ (blk : Nat) (X : World), CvRow X blk 0 [⟨f, l, r⟩, ⟨f', l', r'⟩] → Calls Tryz.prog 95 #[.slice (some ⟨blk, 0, none⟩) 2 2] X fun e w' => ∃ v, e = .returned v ∧ w'.ownsRow X.heap.size 30 1 v cs.length (cs.map eU) ∧ Below X.heap.size X w')
    (hA : ∀ i, i < cs.length → ∀ w, Calls Tryz.prog 96 #[.agg #[eU f, eU l, eU r], eU (cs.getD i 0)] w fun e w' => e = .returned (eU (A (cs.getD i 0))) ∧ Below w.heap.size w w')
    (hB : ∀ i, i < cs.length → ∀ w, Calls Tryz.prog 96 #[.agg #[eU f', eU l', eU r'], eU (cs.getD i 0)] w fun e w' => e = .returned (eU (B (cs.getD i 0))) ∧ Below w.heap.size w w')
    (hT : Hid ((∀ i, i < cs.length → A (cs.getD i 0) ≤ B (cs.getD i 0)) → bb = true)) (hF : Hid (∀ i, i < cs.length → B (cs.getD i 0) < A (cs.getD i 0) → bb = false)) :
    Calls Tryz.prog 77 #[.agg #[eU f, eU l, eU r], .agg #[eU f', eU l', eU r']] w fun e w' => e = .returned (.bool bb) ∧ Below w.heap.size w w' := by
  have BA := (Box.new w 32 #[eU f, eU l, eU r]).alloc (.cells #[eU f', eU l', eU r'] 32)
  have BB := Box.new (w.alloc (.cells #[eU f, eU l, eU r] 32)) 32 #[eU f', eU l', eU r']
  simp only [World.size_alloc] at BB
  have T := up2 w (.cells #[eU f, eU l, eU r] 32) (.cells #[eU f', eU l', eU r'] 32)
  have hA' := Lib.hid hA
  have hB' := Lib.hid hB
  clear hA hB
  have hr' : ¬ r' < r := by omega
  go_enter Tryz.func77, Tryz.ntmps77
  go_wp2_with (first
    | (go_at_call 74; (with_reducible refine (hM _).mono ?_); rintro e w1 ⟨rfl, hb⟩; replace T := up T hb (by simp; omega); replace BA := BA.below hb; replace BB := BB.below hb; obtain ⟨a0, a1, a2, a3⟩ := BA.tri; obtain ⟨b0, b1, b2, b3⟩ := BB.tri; clear hb hM)
    | (go_at_call 74; (with_reducible refine (hN _).mono ?_); rintro e w2 ⟨rfl, hb⟩; replace T := up T hb T.size; replace BA := BA.below hb; replace BB := BB.below hb; obtain ⟨a0, a1, a2, a3⟩ := BA.tri; obtain ⟨b0, b1, b2, b3⟩ := BB.tri; clear hb hN; have hR := two_row w2 f l r f' l' r')
    | (go_at_call 95; refine (hC _ _ hR).mono ?_; rintro e w3 ⟨v, rfl, hrow, hb⟩; replace T := up (T.alloc T.size _) hb (T.alloc T.size _).size; replace BA := (BA.alloc _).below hb; replace BB := (BB.alloc _).below hb; obtain ⟨g, cap, rfl, hcap, hgb, hgl⟩ := owns_some hrow hpos; clear hb hC a0 a1 a2 a3 b0 b1 b2 b3))
  generalize (w2.alloc (.cells #[eU f, eU l, eU r, eU f', eU l', eU r'] 32)).heap.size = base at *
  go_loopw [27] (fun s27 wr => ∃ i : Nat, i ≤ cs.length ∧ s27 = .int .i64 i ∧ (∀ j, j < i → A (cs.getD j 0) ≤ B (cs.getD j 0)) ∧ Box wr w.heap.size #[eU f, eU l, eU r] 32 ∧ Box wr (w.heap.size + 1) #[eU f', eU l', eU r'] 32 ∧ wr.ownsRow base 30 1 (.slice (some ⟨g, 0, none⟩) cs.length cap) cs.length (cs.map eU) ∧ Below w.heap.size w wr) (fun s27 _ => cs.length - (intOf s27).toNat)
  case atStart => exact ⟨0, by omega, rfl, fun j hj => by omega, BA, BB, hrow, T⟩
  case round =>
    clear BA BB T hrow hR
    obtain ⟨i, hil, rfl, hall, BA, BB, hrow, T⟩ := hrel
    by_cases hlt : i < cs.length
    · have i1 : (i : Int) < (cs.length : Int) := by omega
      have i2 : (0 : Int) ≤ (i : Int) := by omega
      have rowc := owns_cell hrow hlt
      have cA := hA'.out i hlt
      have cB := hB'.out i hlt
      have hFi := Lib.hid (hF.out i hlt)
      have hnx : A (cs.getD i 0) ≤ B (cs.getD i 0) → ∀ j, j < i + 1 → A (cs.getD j 0) ≤ B (cs.getD j 0) := fun h j hj => by
        by_cases e : j = i
        · subst e; exact h
        · exact hall j (by omega)
      have hnxh := Lib.hid hnx
      clear hnx hall
      generalize A (cs.getD i 0) = va at cA hFi hnxh
      generalize B (cs.getD i 0) = vb at cB hFi hnxh
      generalize cs.getD i 0 = kx at cA cB rowc
      obtain ⟨c0, c1, c2, c3⟩ := BA.tri
      obtain ⟨d0, d1, d2, d3⟩ := BB.tri
      have E := Below.refl wr.heap.size wr
      go_upto_region 6 with (fail)
      go_region_held3 (fun w' => (w'.cell? ⟨w.heap.size, 0, none⟩ = some (.int .u64 f) ∧ w'.cell? ⟨w.heap.size, 1, none⟩ = some (.int .u64 l) ∧ w'.cell? ⟨w.heap.size, 2, none⟩ = some (.int .u64 r)) ∧ (w'.cell? ⟨w.heap.size + 1, 0, none⟩ = some (.int .u64 f') ∧ w'.cell? ⟨w.heap.size + 1, 1, none⟩ = some (.int .u64 l') ∧ w'.cell? ⟨w.heap.size + 1, 2, none⟩ = some (.int .u64 r')))
        (first | exact ⟨⟨c1, c2, c3⟩, ⟨d1, d2, d3⟩⟩ | exact ⟨(BA.below E).tri.2, (BB.below E).tri.2⟩)
        (first
          | (go_at_call 96; (with_reducible refine (cA _).mono ?_); rintro e w4 ⟨rfl, hb⟩; (first | replace hb := undrew hb | replace hb := undrewN hb | skip); replace E := up E hb E.size; clear hb)
          | (go_at_call 96; (with_reducible refine (cB _).mono ?_); rintro e w5 ⟨rfl, hb⟩; (first | replace hb := undrew hb | replace hb := undrewN hb | skip); replace E := up E hb E.size; clear hb))
      all_goals
        have R1 := BA.below E
        have R2 := BB.below E
        have R3 := owns_below hrow E
        have R4 := up T E T.size
        rcases Int.lt_or_le vb va with hc | hc
        · have hbf := hFi.out hc
          subst hbf
          go_wp2_with fail
          (try simp only [Exit.inBlock, Exit.then])
          refine bodyPost_ret (results_tmp rfl _ _ _) rfl ?_
          exact ⟨rfl, R4⟩
        · have hn := hnxh.out hc
          have hc' : ¬ vb < va := by omega
          go_wp2_with fail
          go_roundw
          case rel => exact ⟨i + 1, by omega, by go_num, hn, R1, R2, R3, R4⟩
          case measure => simp [intOf]; omega
    · have hle : i = cs.length := by omega
      have i1 : ¬ (i : Int) < (cs.length : Int) := by omega
      have hbt := hT.out (fun j hj => hall j (by omega))
      subst hbt
      go_wp2
      go_ret
      exact ⟨rfl, T⟩
open Classical in
theorem belowP_any (m : Nat) (hsort : SortU m) (hm : 3 ≤ m) (f l r f' l' r' : Int) (w : World) (hf : Word f) (hl : Word l) (hr : Word r) (hf' : Word f') (hl' : Word l') (hr' : Word r') :
    Calls Tryz.prog 77 #[.agg #[eU f, eU l, eU r], .agg #[eU f', eU l', eU r']] w fun e w' => e = .returned (.bool (decide (isBelow ⟨f, l, r⟩ ⟨f', l', r'⟩))) ∧ Below w.heap.size w w' := by
  have hM := fun w => may_any f l r w hf hl hr
  have hN := fun w => may_any f' l' r' w hf' hl' hr'
  have wa : (⟨f, l, r⟩ : Cv).word := ⟨hf, hl, hr⟩
  have wb : (⟨f', l', r'⟩ : Cv).word := ⟨hf', hl', hr'⟩
  by_cases ha : mayB f l r = true
  · have ma : (⟨f, l, r⟩ : Cv).may := mayB_is.1 ha
    rw [ha] at hM
    by_cases hb : mayB f' l' r' = true
    · have mb : (⟨f', l', r'⟩ : Cv).may := mayB_is.1 hb
      rw [hb] at hN
      by_cases hrr : r ≤ r'
      · have hok := corF_ok (xs := [⟨f, l, r⟩, ⟨f', l', r'⟩]) (by intro c hc; simp at hc; rcases hc with rfl | rfl; exact wa; exact wb)
        have hcl := corF_length [⟨f, l, r⟩, ⟨f', l', r'⟩]
        have hwd : ∀ i, i < (corF [⟨f, l, r⟩, ⟨f', l', r'⟩]).length → (corF [⟨f, l, r⟩, ⟨f', l', r'⟩]).getD i 0 ∈ corF [⟨f, l, r⟩, ⟨f', l', r'⟩] := fun i hi => by simp only [List.getD, List.getElem?_eq_getElem hi]; exact List.getElem_mem hi
        have hww : ∀ t ∈ corF [⟨f, l, r⟩, ⟨f', l', r'⟩], Word t := fun t ht => by
          rcases (hok.2.1 t).1 ht with rfl | ⟨c, hc, _, _, rfl⟩
          · exact w0
          · simp at hc; rcases hc with rfl | rfl; exact hl; exact hl'
        have hC : ∀ (blk : Nat) (X : World), CvRow X blk 0 [⟨f, l, r⟩, ⟨f', l', r'⟩] → Calls Tryz.prog 95 #[.slice (some ⟨blk, 0, none⟩) 2 2] X fun e w' => ∃ v, e = .returned v ∧ w'.ownsRow X.heap.size 30 1 v (corF [⟨f, l, r⟩, ⟨f', l', r'⟩]).length ((corF [⟨f, l, r⟩, ⟨f', l', r'⟩]).map eU) ∧ Below X.heap.size X w' := fun blk X hX => by
          have := corners_of m hsort [⟨⟨f, l, r⟩, wa⟩, ⟨⟨f', l', r'⟩, wb⟩] (some ⟨blk, 0, none⟩) 2 2 X (by simp) (by simp; omega) ⟨by simp [unW], Nat.le_refl _, .inr ⟨blk, 0, rfl, hX⟩⟩
          exact this
        refine blP_yes f l r f' l' r' (corF [⟨f, l, r⟩, ⟨f', l', r'⟩]) (cAt f l r) (cAt f' l' r') _ w hrr (by omega) (by simp at hcl; omega) hM hN hC (fun i hi w => At_any f l r _ w hf hl hr (hww _ (hwd i hi))) (fun i hi w => At_any f' l' r' _ w hf' hl' hr' (hww _ (hwd i hi))) (Lib.hid fun hall => ?_) (Lib.hid fun i hi hlt => ?_)
        · refine decide_eq_true (below_yes ⟨wa, ma⟩ ⟨wb, mb⟩ hrr fun t ht => ?_)
          obtain ⟨i, hi, ei⟩ := List.getElem_of_mem ht
          have := hall i hi
          rw [show (corF [⟨f, l, r⟩, ⟨f', l', r'⟩]).getD i 0 = t by simp only [List.getD, List.getElem?_eq_getElem hi]; exact ei] at this
          exact this
        · exact decide_eq_false (below_no ⟨wa, ma⟩ ⟨wb, mb⟩ (hwd i hi) hlt)
      · rw [decide_eq_false (below_slopes ⟨wa, ma⟩ ⟨wb, mb⟩ (show r' < r by omega))]
        exact blP_no f l r f' l' r' w true hM (Lib.hid (.inr ⟨rfl, true, hN, .inr ⟨rfl, by omega⟩⟩))
    · have hb' : mayB f' l' r' = false := by simpa using hb
      rw [hb'] at hN
      rw [decide_eq_false (fun h => hb (mayB_is.2 h.2.1))]
      exact blP_no f l r f' l' r' w true hM (Lib.hid (.inr ⟨rfl, false, hN, .inl rfl⟩))
  · have ha' : mayB f l r = false := by simpa using ha
    rw [ha'] at hM
    rw [decide_eq_false (fun h => ha (mayB_is.2 h.1))]
    exact blP_no f l r f' l' r' w false hM (Lib.hid (.inl rfl))
end Go.Proofs.YtpopcnebndgblaaGreat
