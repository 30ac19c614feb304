/- The document's own Push of a packet that is taken, and its Pop. No condition but that the packet's numbers are what the fields can hold. -/
import Derived.Test.YtlfpaebfpmjclaaQS
namespace Go.Proofs.Ytlfpaebfpmjclaa
open Go.RowKit
set_option linter.unusedVariables false
theorem own_not {w : World} {base n : Nat} {v : Value} {xs : List Value} {B : Nat} {vs : Array Value} {t : TypeId} (h : w.ownsRow base 31 4 v n xs) (b : Box w B vs t) (ht : t ≠ 31) : v.ownBlock ≠ some B := by
  rcases h.2 with ⟨rfl, _⟩ | ⟨g, cap, cur, rfl, _, hg, _⟩
  · simp [Value.ownBlock]
  · intro e
    have e' : g = B := by simpa [Value.ownBlock] using e
    exact box_ne (show Box w g cur 31 from hg) b (fun h => ht h.symm) e'
/-- What the document's Push and Pop leave. -/
def Left (w W2 : World) (B : Nat) (P R : Int) (L : List Pk) (v : Value) : Prop :=
  (∃ v', Rf W2 B P R L v' ∧ ∀ g, v'.ownBlock = some g → v.ownBlock = some g ∨ w.heap.size ≤ g) ∧ Off (Own2 B v) w W2
theorem left_of {w W X w3 : World} {B g cap : Nat} {P R : Int} {L : List Pk} {p : Pk} {v : Value} (T : Below w.heap.size w W) (hX : Below W.heap.size W X) (hO : w3.ownsRow 0 31 4 (.slice (some ⟨g, 0, none⟩) (L.length + 1) cap) (L.length + 1) (rowV (L ++ [p]))) (hG : X.grownBy w3 v.ownBlock) (hat : v.ownBlock = some g ∨ g = X.heap.size)
    (bQ : Box w3 B #[eI P, eI R, v] 57) (hfit : Fit P R (L ++ [p])) (hbig : roomy P R) : Left w (w3.setCell ⟨B, 2, none⟩ (.slice (some ⟨g, 0, none⟩) (L.length + 1) cap)) B P R (L ++ [p]) v := by
  have hn := own_not hO bQ (by decide)
  have TX := ups T hX T.size
  have hO' : w3.ownsRow 0 31 4 (.slice (some ⟨g, 0, none⟩) (L.length + 1) cap) (L ++ [p]).length (rowV (L ++ [p])) := by rw [List.length_append]; exact hO
  refine ⟨⟨.slice (some ⟨g, 0, none⟩) (L.length + 1) cap, ⟨bQ.set 2 _, ownsRow_setCell_other hO' (a := ⟨B, 2, none⟩) hn _, hfit, hbig⟩, fun g' e => ?_⟩, ?_⟩
  · have e' : g = g' := by simpa [Value.ownBlock] using e
    subst e'
    exact hat.imp id (fun e => by have := TX.size; omega)
  · have O : Off (Own2 B v) w w3 := ⟨hG.os.trans TX.os, hG.tape.trans TX.tape, hG.output.trans TX.output, Nat.le_trans TX.size hG.size, fun k hk hn => (hG.block k (Nat.lt_of_lt_of_le hk TX.size) (fun e => hn (.inr e.symm))).trans (TX.block k hk)⟩
    exact O.set (.inl rfl) 2 _
section
variable {w w' : World} {B : Nat} {P R : Int} {L : List Pk} {v : Value}
set_option maxHeartbeats 4000000 in
set_option maxRecDepth 100000 in
theorem RPush_ok (p : Pk) (hok : p.ok) (h : Rf w B P R L v) (hp : ¬ (p.len < 1 ∨ 65535 < p.len)) (hF : ¬ (P ≤ (L.length : Int) ∨ R < bsum L + p.len)) : Calls Try.prog 16 #[.pointer (some ⟨B, 0, none⟩), pkV p] w fun e w' => e = .returned (eI 0) ∧ Left w w' B P R (L ++ [p]) v := by
  have T := up1 w (.cells (pkC p) 31)
  have bp := Box.new w 31 (pkC p)
  have H := h.below T
  have hM := fun w => RMay_any p 65535 w
  rw [mayN_ok (by omega) (by omega)] at hM
  have hBy : ∀ w', Below (w.alloc (.cells (pkC p) 31)).heap.size (w.alloc (.cells (pkC p) 31)) w' → Calls Try.prog 27 #[.pointer (some ⟨B, 0, none⟩)] w' fun e w2 => e = .returned (eI (bsum L)) ∧ w2 = w' := fun w' hb => (RBytes_any (H.below hb)).mono fun e w2 ⟨x, y⟩ => ⟨x, y.symm⟩
  have hfit : Fit P R (L ++ [p]) := by
    have e := h.fit.push hok
    rwa [pushL_ok (pushE_ok hp hF)] at e
  have hbig := h.big
  have hl5 : L.length ≤ 5000 := by have := h.small; omega
  have hBw := h.box.lt
  have hvw := h.row.lt
  have j1 : decide (P ≤ (L.length : Int)) = false := by simp; omega
  have f1 := h.fit.bytes
  have f2 := h.fit.room
  have f3 := h.big.2
  have j2 : IntKind.i64.wrap (bsum L + p.len) = bsum L + p.len := i64_id (by omega)
  have j4 : decide (R < bsum L + p.len) = false := by simp; omega
  clear hF hp h f1 f2 f3
  go_enter Try.func16, Try.ntmps16
  go_upto_region 3 with (go_at_call 31; (with_reducible refine (hM _).mono ?_); rintro e w2 ⟨rfl, hb⟩; have H2 := H.below hb; have bp2 := bp.below hb; have T2 := ups T hb T.size)
  obtain ⟨a, cap, rfl, hcap, _⟩ := own_len H2.row
  obtain ⟨c0, c1, c2⟩ := H2.cells
  obtain ⟨_, _, _, _, _, _, _, _⟩ := bp2.four
  go_quiet (first | (go_at_call 27; refine Calls.quiet_of_same (hBy _ (below_drewN hb _))))
  go_upto_region 5 with fail
  replace H2 := H2.below (below_drewN (Below.refl w2.heap.size w2) nq)
  replace bp2 := bp2.below (below_drewN (Below.refl w2.heap.size w2) nq)
  replace T2 := below_drewN T2 nq
  obtain ⟨W, hW⟩ : ∃ x, w2.drewN nq = x := ⟨_, rfl⟩
  rw [hW] at H2 bp2 T2 ⊢
  clear hW c0 c1 c2 hBy hM H bp hb T
  obtain ⟨c0, c1, c2⟩ := H2.cells
  obtain ⟨p0, p1, p2, p3, _, _, _, _⟩ := bp2.four
  have hvB : (Value.slice a L.length cap).ownBlock ≠ some B := own_not H2.row H2.box (by decide)
  have hNB : w.heap.size ≠ B := by omega
  have f2 := H2.box.thaw 2
  have ca : (W.alloc (.cells (pkC p) 31)).cell? ⟨B, 2, none⟩ = some (.slice a L.length cap) := (H2.box.alloc _).cell 2
  go_region_law (first
    | (refine step_push (by rfl) (.tmp 34) (.tmp 36) (by rfl) 0 (.slice a L.length cap) L.length L (by rfl) (own_below H2.row (by first | exact up1 W.drew _ | exact up1 W _ | exact (up1 W _).drew)) p _ _ (by rfl) (by first | exact Box.new _ _ _ | exact (Box.new W _ _).drew) hl5 (Nat.zero_le _) ?_; intro g cap2 w3 hO hG hat; have bQ3 := ((H2.box.below (by first | exact up1 W.drew _ | exact up1 W _ | exact (up1 W _).drew)).grown hG (fun e => hvB e.symm)); have c2' := bQ3.cell 2; have f2' := bQ3.thaw 2; have lt3 := bQ3.lt))
  all_goals go_wp2
  all_goals go_ret
  all_goals exact ⟨rfl, left_of T2 (by first | exact up1 W.drew _ | exact up1 W _ | exact (up1 W _).drew) hO hG hat bQ3 hfit hbig⟩
theorem RPop_none (h : Rf w B P R [] v) : Calls Try.prog 15 #[.pointer (some ⟨B, 0, none⟩)] w fun e w' => e = .returned (.tuple #[pkV Pk.zero, .bool false]) ∧ Below w.heap.size w w' := by
  have T := up1 w (.cells zA 31)
  have hH := RHead_none (h.below T)
  have z := Box.new w 31 zA
  clear h
  go_enter Try.func15, Try.ntmps15
  go_upto_region 2 with (go_at_call 25; (with_reducible refine hH.mono ?_); rintro e w1 ⟨rfl, hb⟩; have T1 := ups T hb T.size; have z1 := z.below hb)
  have T2 := T1.alloc T1.size (.cells (pkC Pk.zero) 31)
  have hlt := z1.lt
  have z2 : Box (w1.alloc (.cells (pkC Pk.zero) 31)) w.heap.size (pkC Pk.zero) 31 := z1.alloc (.cells (pkC Pk.zero) 31)
  have bp := Box.new w1 31 (pkC Pk.zero)
  obtain ⟨W2, hW2⟩ : ∃ x, w1.alloc (.cells (pkC Pk.zero) 31) = x := ⟨_, rfl⟩
  rw [hW2] at z2 T2 bp ⊢
  clear hW2
  obtain ⟨_, _, _, _, _, _, _, _⟩ := z2.four
  obtain ⟨_, _, _, _, _, _, _, _⟩ := bp.four
  obtain ⟨e0, e1, e2, e3, _, _, _, _⟩ := (z2.put (p := Pk.zero)).four
  go_wp2
  exact bodyPost_ret (v := .tuple #[pkV Pk.zero, .bool false]) (by simp only [Pk.zero] at e0 e1 e2 e3; simp [results, Try.results15, go_sem, Pk.zero, e0, e1, e2, e3]) rfl ⟨rfl, Below.put0 T2 (Nat.le_refl _) Pk.zero⟩
set_option maxHeartbeats 4000000 in
set_option maxRecDepth 100000 in
theorem RPop_some (p : Pk) (h : Rf w B P R (p :: L) v) : Calls Try.prog 15 #[.pointer (some ⟨B, 0, none⟩)] w fun e w' => e = .returned (.tuple #[pkV p, .bool true]) ∧ Left w w' B P R L v := by
  have T := up1 w (.cells zA 31)
  have H := h.below T
  have hH := RHead_some p H
  have z := Box.new w 31 zA
  have hBw := h.box.lt
  have hl := h.small
  have hfit : Fit P R L := h.fit.tail
  have hbig := h.big
  clear h
  go_enter Try.func15, Try.ntmps15
  go_upto_region 3 with (go_at_call 25; (with_reducible refine hH.mono ?_); rintro e w1 ⟨rfl, hb⟩; have T1 := ups T hb T.size; have z1 := z.below hb; have H1 := H.below hb)
  have T2 := T1.alloc T1.size (.cells (pkC p) 31)
  have hlt := z1.lt
  have z2 := z1.alloc (.cells (pkC p) 31)
  have bp := Box.new w1 31 (pkC p)
  have H2 := H1.below (up1 w1 (.cells (pkC p) 31))
  obtain ⟨W2, hW2⟩ : ∃ x, w1.alloc (.cells (pkC p) 31) = x := ⟨_, rfl⟩
  rw [hW2] at z2 T2 bp H2 ⊢
  clear hW2 H H1 T T1 z z1 hH
  obtain ⟨g, cap, cur, rfl, _, hgw, hcap, _, hgB, hcell⟩ := own_some H2.row (by simp)
  obtain ⟨c0, c1, c2⟩ := H2.cells
  have f2 := H2.box.thaw 2
  have hl2 : L.length ≤ 4096 := by simp at hl; omega
  obtain ⟨k, hk⟩ : ∃ k, (p :: L).length = k := ⟨_, rfl⟩
  have hk1 : k - 1 = L.length := by rw [← hk]; simp
  have hk0 : 1 ≤ k := by rw [← hk]; simp
  rw [hk] at c2 hcap
  obtain ⟨ad, had, hadf⟩ : ∃ x : Addr, (if cap = 1 then (some (⟨g, 0, none⟩ : Addr)) else some ⟨g, 4, none⟩) = some x ∧ (0 < L.length → x = ⟨g, 4, none⟩) := by
    by_cases hc : cap = 1
    · rw [if_pos hc]; exact ⟨_, rfl, fun h => by omega⟩
    · rw [if_neg hc]; exact ⟨_, rfl, fun _ => rfl⟩
  have i1 : (1 : Int) ≤ (k : Int) := by omega
  have i2 : (1 : Int) ≤ (cap : Int) := by omega
  have i3 : (k : Int) ≤ (cap : Int) := by omega
  replace hk := Lib.hid hk
  have T3 := up1 W2 (.cells #[] 31)
  have ca : (W2.alloc (.cells #[] 31)).cell? ⟨B, 2, none⟩ = some (.slice (some ⟨g, 0, none⟩) k cap) := ((H2.box.alloc _).cell 2).trans (by rw [hk.out]; rfl)
  have hflat : ∀ j u, (rowV L)[j]? = some u → (W2.alloc (.cells #[] 31)).cell? (ad.add j) = some u := fun j u hu => by
    have h0 : 0 < L.length := by
      cases L with
      | nil => simp [rowV] at hu
      | cons q L => simp
    rw [hadf h0, add_plain]
    have e := hcell (4 + j) u (by rw [show 4 + j = j + 1 + 1 + 1 + 1 by omega]; exact hu)
    rw [add_plain, Nat.zero_add] at e
    exact (T3.cell (p := ⟨g, 4 + j, none⟩) hgw).trans e
  have hE := own_empty (Box.new W2 31 #[])
  have hB2 : B ≠ W2.heap.size := by have := H2.box.lt; omega
  have hz2 := z2.lt
  have hp2 := bp.lt
  replace hflat := Lib.hid hflat
  replace hcell := Lib.hid hcell
  go_upto_region 4 with (at_builtin; refine wpList_flat rfl (.tmp 13) (.tmp 18) rfl W2.heap.size (.slice (some ⟨W2.heap.size, 0, none⟩) 0 0) [] L (by rfl) hE ad _ _ (by rfl) (by first | rfl | exact hk1.symm) hflat.out (by simp; omega) (by simp) ?_; intro v' w5 hO hG hat; rw [List.nil_append] at hO; obtain ⟨va, vc, rfl, _, _⟩ := own_len hO; have bQ5 := (H2.box.alloc (.cells #[] 31)).grown hG (by simp [Value.ownBlock]; exact hB2); have z5 := (z2.alloc (.cells #[] 31)).grown hG (by simp [Value.ownBlock]; omega); have p5 := (bp.alloc (.cells #[] 31)).grown hG (by simp [Value.ownBlock]; omega); have T5 : Below w.heap.size w w5 := (ups T2 T3 T2.size).grown hG (by have := T2.size; simp; omega) (by have := T2.size; simp [Value.ownBlock]; omega); have c2' := bQ5.cell 2; have f2' := bQ5.thaw 2)
  have hnB := own_not hO bQ5 (by decide)
  have hvhi : ∀ g', (Value.slice va L.length vc).ownBlock = some g' → w.heap.size < g' := fun g' e => by have := (hO.lt g' e).1; omega
  have bQ6 : Box (w5.setCell ⟨B, 2, none⟩ (.slice va L.length vc)) B #[eI P, eI R, .slice va L.length vc] 57 := bQ5.set 2 _
  have own6 := ownsRow_setCell_other (own_mono hO (Nat.zero_le _)) (a := ⟨B, 2, none⟩) hnB (.slice va L.length vc)
  have z6 := z5.setNe (a := ⟨B, 2, none⟩) (by show w.heap.size ≠ B; omega) (.slice va L.length vc)
  have p6 := p5.setNe (a := ⟨B, 2, none⟩) (by show w1.heap.size ≠ B; omega) (.slice va L.length vc)
  have O6 : Off (Own2 B (.slice (some ⟨g, 0, none⟩) k cap)) w (w5.setCell ⟨B, 2, none⟩ (.slice va L.length vc)) := by
    have O5 : Off (Own2 B (.slice (some ⟨g, 0, none⟩) k cap)) w w5 := Off.of T5
    exact O5.set (.inl rfl) 2 _
  obtain ⟨W6, hW6⟩ : ∃ x, w5.setCell ⟨B, 2, none⟩ (.slice va L.length vc) = x := ⟨_, rfl⟩
  rw [hW6] at bQ6 own6 z6 p6 O6 ⊢
  clear hW6 c0 c1 c2 f2 c2' f2' ca hE hG hat T5 T3 T2 bQ5 z5 p5 H2 bp z2
  replace z6 : Box W6 w.heap.size (pkC Pk.zero) 31 := z6
  obtain ⟨p0, p1, p2, p3, _, _, _, _⟩ := p6.four
  obtain ⟨_, _, _, _, _, _, _, _⟩ := z6.four
  obtain ⟨q0, q1, q2, q3, _, _, _, _⟩ := (z6.put (p := p)).four
  have bQ8 : Box (put0 W6 w.heap.size p) B _ 57 := bQ6.put0 (by omega)
  have own8 := own_put0 own6 p (N := w.heap.size) (fun e => by have := hvhi _ e; omega)
  have O8 := O6.put0Hi (Nat.le_refl _) p
  have hL8 : Left w (put0 W6 w.heap.size p) B P R L (.slice (some ⟨g, 0, none⟩) k cap) := ⟨⟨_, ⟨bQ8, own8, hfit, hbig⟩, fun g' e => .inr (Nat.le_of_lt (hvhi g' e))⟩, O8⟩
  go_wp2
  exact bodyPost_ret (v := .tuple #[pkV p, .bool true]) (by simp [results, Try.results15, go_sem, q0, q1, q2, q3]) rfl ⟨rfl, by rw [hk.out]; exact hL8⟩
end
end Go.Proofs.Ytlfpaebfpmjclaa
