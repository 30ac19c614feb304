/- What Pop answers and does. No condition. -/
import Derived.Test.YtlfpaebfpmjclaaQE
import Derived.OneCell
namespace Go.Proofs.Ytlfpaebfpmjclaa
open Go.RowKit
set_option linter.unusedVariables false
theorem rowV_set : ∀ (D : List Pk) (f : Nat) (p : Pk), f < D.length →
    ((((rowV D).set (f * 4) (.int .u64 p.id)).set (f * 4 + 1) (.int .i64 p.cls)).set (f * 4 + 2) (.int .i64 p.len)).set (f * 4 + 3) (.int .u64 p.tick) = rowV (D.set f p)
  | [], f, p, h => by simp at h
  | q :: D, 0, p, h => rfl
  | q :: D, f + 1, p, h => by
    have e := rowV_set D f p (by simpa using h)
    rw [show (f + 1) * 4 = f * 4 + 1 + 1 + 1 + 1 by omega]
    show _ :: _ :: _ :: _ :: ((((rowV D).set (f * 4) (.int .u64 p.id)).set (f * 4 + 1) (.int .i64 p.cls)).set (f * 4 + 2) (.int .i64 p.len)).set (f * 4 + 3) (.int .u64 p.tick) = rowV (q :: D.set f p)
    rw [e, rowV]
/-- The ring behind the first one's going. -/
theorem RingIs.pop {D : List Pk} {f : Nat} {p : Pk} {L : List Pk} (h : RingIs D f (p :: L)) (z : Pk) : RingIs (D.set f z) ((f + 1) % D.length) L := by
  obtain ⟨h1, h2, h3⟩ := h
  simp only [List.length_cons] at h1
  have hf : f < D.length := by
    rcases h2 with h2 | ⟨h2, _⟩
    · exact h2
    · subst h2; simp at h1
  refine ⟨by rw [List.length_set]; omega, .inl (by rw [List.length_set]; exact Nat.mod_lt _ (by omega)), fun i hi => ?_⟩
  have h4 := h3 (i + 1) (by simp; omega)
  simp only [List.getElem?_cons_succ] at h4
  rw [List.length_set, Nat.mod_add_mod, show f + 1 + i = f + (i + 1) by omega, ← h4, List.getElem?_set_ne]
  intro e
  by_cases hw : f + (i + 1) < D.length
  · rw [Nat.mod_eq_of_lt hw] at e; omega
  · rw [Nat.mod_eq_sub_mod (by omega), Nat.mod_eq_of_lt (by omega)] at e; omega
/-- The cells of a packet's block, and that they may be written. -/
theorem Box.four {W : World} {N : Nat} {p : Pk} {t : TypeId} (h : Box W N (pkC p) t) : W.cell? ⟨N, 0, none⟩ = some (.int .u64 p.id) ∧ W.cell? ⟨N, 1, none⟩ = some (.int .i64 p.cls) ∧ W.cell? ⟨N, 2, none⟩ = some (.int .i64 p.len) ∧ W.cell? ⟨N, 3, none⟩ = some (.int .u64 p.tick) ∧
    W.frozen? ⟨N, 0, none⟩ = false ∧ W.frozen? ⟨N, 1, none⟩ = false ∧ W.frozen? ⟨N, 2, none⟩ = false ∧ W.frozen? ⟨N, 3, none⟩ = false :=
  ⟨h.cell 0, h.cell 1, h.cell 2, h.cell 3, h.thaw 0, h.thaw 1, h.thaw 2, h.thaw 3⟩
/-- A packet stored. -/
abbrev put4 (W : World) (g o : Nat) (p : Pk) : World :=
  (((W.setCell ⟨g, o, none⟩ (.int .u64 p.id)).setCell ⟨g, o + 1, none⟩ (.int .i64 p.cls)).setCell ⟨g, o + 2, none⟩ (.int .i64 p.len)).setCell ⟨g, o + 3, none⟩ (.int .u64 p.tick)
abbrev put0 (W : World) (g : Nat) (p : Pk) : World :=
  (((W.setCell ⟨g, 0, none⟩ (.int .u64 p.id)).setCell ⟨g, 1, none⟩ (.int .i64 p.cls)).setCell ⟨g, 2, none⟩ (.int .i64 p.len)).setCell ⟨g, 3, none⟩ (.int .u64 p.tick)
theorem Box.put4 {W : World} {N g o : Nat} {p : Pk} {vs : Array Value} {t : TypeId} (h : Box W N vs t) (hne : N ≠ g) : Box (put4 W g o p) N vs t := (((h.setNe hne _).setNe hne _).setNe hne _).setNe hne _
theorem Box.put0 {W : World} {N g : Nat} {p : Pk} {vs : Array Value} {t : TypeId} (h : Box W N vs t) (hne : N ≠ g) : Box (put0 W g p) N vs t := (((h.setNe hne _).setNe hne _).setNe hne _).setNe hne _
theorem Box.put {W : World} {N : Nat} {p q : Pk} {t : TypeId} (h : Box W N (pkC q) t) : Box (Ytlfpaebfpmjclaa.put0 W N p) N (pkC p) t := (((h.set 0 _).set 1 _).set 2 _).set 3 _
theorem own_put4 {W : World} {g n cap f : Nat} {D : List Pk} {m : Nat} (h : W.ownsRow m 31 4 (.slice (some ⟨g, 0, none⟩) n cap) n (rowV D)) (p : Pk) (hf : f < D.length) : (put4 W g (f * 4) p).ownsRow m 31 4 (.slice (some ⟨g, 0, none⟩) n cap) n (rowV (D.set f p)) := by
  rw [← rowV_set D f p hf]
  exact ((((h.stored _ _).1.stored _ _).1.stored _ _).1.stored _ _).1
theorem Off.put4 {S : Nat → Prop} {W w : World} (h : Off S w W) {g : Nat} (hg : S g) (o : Nat) (p : Pk) : Off S w (put4 W g o p) := (((h.set hg _ _).set hg _ _).set hg _ _).set hg _ _
theorem Off.put0 {S : Nat → Prop} {W w : World} (h : Off S w W) {g : Nat} (hg : S g) (p : Pk) : Off S w (Ytlfpaebfpmjclaa.put0 W g p) := (((h.set hg _ _).set hg _ _).set hg _ _).set hg _ _
theorem Below.put0 {W w : World} {b : Nat} (h : Below b w W) {g : Nat} (hg : b ≤ g) (p : Pk) : Below b w (Ytlfpaebfpmjclaa.put0 W g p) := (((h.setCell hg _).setCell hg _).setCell hg _).setCell hg _
theorem own_put0 {W : World} {m n N : Nat} {v : Value} {X : List Value} (h : W.ownsRow m 31 4 v n X) (p : Pk) (hN : v.ownBlock ≠ some N) : (put0 W N p).ownsRow m 31 4 v n X :=
  ownsRow_setCell_other (ownsRow_setCell_other (ownsRow_setCell_other (ownsRow_setCell_other h (a := ⟨N, 0, none⟩) hN _) (a := ⟨N, 1, none⟩) hN _) (a := ⟨N, 2, none⟩) hN _) (a := ⟨N, 3, none⟩) hN _
theorem Off.drew {S : Nat → Prop} {W w : World} (h : Off S w W) : Off S w W.drew := ⟨h.os, h.tape, h.output, h.size, h.block⟩
theorem Off.setHi {S : Nat → Prop} {w w' : World} (h : Off S w w') {B : Nat} (hB : w.heap.size ≤ B) (i : Nat) (v : Value) : Off S w (w'.setCell ⟨B, i, none⟩ v) :=
  ⟨h.os, h.tape, h.output, by simpa [World.setCell] using h.size, fun k hk hn => (Below.heap_setCell _ _ _ k (by show k ≠ B; omega)).trans (h.block k hk hn)⟩
theorem Off.put0Hi {S : Nat → Prop} {W w : World} (h : Off S w W) {g : Nat} (hg : w.heap.size ≤ g) (p : Pk) : Off S w (Ytlfpaebfpmjclaa.put0 W g p) := (((h.setHi hg _ _).setHi hg _ _).setHi hg _ _).setHi hg _ _
section
variable {w : World} {B : Nat} {P R : Int} {L : List Pk} {v : Value} {n f : Nat} {D : List Pk}
set_option maxHeartbeats 4000000 in
set_option maxRecDepth 100000 in
theorem Pop_none (h : Qr w B P R [] v n f D) : Calls Try.prog 13 #[.pointer (some ⟨B, 0, none⟩)] w fun e w' => e = .returned (.tuple #[pkV Pk.zero, .bool false]) ∧ Below w.heap.size w w' := by
  have T := up1 w (.cells zA 31)
  have hH := Head_none (h.below T)
  have z := Box.new w 31 zA
  clear h
  go_enter Try.func13, Try.ntmps13
  go_upto_region 2 with (go_at_call 17; (with_reducible refine hH.mono ?_); rintro e w1 ⟨rfl, hb⟩; have T1 := ups T hb T.size; have z1 := z.below hb)
  have T2 := T1.alloc T1.size (.cells (pkC Pk.zero) 31)
  have z2 : Box (w1.alloc (.cells (pkC Pk.zero) 31)) w.heap.size (pkC Pk.zero) 31 := z1.alloc (.cells (pkC Pk.zero) 31)
  obtain ⟨W2, hW2⟩ : ∃ x, w1.alloc (.cells (pkC Pk.zero) 31) = x := ⟨_, rfl⟩
  rw [hW2] at z2 T2 ⊢
  clear hW2
  obtain ⟨_, _, _, _, _, _, _, _⟩ := z2.four
  obtain ⟨e0, e1, e2, e3, _, _, _, _⟩ := (z2.put (p := Pk.zero)).four
  go_wp2
  exact bodyPost_ret (v := .tuple #[pkV Pk.zero, .bool false]) (by simp only [Pk.zero] at e0 e1 e2 e3; simp [results, Try.results13, go_sem, Pk.zero, e0, e1, e2, e3]) rfl ⟨rfl, Below.put0 T2 (Nat.le_refl _) Pk.zero⟩
/-- A queue's own blocks. -/
def Own2 (B : Nat) (v : Value) (k : Nat) : Prop := k = B ∨ v.ownBlock = some k
set_option maxHeartbeats 4000000 in
set_option maxRecDepth 100000 in
theorem Pop_some (p : Pk) (h : Qr w B P R (p :: L) v n f D) : Calls Try.prog 13 #[.pointer (some ⟨B, 0, none⟩)] w fun e w' => e = .returned (.tuple #[pkV p, .bool true]) ∧ (∃ f' D', Qr w' B P R L v n f' D') ∧ Off (Own2 B v) w w' := by
  have T := up1 w (.cells zA 31)
  have H := h.below T
  have hH := Head_some p H
  have z := Box.new w 31 zA
  have hB0 := h.box.lt
  have hv0 := h.row.lt
  clear h
  go_enter Try.func13, Try.ntmps13
  go_upto_region 4 with (go_at_call 17; (with_reducible refine hH.mono ?_); rintro e w1 ⟨rfl, hb⟩; replace T := ups T hb T.size; replace z := z.below hb; replace H := H.below hb)
  have hzp := z.lt
  have bp := Box.new w1 31 (pkC p)
  replace T := T.alloc T.size (.cells (pkC p) 31)
  replace z := z.alloc (.cells (pkC p) 31)
  replace H := H.below (up1 w1 (.cells (pkC p) 31))
  obtain ⟨W2, hW2⟩ : ∃ x, w1.alloc (.cells (pkC p) 31) = x := ⟨_, rfl⟩
  rw [hW2] at bp T z H ⊢
  clear hW2
  obtain ⟨g, cap, cur, rfl, hc, hg, hne, hB, hx⟩ := H.at 0 (by simp)
  obtain ⟨x0, x1, x2, x3⟩ := hx _ hB
  have h0 : f < n := H.first (H.pos (by simp))
  simp only [Nat.add_zero, Nat.mod_eq_of_lt h0] at x0 x1 x2 x3
  obtain ⟨c0, c1, c2, c3, c4, c5⟩ := H.box.qu
  have i1 : (f : Int) < (n : Int) := by omega
  have i2 : (0 : Int) ≤ (f : Int) := by omega
  have z0 := hB.thaw (f * 4)
  have z1 := hB.thaw (f * 4 + 1)
  have z2 := hB.thaw (f * 4 + 2)
  have z3 := hB.thaw (f * 4 + 3)
  have hgw : g < w.heap.size := (hv0 g rfl).2
  have hDl : f < D.length := by rw [H.len]; exact h0
  have O4 : Off (Own2 B (.slice (some ⟨g, 0, none⟩) n cap)) w (put4 W2 g (f * 4) ⟨0, 0, 0, 0⟩).drew := ((Off.of T).put4 (.inr rfl) _ _).drew
  have bQ : Box (put4 W2 g (f * 4) ⟨0, 0, 0, 0⟩).drew B (quA P R ((p :: L).length : Int) (bsum (p :: L)) (.slice (some ⟨g, 0, none⟩) n cap) f) 44 := (H.box.put4 (fun e => hne e.symm)).drew
  have own4 := (own_put4 H.row ⟨0, 0, 0, 0⟩ hDl).drew
  replace bp : Box (put4 W2 g (f * 4) ⟨0, 0, 0, 0⟩).drew w1.heap.size (pkC p) 31 := (bp.put4 (by omega)).drew
  replace z : Box (put4 W2 g (f * 4) ⟨0, 0, 0, 0⟩).drew w.heap.size zA 31 := (z.put4 (by omega)).drew
  have hR := H.ring.pop ⟨0, 0, 0, 0⟩
  rw [H.len] at hR
  have hlen : (D.set f ⟨0, 0, 0, 0⟩).length = n := by rw [List.length_set]; exact H.len
  have hfit : Fit P R L := H.fit.tail
  have hcapP := H.cap
  have hPP := H.hP
  have hRR := H.hR
  have hn4 := H.few
  have hf4 := H.f_lt
  go_region
  go_upto_region 5 with fail
  obtain ⟨W4, hW4⟩ : ∃ x, (put4 W2 g (f * 4) ⟨0, 0, 0, 0⟩).drew = x := ⟨_, rfl⟩
  rw [hW4] at O4 bQ own4 bp z ⊢
  clear hW4 x0 x1 x2 x3 c0 c1 c2 c3 c4 c5 z0 z1 z2 z3 hB hx H T
  have hP : Calls Try.prog 28 #[.pointer (some ⟨B, 0, none⟩), .int .i64 1] W4 fun e w' => e = .returned (eI ((f + 1) % n : Nat)) ∧ W4.drew = w' := place_raw bQ (by omega) hn4 hf4 1 (by omega)
  obtain ⟨r, hr⟩ : ∃ r, (f + 1) % n = r := ⟨_, rfl⟩
  rw [hr] at hP hR
  clear hr
  have e1 : IntKind.i64.wrap (((p :: L).length : Int) - 1) = (L.length : Int) := by
    have := hfit.many
    rw [List.length_cons, i64_id (by omega)]; omega
  have e2 : IntKind.i64.wrap (bsum (p :: L) - p.len) = bsum L := by
    have := hfit.room
    have := hfit.bytes
    rw [bsum, show p.len + bsum L - p.len = bsum L by omega, i64_id (by omega)]
  generalize ((p :: L).length : Int) = k1 at *
  generalize bsum (p :: L) = s1 at *
  obtain ⟨c0, c1, c2, c3, c4, c5⟩ := bQ.qu
  have f5 := bQ.thaw 5
  have f2 := bQ.thaw 2
  have f3 := bQ.thaw 3
  go_upto_region 6 with (go_at_call 28; (with_reducible refine hP.mono ?_); rintro e w5 ⟨rfl, rfl⟩)
  have hneB : w1.heap.size ≠ B := by omega
  have hneZ : w.heap.size ≠ B := by omega
  replace O4 := (O4.set (.inl rfl) 5 (eI r)).drew
  replace own4 := (ownsRow_setCell_other own4 (a := ⟨B, 5, none⟩) (by simp [Value.ownBlock]; exact hne) (eI r)).drew
  replace bp := (bp.setNe (a := ⟨B, 5, none⟩) hneB (eI r)).drew
  replace z := (z.setNe (a := ⟨B, 5, none⟩) hneZ (eI r)).drew
  replace bQ : Box (W4.setCell ⟨B, 5, none⟩ (eI r)).drew B (quA P R k1 s1 (.slice (some ⟨g, 0, none⟩) n cap) r) 44 := (bQ.set 5 (eI r)).drew
  obtain ⟨W5, hW5⟩ : ∃ x, (W4.setCell ⟨B, 5, none⟩ (eI r)).drew = x := ⟨_, rfl⟩
  rw [hW5] at O4 bQ own4 bp z ⊢
  clear hW5 hP c0 c1 c2 c3 c4 c5 f5 f2 f3
  obtain ⟨c0, c1, c2, c3, c4, c5⟩ := bQ.qu
  have f2 := bQ.thaw 2
  go_upto_region 7 with fail
  replace O4 := O4.set (.inl rfl) 2 (eI L.length)
  replace own4 := ownsRow_setCell_other own4 (a := ⟨B, 2, none⟩) (by simp [Value.ownBlock]; exact hne) (eI L.length)
  replace bp := bp.setNe (a := ⟨B, 2, none⟩) hneB (eI L.length)
  replace z := z.setNe (a := ⟨B, 2, none⟩) hneZ (eI L.length)
  replace bQ : Box (W5.setCell ⟨B, 2, none⟩ (eI L.length)) B (quA P R L.length s1 (.slice (some ⟨g, 0, none⟩) n cap) r) 44 := bQ.set 2 (eI L.length)
  obtain ⟨W6, hW6⟩ : ∃ x, W5.setCell ⟨B, 2, none⟩ (eI L.length) = x := ⟨_, rfl⟩
  rw [hW6] at O4 bQ own4 bp z ⊢
  clear hW6 c0 c1 c2 c3 c4 c5 f2
  obtain ⟨c0, c1, c2, c3, c4, c5⟩ := bQ.qu
  have f3 := bQ.thaw 3
  obtain ⟨p0, p1, p2, p3, _, _, _, _⟩ := bp.four
  go_region
  go_upto_region 8 with fail
  replace O4 := (O4.set (.inl rfl) 3 (eI (bsum L))).drew
  replace own4 := (ownsRow_setCell_other own4 (a := ⟨B, 3, none⟩) (by simp [Value.ownBlock]; exact hne) (eI (bsum L))).drew
  replace bp := (bp.setNe (a := ⟨B, 3, none⟩) hneB (eI (bsum L))).drew
  replace z := (z.setNe (a := ⟨B, 3, none⟩) hneZ (eI (bsum L))).drew
  replace bQ : Box (W6.setCell ⟨B, 3, none⟩ (eI (bsum L))).drew B (quA P R L.length (bsum L) (.slice (some ⟨g, 0, none⟩) n cap) r) 44 := (bQ.set 3 (eI (bsum L))).drew
  obtain ⟨W7, hW7⟩ : ∃ x, (W6.setCell ⟨B, 3, none⟩ (eI (bsum L))).drew = x := ⟨_, rfl⟩
  rw [hW7] at O4 bQ own4 bp z ⊢
  clear hW7 c0 c1 c2 c3 c4 c5 f3 p0 p1 p2 p3
  replace z : Box W7 w.heap.size (pkC Pk.zero) 31 := z
  obtain ⟨p0, p1, p2, p3, _, _, _, _⟩ := bp.four
  obtain ⟨_, _, _, _, _, _, _, _⟩ := z.four
  obtain ⟨q0, q1, q2, q3, _, _, _, _⟩ := (z.put (p := p)).four
  have bQ8 : Box (put0 W7 w.heap.size p) B _ 44 := bQ.put0 (fun e => hneZ e.symm)
  have own8 := own_put0 own4 p (N := w.heap.size) (by simp [Value.ownBlock]; omega)
  have O8 := O4.put0Hi (Nat.le_refl _) p
  go_wp2
  exact bodyPost_ret (v := .tuple #[pkV p, .bool true]) (by simp [results, Try.results13, go_sem, q0, q1, q2, q3]) rfl ⟨rfl, ⟨r, _, bQ8, own8, hlen, hR, hcapP, hPP, hRR, hfit⟩, O8⟩
end
end Go.Proofs.Ytlfpaebfpmjclaa
