/- What All answers: a slice of its own, of the packets in their order. No condition. -/
import Derived.Test.YtlfpaebfpmjclaaQD
namespace Go.Proofs.Ytlfpaebfpmjclaa
open Go.RowKit
set_option linter.unusedVariables false
theorem infoP : (Try.prog.info? 31).map (fun i => (i.zero, i.size, i.bytes)) = some (some (.agg #[.int .u64 0, .int .i64 0, .int .i64 0, .int .u64 0]), 4, 32) := by kernel_rfl
theorem four_news (w : World) (p : Pk) (t : TypeId) : ∀ j u, [Value.int .u64 p.id, .int .i64 p.cls, .int .i64 p.len, .int .u64 p.tick][j]? = some u → (w.alloc (.cells (pkC p) t)).cell? ((⟨w.heap.size, 0, none⟩ : Addr).add j) = some u := by
  intro j u hj
  have e : (w.alloc (.cells (pkC p) t)).cell? ⟨w.heap.size, 0 + j, none⟩ = (pkC p)[0 + j]? := World.cell?_alloc_new _ _ _ _
  rw [add_plain, e]
  match j, hj with
  | 0, hj => exact hj
  | 1, hj => exact hj
  | 2, hj => exact hj
  | 3, hj => exact hj
  | j + 4, hj => simp at hj
theorem four_one (p : Pk) : ∀ u ∈ [Value.int .u64 p.id, .int .i64 p.cls, .int .i64 p.len, .int .u64 p.tick], u.oneCell' = true := by
  intro u hu
  simp only [List.mem_cons, List.not_mem_nil, or_false] at hu
  rcases hu with rfl | rfl | rfl | rfl <;> rfl
theorem take_at (L : List Pk) (j : Nat) (hj : j < L.length) : L.take (j + 1) = L.take j ++ [L[j]] := by
  rw [List.take_add_one, List.getElem?_eq_getElem hj]; rfl
theorem rowV_len1 (X : List Pk) (n : Nat) (h : X.length = n) : (rowV X).length = n * 4 := by rw [rowV_len, h]
/-- One packet more onto a row that the call owns: as a step of a region that draws its order, and in a plain one. -/
theorem step_push {w : World} {ops : Array Oper} {o : Oper} {a : Act} {K : Act → World → Prop} {Q : Exit → Act → World → Prop} {E : Prop} (hgd : o.guard = none) (s x : Operand)
    (ho : o.op = .call { callee := .builtin .append, args := #[s, x], argTypes := #[42, 42] })
    (m : Nat) (v : Value) (n : Nat) (X : List Pk) (hs : a.eval s = v) (hown : w.ownsRow m 31 4 v n (rowV X)) (p : Pk) (N c : Nat) (hx : a.eval x = .slice (some ⟨N, 0, none⟩) 1 c) (hB : Box w N (pkC p) 31) (hl : n ≤ 5000) (hbase : m ≤ w.heap.size)
    (h : ∀ g cap w', w'.ownsRow m 31 4 (.slice (some ⟨g, 0, none⟩) (n + 1) cap) (n + 1) (rowV (X ++ [p])) → w.grownBy w' v.ownBlock → (v.ownBlock = some g ∨ g = w.heap.size) → K (a.put o.dst (.slice (some ⟨g, 0, none⟩) (n + 1) cap)) w') :
    if Region.wanted o (yielded ops a.tmps) = true then Oper.wp Try.prog o a w K Q else E := by
  obtain ⟨i0, hi, hz0, hz1, hz2⟩ := info_parts infoP
  refine step_append_lies _ hgd s x 42 ho m 31 i0 _ 4 32 Try.underlying42 hi hz0 hz1 hz2 rfl (by decide) v n (rowV X) hs hown ⟨N, 0, none⟩ 1 c (rowV [p]) hx rfl (World.news_of_block hB) (four_one p) (by decide) (by unfold maxLen; omega) (by omega) hbase _ rfl ?_
  intro g cap w' h1 h2 h3 _
  rw [← rowV_append] at h1
  exact h g cap w' h1 h2 h3
theorem wpList_push {w : World} {ops : Array Oper} {rest : List Oper} {o : Oper} {a : Act} {Q : Exit → Act → World → Prop} (hgd : o.guard = none) (s x : Operand)
    (ho : o.op = .call { callee := .builtin .append, args := #[s, x], argTypes := #[42, 42] })
    (m : Nat) (v : Value) (n : Nat) (X : List Pk) (hs : a.eval s = v) (hown : w.ownsRow m 31 4 v n (rowV X)) (p : Pk) (N c : Nat) (hx : a.eval x = .slice (some ⟨N, 0, none⟩) 1 c) (hB : Box w N (pkC p) 31) (hl : n ≤ 5000) (hbase : m ≤ w.heap.size)
    (h : ∀ g cap w', w'.ownsRow m 31 4 (.slice (some ⟨g, 0, none⟩) (n + 1) cap) (n + 1) (rowV (X ++ [p])) → w.grownBy w' v.ownBlock → (v.ownBlock = some g ∨ g = w.heap.size) → wpList Try.prog ops Q rest (a.put o.dst (.slice (some ⟨g, 0, none⟩) (n + 1) cap)) w') :
    wpList Try.prog ops Q (o :: rest) a w := by
  obtain ⟨i0, hi, hz0, hz1, hz2⟩ := info_parts infoP
  refine wpList_append_lies _ hgd s x 42 ho m 31 i0 _ 4 32 Try.underlying42 hi hz0 hz1 hz2 rfl (by decide) v n (rowV X) hs hown ⟨N, 0, none⟩ 1 c (rowV [p]) hx rfl (World.news_of_block hB) (four_one p) (by decide) (by unfold maxLen; omega) (by omega) hbase _ rfl ?_
  intro g cap w' h1 h2 h3 _
  rw [← rowV_append] at h1
  exact h g cap w' h1 h2 h3
section
variable {w : World} {B : Nat} {P R : Int} {L : List Pk} {v : Value} {n f : Nat} {D : List Pk}
set_option maxHeartbeats 4000000 in
set_option maxRecDepth 100000 in
theorem All_any (h : Qr w B P R L v n f D) : Calls Try.prog 21 #[.pointer (some ⟨B, 0, none⟩)] w fun e w' => ∃ u, e = .returned u ∧ w'.ownsRow w.heap.size 31 4 u L.length (rowV L) ∧ Below w.heap.size w w' := by
  obtain ⟨i0, hi, hz0, hz1, hz2⟩ := info_parts infoP
  have hl : L.length ≤ 4096 := by have := h.many; have := h.few; omega
  have hx : (rowV L).length = L.length * 4 := rowV_len L
  have hL : ∀ w', Below w.heap.size w w' → Calls Try.prog 19 #[.pointer (some ⟨B, 0, none⟩)] w' fun e w2 => e = .returned (eI L.length) ∧ w' = w2 := fun w' hb => Len_any (h.below hb)
  have hL0 := hL w (Below.refl _ w)
  have hPl : ∀ (k : Nat) w', k < L.length → Below w.heap.size w w' → Calls Try.prog 28 #[.pointer (some ⟨B, 0, none⟩), eI k] w' fun e w2 => e = .returned (eI ((f + k) % n : Nat)) ∧ Below w'.heap.size w' w2 := fun k w' hk hb => place_any (h.below hb) (h.pos (by omega)) k (by omega)
  have hq := Lib.hid h
  have hPh := Lib.hid hPl
  have hLh := Lib.hid hL
  have T0 := Below.refl w.heap.size w
  have hnn : 0 ≤ (L.length : Int) := by omega
  have hsm : i0.bytes * L.length ≤ 281474976710656 := by rw [hz2]; omega
  have hml : L.length ≤ maxLen := by unfold maxLen; omega
  clear h hPl hL
  go_enter Try.func21, Try.ntmps21
  go_wp2_with (first
    | (go_at_call 19; (with_reducible refine hL0.mono ?_); rintro e w1 ⟨rfl, rfl⟩)
    | (at_make; refine wpList_make_own _ rfl _ _ 42 rfl w.heap.size 31 i0 _ 4 Try.underlying42 hi hz0 hz1 _ _ _ L.length rfl rfl rfl hsm hml (Nat.le_refl _) ?_; intro w2 hown hgrow; have T2 := T0.grown hgrow (Nat.le_refl _) (by intro k hk; cases hk); have hL2 := hLh.out w2 T2)
    | (go_at_call 19; (with_reducible refine hL2.mono ?_); rintro e w3 ⟨rfl, rfl⟩))
  clear hL0 hL2
  go_loopw [3, 10] (fun s3 s10 wr => ∃ k : Nat, s10 = .int .i64 k ∧ k ≤ L.length ∧ wr.ownsRow w.heap.size 31 4 s3 k (rowV (L.take k)) ∧ Below w.heap.size w wr) (fun s3 s10 _ => L.length - (intOf s10).toNat)
  case atStart => exact ⟨0, rfl, by omega, hown, T2⟩
  case round =>
    clear T2 hown hgrow
    obtain ⟨k, rfl, hk, hO, T⟩ := hrel
    by_cases hlt : k < L.length
    · have i1 : (k : Int) < (L.length : Int) := by omega
      have i2 : (0 : Int) ≤ (k : Int) := by omega
      have hw1 : IntKind.i64.wrap ((k : Int) + 1) = (k : Int) + 1 := i64_id (by omega)
      have H := hq.out.below T
      obtain ⟨g, cap, cur, rfl, hc, hg, hne, hB, hx⟩ := H.at k hlt
      have hp := hPh.out k wr.drew hlt T.drew
      have hr : (f + k) % n < n := Nat.mod_lt _ (hq.out.pos (by omega))
      have hQ := H.box
      obtain ⟨r, hr'⟩ : ∃ r, (f + k) % n = r := ⟨_, rfl⟩
      have hkl : k ≤ 5000 := by omega
      have hn' : rowV (L.take (k + 1)) = rowV (L.take k ++ [L[k]]) := by rw [take_at L k hlt]
      obtain ⟨p, hpk⟩ : ∃ p, L[k] = p := ⟨_, rfl⟩
      rw [hpk] at hn'
      simp only [hpk, hr'] at hx
      rw [hr'] at hp hr
      obtain ⟨x0, x1, x2, x3⟩ := hx _ hB
      obtain ⟨c0, c1, c2, c3, c4, c5⟩ := hQ.qu
      have i3 : (r : Int) < (n : Int) := by omega
      have i4 : (0 : Int) ≤ (r : Int) := by omega
      replace hn' := Lib.hid hn'
      replace hx := Lib.hid hx
      clear hpk hr' H
      go_upto_region 5 with fail
      go_region_law (first
        | (go_simp; go_at_call 28; (with_reducible refine hp.mono ?_); rintro e w1 ⟨rfl, hb⟩; obtain ⟨y0, y1, y2, y3⟩ := hx.out _ (hB.drew.below hb); obtain ⟨d0, d1, d2, d3, d4, d5⟩ := (hQ.drew.below hb).qu)
        | (refine step_push (by rfl) (.tmp 13) (.tmp 23) (by rfl) w.heap.size u3 k (L.take k) (by rfl) ((own_below hO.drew hb).alloc _) p _ _ (by rfl) (Box.new _ _ _) hkl (Nat.le_trans T.size (Nat.le_trans hb.size (by simp))) ?_; intro g2 cap2 w2 hO2 hG2 hat2))
      all_goals go_wp2
      all_goals refine ⟨⟨k + 1, rfl, by omega, by rw [hn'.out]; exact hO2, ?_⟩, by simp [intOf]; omega⟩
      all_goals exact (ups T.drew hb T.size |>.alloc (Nat.le_trans T.size hb.size) _).grown hG2 (Nat.le_trans T.size (Nat.le_trans hb.size (by simp))) (fun j hj => (hO.lt j hj).1)
    · obtain rfl : k = L.length := by omega
      have i1 : ¬ (L.length : Int) < (L.length : Int) := by omega
      go_wp2
      go_ret
      rw [List.take_length] at hO
      exact ⟨_, rfl, hO, T⟩
end
end Go.Proofs.Ytlfpaebfpmjclaa
