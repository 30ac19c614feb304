/- Corners of curves in order, as the document puts them in. No condition. What the document's Corners answers: a row of the call's own. Conditions: words; at most 1000 curves. The corners in order: rising, all of them, no other. No condition but that words are words. -/
import Derived.Test.YtjbpaapglamilaaGI
namespace Go.Proofs.Ytjbpaapglamilaa
open W
set_option linter.unusedVariables false
/-- Where n belongs among the first a ones: from the end, past those that are greater. -/
def posF (cs : List Int) (n : Int) : Nat → Nat
  | 0 => 0
  | a + 1 => if n < cs.getD a 0 then posF cs n a else a + 1
def insF (cs : List Int) (n : Int) : List Int :=
  if 0 < posF cs n cs.length ∧ cs.getD (posF cs n cs.length - 1) 0 = n then cs else cs.take (posF cs n cs.length) ++ n :: cs.drop (posF cs n cs.length)
def corF (xs : List Cv) : List Int := xs.foldl (fun cs c => if c.may ∧ c.l ≠ 0 then insF cs c.l else cs) [0]
theorem posF_le (cs : List Int) (n : Int) : ∀ a, posF cs n a ≤ a
  | 0 => Nat.le_refl 0
  | a + 1 => by
    unfold posF; split
    · exact Nat.le_succ_of_le (posF_le cs n a)
    · exact Nat.le_refl _
theorem corF_take {xs : List Cv} {k : Nat} (h : k < xs.length) : corF (xs.take (k + 1)) = if xs[k].may ∧ xs[k].l ≠ 0 then insF (corF (xs.take k)) xs[k].l else corF (xs.take k) := by
  unfold corF
  rw [List.take_succ_eq_append_getElem h, List.foldl_append]
  rfl
theorem insF_length (cs : List Int) (n : Int) : (insF cs n).length ≤ cs.length + 1 ∧ cs.length ≤ (insF cs n).length := by
  unfold insF; split
  · omega
  · have := posF_le cs n cs.length
    simp [List.length_append, List.length_take, List.length_drop]; omega
theorem corF_length (xs : List Cv) : (corF xs).length ≤ xs.length + 1 ∧ 1 ≤ (corF xs).length := by
  unfold corF
  suffices h : ∀ (xs : List Cv) (cs : List Int), (xs.foldl (fun cs c => if c.may ∧ c.l ≠ 0 then insF cs c.l else cs) cs).length ≤ xs.length + cs.length ∧ cs.length ≤ (xs.foldl (fun cs c => if c.may ∧ c.l ≠ 0 then insF cs c.l else cs) cs).length from by
    have := h xs [0]; simpa using this
  intro xs
  induction xs with
  | nil => intro cs; simp
  | cons c xs ih =>
    intro cs
    simp only [List.foldl_cons, List.length_cons]
    split
    · have := ih (insF cs c.l); have := insF_length cs c.l; omega
    · have := ih cs; omega
/-- Rising, none twice. -/
def Rising (cs : List Int) : Prop := ∀ i j (hi : i < cs.length) (hj : j < cs.length), i < j → cs[i] < cs[j]
theorem posF_spec {cs : List Int} {n : Int} : ∀ a, a ≤ cs.length → (∀ j (h : j < cs.length), posF cs n a ≤ j → j < a → n < cs[j]) ∧ (0 < posF cs n a → ∃ h : posF cs n a - 1 < cs.length, cs[posF cs n a - 1] ≤ n)
  | 0, _ => ⟨fun j _ _ h => by omega, fun h => by simp [posF] at h⟩
  | a + 1, ha => by
    obtain ⟨h1, h2⟩ := @posF_spec cs n a (by omega)
    have e : cs.getD a 0 = cs[a] := by simp [List.getD, List.getElem?_eq_getElem (show a < cs.length by omega)]
    unfold posF
    split
    · rename_i g
      rw [e] at g
      refine ⟨fun j hj k1 k2 => ?_, h2⟩
      rcases Nat.lt_or_ge j a with q | q
      · exact h1 j hj k1 q
      · obtain rfl : j = a := by omega
        exact g
    · rename_i g
      rw [e] at g
      exact ⟨fun j _ _ _ => by omega, fun _ => ⟨by simp; omega, by simp; omega⟩⟩
end Go.Proofs.Ytjbpaapglamilaa
namespace Go.Proofs.Ytjbpaapglamilaa
open Go.RowKit W
set_option linter.unusedVariables false
abbrev eU (n : Int) : Value := .int .u64 n
theorem infoU : (Try.prog.info? 22).map (fun i => (i.zero, i.size, i.bytes)) = some (some (.int .u64 0), 1, 8) := by kernel_rfl
/-- A row that is not nil, by its cells. -/
theorem owns_cell {w : World} {base : Nat} {g n cap : Nat} {cs : List Int} (h : w.ownsRow base 22 1 (.slice (some ⟨g, 0, none⟩) n cap) cs.length (cs.map eU)) {j : Nat} (hj : j < cs.length) :
    w.cell? ⟨g, j, none⟩ = some (.int .u64 (cs.getD j 0)) := by
  have := h.cells (g := g) rfl j (eU (cs.getD j 0)) (by simp [List.getD, List.getElem?_eq_getElem hj])
  have hadd : (⟨g, 0, none⟩ : Addr).add j = ⟨g, j, none⟩ := by unfold Addr.add; split <;> simp_all
  rwa [hadd] at this
theorem owns_some {w : World} {base : Nat} {v : Value} {n : Nat} {xs : List Value} (h : w.ownsRow base 22 1 v n xs) (h0 : 0 < n) : ∃ g cap, v = .slice (some ⟨g, 0, none⟩) n cap ∧ n ≤ cap ∧ base ≤ g ∧ g < w.heap.size := by
  rcases h.2 with ⟨_, e⟩ | ⟨g, cap, cur, e, hb, hg, hc, _⟩
  · omega
  · exact ⟨g, cap, e, hc, hb, (Array.getElem?_eq_some_iff.1 hg).1⟩
theorem owns_below {w w' : World} {base : Nat} {v : Value} {n : Nat} {xs : List Value} (h : w.ownsRow base 22 1 v n xs) (hb : Below w.heap.size w w') : w'.ownsRow base 22 1 v n xs :=
  h.kept (row := none) ⟨hb.os, hb.tape, hb.output, hb.size, fun j hj _ => hb.block j hj⟩ (by cases v.ownBlock <;> simp)
/-- The first a of a row. -/
theorem owns_take {w : World} {base : Nat} {g n cap a : Nat} {xs : List Value} (h : w.ownsRow base 22 1 (.slice (some ⟨g, 0, none⟩) n cap) n xs) (ha : a ≤ n) :
    w.ownsRow base 22 1 (.slice (some ⟨g, 0, none⟩) a cap) a (xs.take a) := by
  obtain ⟨h1, h2⟩ := h
  rcases h2 with ⟨e, _⟩ | ⟨g', cap', cur, e, hb, hg, hc, hm, hs, ht⟩
  · cases e
  · cases e
    refine ⟨by rw [List.length_take, h1]; omega, .inr ⟨g, cap, cur, rfl, hb, hg, by omega, hm, hs, ?_⟩⟩
    rw [← ht, List.take_take]; congr 1; omega
set_option maxRecDepth 100000 in
set_option maxHeartbeats 4000000 in
theorem kCorners_of (xs : List Cv) (b o c : Nat) (w : World) (hx : ∀ c ∈ xs, c.word) (hn : xs.length ≤ 1000) (hr : CvRow w b o xs) (hc : xs.length ≤ c) :
    Calls Try.prog 57 #[.slice (some ⟨b, o, none⟩) xs.length c] w fun e w' => ∃ v, e = .returned v ∧ w'.ownsRow w.heap.size 22 1 v (corF xs).length ((corF xs).map eU) ∧ Below w.heap.size w w' := by
  obtain ⟨i0, hi, hz0, hz1, hz2⟩ := info_parts infoU
  have hr' := Lib.hid hr
  have hx' := Lib.hid hx
  have hbw := hr.1
  clear hr hx
  go_enter Try.func57, Try.ntmps57
  go_wp2
  go_loopw [3, 4] (fun s3 s4 wr => ∃ k : Nat, k ≤ xs.length ∧ s4 = .int .i64 k ∧ wr.ownsRow w.heap.size 22 1 s3 (corF (xs.take k)).length ((corF (xs.take k)).map eU) ∧ Below w.heap.size w wr) (fun _ s4 _ => xs.length - (intOf s4).toNat)
  case atStart =>
    refine ⟨0, by omega, rfl, ⟨rfl, .inr ⟨w.heap.size, 1, #[eU 0], rfl, Nat.le_refl _, World.alloc_heap_new w _, Nat.le_refl 1, by decide, rfl, rfl⟩⟩, up1 _ _⟩
  case round =>
    obtain ⟨k, hk, rfl, hown, T⟩ := hrel
    have hlen := corF_length (xs.take k)
    have hlt' : (xs.take k).length ≤ 1000 := by rw [List.length_take]; omega
    by_cases hlt : k < xs.length
    · obtain ⟨g, cap, rfl, hcap, hgb, hgl⟩ := owns_some hown (by omega)
      have i1 : (k : Int) < (xs.length : Int) := by omega
      have i2 : (0 : Int) ≤ (k : Int) := by omega
      have BC := hr'.out.below T
      obtain ⟨x1, x2, x3⟩ := BC.2 k hlt
      obtain ⟨wf, wl, wr'⟩ := hx'.out xs[k] (List.getElem_mem hlt)
      have hst := corF_take hlt
      have hM := fun w => kMay_any xs[k].f xs[k].l xs[k].r w wf wl wr'
      have hmb : mayB xs[k].f xs[k].l xs[k].r = true ↔ xs[k].may := mayB_is
      obtain ⟨f, ef⟩ : ∃ f, xs[k].f = f := ⟨_, rfl⟩
      obtain ⟨n, el⟩ : ∃ n, xs[k].l = n := ⟨_, rfl⟩
      obtain ⟨r, er⟩ : ∃ r, xs[k].r = r := ⟨_, rfl⟩
      rw [ef, el, er] at hM hmb
      rw [ef] at x1
      rw [el] at x2 hst
      rw [er] at x3
      clear ef er wf wr'
      obtain ⟨cs, ecs⟩ : ∃ cs, corF (xs.take k) = cs := ⟨_, rfl⟩
      rw [ecs] at hown hlen hst hcap
      cases hm : mayB f n r with
      | false =>
        have hno : ¬ (xs[k].may ∧ n ≠ 0) := fun h => by rw [hmb.2 h.1] at hm; cases hm
        rw [if_neg hno] at hst
        rw [hm] at hM
        replace hown := Lib.hid hown
        replace hst := Lib.hid hst
        clear hmb hm hno hlen
        go_wp2_with (go_at_call 25; (with_reducible refine (hM _).mono ?_); rintro e w1 ⟨rfl, hb⟩)
        go_roundw
        case rel => exact ⟨k + 1, by omega, by go_num, by rw [hst.out]; exact owns_below hown.out hb, up T hb T.size⟩
        case measure => simp [intOf]; omega
      | true =>
        rw [hm] at hM
        by_cases hz : n = 0
        · have hno : ¬ (xs[k].may ∧ n ≠ 0) := fun h => h.2 hz
          rw [if_neg hno] at hst
          have hz' : (n == 0) = true := by simp [hz]
          replace hown := Lib.hid hown
          replace hst := Lib.hid hst
          clear hmb hm hno hlen hz el
          go_wp2_with (go_at_call 25; (with_reducible refine (hM _).mono ?_); rintro e w1 ⟨rfl, hb⟩)
          go_roundw
          case rel => exact ⟨k + 1, by omega, by go_num, by rw [hst.out]; exact owns_below hown.out hb, up T hb T.size⟩
          case measure => simp [intOf]; omega
        · have hyes : xs[k].may ∧ n ≠ 0 := ⟨hmb.1 hm, hz⟩
          rw [if_pos hyes] at hst
          have hz' : (n == 0) = false := by simp [hz]
          clear hmb hm hyes
          replace hown := Lib.hid hown
          replace hst := Lib.hid hst
          go_upto_region 7 with (go_at_call 25; (with_reducible refine (hM _).mono ?_); rintro e w1 ⟨rfl, hb⟩)
          replace hown := Lib.hid (owns_below hown.out hb)
          replace T := up T hb T.size
          replace hgl := Nat.lt_of_lt_of_le hgl hb.size
          have hcell := Lib.hid (fun j (hj : j < cs.length) => owns_cell hown.out hj)
          clear hb x1 x2 x3 BC
          go_wp2
          go_loopw [6] (fun s6 wx => ∃ a : Nat, s6 = .int .i64 a ∧ a ≤ cs.length ∧ posF cs n a = posF cs n cs.length ∧ wx = w1) (fun s6 _ => (intOf s6).toNat)
          case atStart => exact ⟨cs.length, rfl, Nat.le_refl _, rfl, rfl⟩
          case round =>
            obtain ⟨a, rfl, ha, hpos, rfl⟩ := hrel
            rcases Nat.eq_zero_or_pos a with h0 | h0
            · subst h0
              have hp0 : posF cs n cs.length = 0 := hpos.symm
              have hnews : ∀ j u, ((cs.drop 0).map eU)[j]? = some u → (wr.alloc (.cells #[] 22)).cell? ((⟨g, 0, none⟩ : Addr).add j) = some u := by
                intro j u hj
                rw [List.drop_zero] at hj
                exact (hown.out.alloc _).cells (g := g) rfl j u hj
              have hR0 := World.ownsRow_made (base := wr.heap.size) (e := 22) (size := 1) wr #[] 0 (Nat.le_refl _) (by decide) rfl
              have hml : ((cs.drop 0).map eU).length = (cs.length - 0) * 1 := by rw [List.length_map, List.length_drop]; omega
              have hone : ∀ u ∈ (cs.drop 0).map eU, u.oneCell' = true := by intro u hu; obtain ⟨x, _, rfl⟩ := List.mem_map.1 hu; rfl
              have hmx : 0 + (cs.length - 0) ≤ maxLen := by unfold maxLen; omega
              have hby : (0 + (cs.length - 0)) * 8 ≤ 140737488355328 := by omega
              have hmx2 : 0 + 1 ≤ maxLen := by unfold maxLen; omega
              have hby2 : (0 + 1) * 8 ≤ 140737488355328 := by omega
              have hmx3 : 0 + 1 + (cs.length - 0) ≤ maxLen := by unfold maxLen; omega
              have hby3 : (0 + 1 + (cs.length - 0)) * 8 ≤ 140737488355328 := by omega
              have hale : 0 ≤ cs.length := by omega
              have hgne : g ≠ wr.heap.size := by omega
              have hins : insF cs n = cs.take 0 ++ n :: cs.drop 0 := by unfold insF; rw [hp0, if_neg (by omega)]
              have e1 : (insF cs n).map eU = ((cs.take 0).map eU ++ [eU n]) ++ (cs.drop 0).map eU := by rw [hins]; simp
              have e2 : (insF cs n).length = 0 + 1 + (cs.length - 0) := by rw [hins]; simp; omega
              replace e1 := Lib.hid e1
              replace e2 := Lib.hid e2
              clear hins
              replace hnews := Lib.hid hnews
              replace hone := Lib.hid hone
              go_upto_region 12 with (at_builtin; refine wpList_append_own _ rfl _ _ 89 rfl wr.heap.size 22 i0 (.int .u64 0) 1 8 Try.underlying89 hi hz0 hz1 hz2 rfl (by decide) (.slice (some ⟨wr.heap.size, 0, none⟩) 0 0) 0 [] rfl hR0 ⟨g, 0, none⟩ (cs.length - 0) (cap - 0) ((cs.drop 0).map eU) rfl hml hnews.out hone.out hmx hby (by simp) ?_; intro vR w3 hownR hgrowR hnilR)
              simp only [Nat.zero_add, List.nil_append] at hownR
              obtain ⟨gR, capR, rfl, hRb⟩ : ∃ gR capR, vR = .slice (some ⟨gR, 0, none⟩) (cs.length - 0) capR ∧ wr.heap.size ≤ gR := by
                rcases hownR.2 with ⟨h1, h2⟩ | ⟨gR, capR, curR, h1, h2, _⟩
                · exact absurd (hnilR.1 h1).1 (by simp)
                · exact ⟨gR, capR, h1, h2⟩
              have hG3 := (hown.out.alloc (.cells #[] 22)).kept hgrowR (.inr (by simp [Value.ownBlock]; omega))
              have hT3 := (owns_take hG3 hale).alloc (.cells #[eU n] 22)
              rw [← List.map_take] at hT3
              have hR3 := hownR.alloc (.cells #[eU n] 22)
              replace hT3 := Lib.hid hT3
              replace hR3 := Lib.hid hR3
              replace hgrowR := Lib.hid hgrowR
              clear hG3 hownR hnilR hR0 hmx hby
              have hsz := hgrowR.out.size
              have hn1 : ∀ j u, [eU n][j]? = some u → (w3.alloc (.cells #[eU n] 22)).cell? ((⟨w3.heap.size, 0, none⟩ : Addr).add j) = some u := by
                intro j u hj
                match j, hj with
                | 0, hj => simp at hj; subst hj; simp [Addr.add]
              have hn2 : ∀ u ∈ [eU n], u.oneCell' = true := by intro u hu; simp at hu; subst hu; rfl
              replace hn1 := Lib.hid hn1
              replace hn2 := Lib.hid hn2
              have hb3 : w.heap.size ≤ (w3.alloc (.cells #[eU n] 22)).heap.size := by have := T.size; simp at hsz ⊢; omega
              go_wp2_with (first
                | (at_builtin; refine wpList_append_own _ rfl _ _ 89 rfl w.heap.size 22 i0 (.int .u64 0) 1 8 Try.underlying89 hi hz0 hz1 hz2 rfl (by decide) (.slice (some ⟨g, 0, none⟩) (0) cap) (0) ((cs.take (0)).map eU) rfl hT3.out ⟨w3.heap.size, 0, none⟩ 1 1 [eU n] rfl rfl hn1.out hn2.out hmx2 hby2 hb3 ?_; intro v2 w5 hown2 hgrow2 _; have hR5 := Lib.hid (hR3.out.kept hgrow2 (.inr (by simp [Value.ownBlock]; omega))); have hR6 := Lib.hid (hR5.out.cells (g := gR) rfl); have hb5 := Nat.le_trans hb3 hgrow2.size; replace hown2 := Lib.hid hown2; replace hgrow2 := Lib.hid hgrow2)
                | (at_builtin; refine wpList_append_own _ rfl _ _ 89 rfl w.heap.size 22 i0 (.int .u64 0) 1 8 Try.underlying89 hi hz0 hz1 hz2 rfl (by decide) v2 (0 + 1) ((cs.take (0)).map eU ++ [eU n]) rfl hown2.out ⟨gR, 0, none⟩ (cs.length - (0)) capR ((cs.drop (0)).map eU) rfl hml hR6.out hone.out hmx3 hby3 hb5 ?_; intro v3 w6 hown3 hgrow3 _; replace hown3 := Lib.hid hown3; replace hgrow3 := Lib.hid hgrow3))
              go_roundw
              case rel =>
                refine ⟨k + 1, by omega, by go_num, by rw [hst.out, e1.out, e2.out]; exact hown3.out, ?_⟩
                have B1 := (T.alloc T.size (.cells #[] 22)).grown hgrowR.out (by have := T.size; simp; omega) (fun j e => by simp [Value.ownBlock] at e; have := T.size; omega)
                have B2 := (B1.alloc B1.size (.cells #[eU n] 22)).grown hgrow2.out hb3 (fun j e => by simp [Value.ownBlock] at e; omega)
                exact B2.grown hgrow3.out hb5 (fun j e => (hown2.out.lt j e).1)
              case measure => simp [intOf]; omega
            · obtain ⟨a', rfl⟩ : ∃ a', a = a' + 1 := ⟨a - 1, by omega⟩
              have hc := hcell.out a' (by omega)
              have j1 : (0 : Int) < (a' : Int) + 1 := by omega
              have j2 : (a' : Int) < (cs.length : Int) := by omega
              have j3 : (0 : Int) ≤ (a' : Int) := by omega
              obtain ⟨m, hm⟩ : ∃ m, cs.getD a' 0 = m := ⟨_, rfl⟩
              rw [hm] at hc
              rcases Int.lt_trichotomy n m with hq | hq | hq
              · have hp2 : posF cs n a' = posF cs n cs.length := by rw [← hpos]; conv => rhs; unfold posF
                                                                    rw [hm, if_pos hq]
                go_wp2
                go_roundw
                case rel => exact ⟨a', by go_num, by omega, hp2, trivial⟩
                case measure => simp [intOf]
              · subst hq
                have hp3 : posF cs n cs.length = a' + 1 := by
                  rw [← hpos]; unfold posF; rw [hm, if_neg (by omega)]
                have hins : insF cs n = cs := by unfold insF; rw [hp3, if_pos ⟨by omega, by simpa using hm⟩]
                have hst2 := Lib.hid (hst.out.trans hins)
                clear hins hp3 hpos hm
                go_wp2
                go_roundw
                case rel => exact ⟨k + 1, by omega, by go_num, by rw [hst2.out]; exact hown.out, T⟩
                case measure => simp [intOf]; omega
              · have hp3 : posF cs n cs.length = a' + 1 := by
                  rw [← hpos]; unfold posF; rw [hm, if_neg (by omega)]
                have hcnd : ¬ (0 < a' + 1 ∧ cs.getD (a' + 1 - 1) 0 = n) := fun h => by have := h.2; rw [show a' + 1 - 1 = a' by omega, hm] at this; omega
                clear hpos
                obtain ⟨ad, had⟩ : ∃ ad : Addr, (if cap = a' + 1 then some (⟨g, 0, none⟩ : Addr) else some ⟨g, a' + 1, none⟩) = some ad := by
                  split
                  · exact ⟨_, rfl⟩
                  · exact ⟨_, rfl⟩
                have hnews : ∀ j u, ((cs.drop (a' + 1)).map eU)[j]? = some u → (wr.alloc (.cells #[] 22)).cell? (ad.add j) = some u := by
                  intro j u hj
                  by_cases hca : cap = a' + 1
                  · rw [List.drop_eq_nil_of_le (by omega)] at hj
                    simp at hj
                  · rw [if_neg hca] at had
                    cases had
                    have hj' : (cs.map eU)[a' + 1 + j]? = some u := by rw [← hj, List.getElem?_map, List.getElem?_map, List.getElem?_drop]
                    have := (hown.out.alloc (.cells #[] 22)).cells (g := g) rfl (a' + 1 + j) u hj'
                    have hadd : (⟨g, 0, none⟩ : Addr).add (a' + 1 + j) = ⟨g, a' + 1 + j, none⟩ := by unfold Addr.add; split <;> simp_all
                    have hadd2 : (⟨g, a' + 1, none⟩ : Addr).add j = ⟨g, a' + 1 + j, none⟩ := by unfold Addr.add; split <;> simp_all
                    rw [hadd] at this
                    rw [hadd2]; exact this
                have hR0 := World.ownsRow_made (base := wr.heap.size) (e := 22) (size := 1) wr #[] 0 (Nat.le_refl _) (by decide) rfl
                have hml : ((cs.drop (a' + 1)).map eU).length = (cs.length - (a' + 1)) * 1 := by rw [List.length_map, List.length_drop]; omega
                have hone : ∀ u ∈ (cs.drop (a' + 1)).map eU, u.oneCell' = true := by intro u hu; obtain ⟨x, _, rfl⟩ := List.mem_map.1 hu; rfl
                have hmx : 0 + (cs.length - (a' + 1)) ≤ maxLen := by unfold maxLen; omega
                have hby : (0 + (cs.length - (a' + 1))) * 8 ≤ 140737488355328 := by omega
                have hmx2 : (a' + 1) + 1 ≤ maxLen := by unfold maxLen; omega
                have hby2 : ((a' + 1) + 1) * 8 ≤ 140737488355328 := by omega
                have hmx3 : (a' + 1) + 1 + (cs.length - (a' + 1)) ≤ maxLen := by unfold maxLen; omega
                have hby3 : ((a' + 1) + 1 + (cs.length - (a' + 1))) * 8 ≤ 140737488355328 := by omega
                have hale : (a' + 1) ≤ cs.length := by omega
                have hgne : g ≠ wr.heap.size := by omega
                have hins : insF cs n = cs.take (a' + 1) ++ n :: cs.drop (a' + 1) := by unfold insF; rw [hp3, if_neg hcnd]
                have e1 : (insF cs n).map eU = ((cs.take (a' + 1)).map eU ++ [eU n]) ++ (cs.drop (a' + 1)).map eU := by rw [hins]; simp
                have e2 : (insF cs n).length = (a' + 1) + 1 + (cs.length - (a' + 1)) := by rw [hins]; simp; omega
                replace e1 := Lib.hid e1
                replace e2 := Lib.hid e2
                clear hins
                replace hnews := Lib.hid hnews
                replace hone := Lib.hid hone
                go_upto_region 12 with (at_builtin; refine wpList_append_own _ rfl _ _ 89 rfl wr.heap.size 22 i0 (.int .u64 0) 1 8 Try.underlying89 hi hz0 hz1 hz2 rfl (by decide) (.slice (some ⟨wr.heap.size, 0, none⟩) 0 0) 0 [] rfl hR0 ad (cs.length - (a' + 1)) (cap - (a' + 1)) ((cs.drop (a' + 1)).map eU) rfl hml hnews.out hone.out hmx hby (by simp) ?_; intro vR w3 hownR hgrowR hnilR)
                simp only [Nat.zero_add, List.nil_append] at hownR
                obtain ⟨gR, capR, rfl, hRb⟩ : ∃ gR capR, vR = .slice (some ⟨gR, 0, none⟩) (cs.length - (a' + 1)) capR ∧ wr.heap.size ≤ gR := by
                  rcases hownR.2 with ⟨h1, h2⟩ | ⟨gR, capR, curR, h1, h2, _⟩
                  · exact absurd (hnilR.1 h1).1 (by simp)
                  · exact ⟨gR, capR, h1, h2⟩
                have hG3 := (hown.out.alloc (.cells #[] 22)).kept hgrowR (.inr (by simp [Value.ownBlock]; omega))
                have hT3 := (owns_take hG3 hale).alloc (.cells #[eU n] 22)
                rw [← List.map_take] at hT3
                have hR3 := hownR.alloc (.cells #[eU n] 22)
                replace hT3 := Lib.hid hT3
                replace hR3 := Lib.hid hR3
                replace hgrowR := Lib.hid hgrowR
                clear hG3 hownR hnilR hR0 hmx hby
                have hsz := hgrowR.out.size
                have hn1 : ∀ j u, [eU n][j]? = some u → (w3.alloc (.cells #[eU n] 22)).cell? ((⟨w3.heap.size, 0, none⟩ : Addr).add j) = some u := by
                  intro j u hj
                  match j, hj with
                  | 0, hj => simp at hj; subst hj; simp [Addr.add]
                have hn2 : ∀ u ∈ [eU n], u.oneCell' = true := by intro u hu; simp at hu; subst hu; rfl
                replace hn1 := Lib.hid hn1
                replace hn2 := Lib.hid hn2
                have hb3 : w.heap.size ≤ (w3.alloc (.cells #[eU n] 22)).heap.size := by have := T.size; simp at hsz ⊢; omega
                go_wp2_with (first
                  | (at_builtin; refine wpList_append_own _ rfl _ _ 89 rfl w.heap.size 22 i0 (.int .u64 0) 1 8 Try.underlying89 hi hz0 hz1 hz2 rfl (by decide) (.slice (some ⟨g, 0, none⟩) ((a' + 1)) cap) ((a' + 1)) ((cs.take ((a' + 1))).map eU) rfl hT3.out ⟨w3.heap.size, 0, none⟩ 1 1 [eU n] rfl rfl hn1.out hn2.out hmx2 hby2 hb3 ?_; intro v2 w5 hown2 hgrow2 _; have hR5 := Lib.hid (hR3.out.kept hgrow2 (.inr (by simp [Value.ownBlock]; omega))); have hR6 := Lib.hid (hR5.out.cells (g := gR) rfl); have hb5 := Nat.le_trans hb3 hgrow2.size; replace hown2 := Lib.hid hown2; replace hgrow2 := Lib.hid hgrow2)
                  | (at_builtin; refine wpList_append_own _ rfl _ _ 89 rfl w.heap.size 22 i0 (.int .u64 0) 1 8 Try.underlying89 hi hz0 hz1 hz2 rfl (by decide) v2 ((a' + 1) + 1) ((cs.take ((a' + 1))).map eU ++ [eU n]) rfl hown2.out ⟨gR, 0, none⟩ (cs.length - ((a' + 1))) capR ((cs.drop ((a' + 1))).map eU) rfl hml hR6.out hone.out hmx3 hby3 hb5 ?_; intro v3 w6 hown3 hgrow3 _; replace hown3 := Lib.hid hown3; replace hgrow3 := Lib.hid hgrow3))
                go_roundw
                case rel =>
                  refine ⟨k + 1, by omega, by go_num, by rw [hst.out, e1.out, e2.out]; exact hown3.out, ?_⟩
                  have B1 := (T.alloc T.size (.cells #[] 22)).grown hgrowR.out (by have := T.size; simp; omega) (fun j e => by simp [Value.ownBlock] at e; have := T.size; omega)
                  have B2 := (B1.alloc B1.size (.cells #[eU n] 22)).grown hgrow2.out hb3 (fun j e => by simp [Value.ownBlock] at e; omega)
                  exact B2.grown hgrow3.out hb5 (fun j e => (hown2.out.lt j e).1)
                case measure => simp [intOf]; omega
    · have hke : k = xs.length := by omega
      subst hke
      rw [List.take_length] at hown
      go_wp2
      go_ret
      exact ⟨_, rfl, hown, T⟩
theorem kCorners_nil (a : Option Addr) (c : Nat) (w : World) :
    Calls Try.prog 57 #[.slice a 0 c] w fun e w' => ∃ v, e = .returned v ∧ w'.ownsRow w.heap.size 22 1 v 1 [eU 0] ∧ Below w.heap.size w w' := by
  go_enter Try.func57, Try.ntmps57
  go_wp2
  go_loopw [3, 4] (fun s3 s4 wr => s4 = .int .i64 0 ∧ s3 = .slice (some ⟨w.heap.size, 0, none⟩) 1 1 ∧ wr = w.alloc (.cells #[.int .u64 0] 22)) (fun _ _ _ => 0)
  case atStart => exact ⟨rfl, rfl, rfl⟩
  case round =>
    obtain ⟨rfl, rfl, rfl⟩ := hrel
    go_wp2
    go_ret
    exact ⟨_, rfl, ⟨rfl, .inr ⟨w.heap.size, 1, #[eU 0], rfl, Nat.le_refl _, World.alloc_heap_new w _, Nat.le_refl 1, by decide, rfl, rfl⟩⟩, up1 _ _⟩
theorem kCorners_any (xs : List Cv) (a : Option Addr) (n c : Nat) (w : World) (hx : ∀ c ∈ xs, c.word) (hn : xs.length ≤ 1000) (h : IsCvs w a n c xs) :
    Calls Try.prog 57 #[.slice a n c] w fun e w' => ∃ v, e = .returned v ∧ w'.ownsRow w.heap.size 22 1 v (corF xs).length ((corF xs).map eU) ∧ Below w.heap.size w w' := by
  obtain ⟨rfl, h2, h3⟩ := h
  rcases h3 with h3 | ⟨b, o, rfl, h3⟩
  · have e : xs = [] := List.length_eq_zero_iff.1 h3
    subst e
    exact kCorners_nil a c w
  · exact kCorners_of xs b o c w hx hn h3 h2
end Go.Proofs.Ytjbpaapglamilaa
namespace Go.Proofs.Ytjbpaapglamilaa
open W
set_option linter.unusedVariables false
theorem pw_get {cs : List Int} (h : cs.Pairwise (· < ·)) {i j : Nat} (hi : i < cs.length) (hj : j < cs.length) (hij : i < j) : cs[i] < cs[j] := List.pairwise_iff_getElem.1 h i j hi hj hij
theorem head_get (l : List Int) (h : 0 < l.length) : l.head? = some l[0] := by cases l; simp at h; rfl
theorem insF_ok {cs : List Int} {n : Int} (h : cs.Pairwise (· < ·)) (h0 : ∀ x ∈ cs, 0 ≤ x) (hz : cs.head? = some 0) (hn : 0 < n) :
    (insF cs n).Pairwise (· < ·) ∧ (∀ x, x ∈ insF cs n ↔ x ∈ cs ∨ x = n) ∧ (insF cs n).head? = some 0 := by
  obtain ⟨s1, s2⟩ := @posF_spec cs n cs.length (Nat.le_refl _)
  have hp := posF_le cs n cs.length
  have hl : 0 < cs.length := by cases cs; simp at hz; simp
  have hc0 : cs[0] = 0 := by
    have := head_get cs hl
    rw [hz] at this; simpa using this.symm
  unfold insF
  generalize posF cs n cs.length = p at s1 s2 hp ⊢
  have pos : 0 < p := by
    apply Classical.byContradiction
    intro g
    have := s1 0 hl (by omega) (by omega)
    omega
  obtain ⟨q1, q2⟩ := s2 pos
  have eg : cs.getD (p - 1) 0 = cs[p - 1] := by simp [List.getD, List.getElem?_eq_getElem q1]
  by_cases hq : cs[p - 1] = n
  · rw [if_pos ⟨pos, by rw [eg]; exact hq⟩]
    refine ⟨h, fun x => ⟨fun hx => .inl hx, fun hx => ?_⟩, hz⟩
    rcases hx with hx | hx
    · exact hx
    · rw [hx, ← hq]; exact List.getElem_mem q1
  · rw [if_neg (by rw [eg]; exact fun g => hq g.2)]
    have lo : ∀ a ∈ cs.take p, a < n := by
      intro a ha
      obtain ⟨i, hi, rfl⟩ := List.mem_iff_getElem.1 ha
      rw [List.length_take] at hi
      rw [List.getElem_take]
      rcases Nat.lt_or_ge i (p - 1) with g | g
      · have := pw_get h (show i < cs.length by omega) q1 g
        omega
      · have : cs[i]'(by omega) = cs[p - 1] := by congr 1; omega
        omega
    have hi' : ∀ b ∈ cs.drop p, n < b := by
      intro b hb
      obtain ⟨i, hi, rfl⟩ := List.mem_iff_getElem.1 hb
      rw [List.length_drop] at hi
      rw [List.getElem_drop]
      exact s1 (p + i) (by omega) (by omega) (by omega)
    refine ⟨?_, fun x => ?_, ?_⟩
    · rw [List.pairwise_append]
      refine ⟨h.take, List.pairwise_cons.2 ⟨hi', h.drop⟩, fun a ha b hb => ?_⟩
      rcases List.mem_cons.1 hb with hb | hb
      · rw [hb]; exact lo a ha
      · have := lo a ha; have := hi' b hb; omega
    · rw [List.mem_append, List.mem_cons]
      have e : x ∈ cs ↔ x ∈ cs.take p ∨ x ∈ cs.drop p := by rw [← List.mem_append, List.take_append_drop]
      rw [e]
      constructor
      · rintro (g | g | g)
        · exact .inl (.inl g)
        · exact .inr g
        · exact .inl (.inr g)
      · rintro ((g | g) | g)
        · exact .inl g
        · exact .inr (.inr g)
        · exact .inr (.inl g)
    · have : 0 < p := pos
      cases cs with
      | nil => simp at hl
      | cons x xs =>
        cases p with
        | zero => omega
        | succ p => simpa using hz
/-- The corners of xs are cs. -/
def Cok (xs : List Cv) (cs : List Int) : Prop :=
  cs.Pairwise (· < ·) ∧ (∀ x, x ∈ cs ↔ x = 0 ∨ ∃ c ∈ xs, c.may ∧ c.l ≠ 0 ∧ c.l = x) ∧ cs.head? = some 0
theorem corF_ok {xs : List Cv} (hw : ∀ c ∈ xs, c.word) : Cok xs (corF xs) := by
  unfold corF
  suffices hs : ∀ (xs ys : List Cv) (cs : List Int), (∀ c ∈ xs, c.word) → (∀ c ∈ ys, c.word) → Cok ys cs → Cok (ys ++ xs) (xs.foldl (fun cs c => if c.may ∧ c.l ≠ 0 then insF cs c.l else cs) cs) by
    have := hs xs [] [0] hw (by simp) ⟨by simp, by simp, rfl⟩
    simpa using this
  intro xs
  induction xs with
  | nil => intro ys cs _ _ h; simpa using h
  | cons c xs ih =>
    intro ys cs hx hy h
    have hc := hx c (List.mem_cons_self ..)
    rw [show ys ++ c :: xs = (ys ++ [c]) ++ xs by simp, List.foldl_cons]
    refine ih (ys ++ [c]) _ (fun d hd => hx d (List.mem_cons_of_mem _ hd)) (fun d hd => ?_) ?_
    · rcases List.mem_append.1 hd with g | g
      · exact hy d g
      · rw [List.mem_singleton.1 g]; exact hc
    · obtain ⟨h1, h2, h3⟩ := h
      split
      · rename_i hm
        have nn : ∀ x ∈ cs, 0 ≤ x := fun x hx => by
          rcases (h2 x).1 hx with g | ⟨d, hd, _, _, g⟩
          · omega
          · rw [← g]; exact (hy d hd).2.1.1
        have hl0 := hc.2.1.1
        obtain ⟨k1, k2, k3⟩ := insF_ok h1 nn h3 (show 0 < c.l by omega)
        refine ⟨k1, fun x => ?_, k3⟩
        rw [k2, h2]
        constructor
        · rintro ((g | ⟨d, hd, g⟩) | g)
          · exact .inl g
          · exact .inr ⟨d, List.mem_append_left _ hd, g⟩
          · exact .inr ⟨c, List.mem_append_right _ (List.mem_singleton.2 rfl), hm.1, hm.2, g.symm⟩
        · rintro (g | ⟨d, hd, g1, g2, g3⟩)
          · exact .inl (.inl g)
          · rcases List.mem_append.1 hd with q | q
            · exact .inl (.inr ⟨d, q, g1, g2, g3⟩)
            · rw [List.mem_singleton.1 q] at g3; exact .inr g3.symm
      · rename_i hm
        refine ⟨h1, fun x => ?_, h3⟩
        rw [h2]
        constructor
        · rintro (g | ⟨d, hd, g⟩)
          · exact .inl g
          · exact .inr ⟨d, List.mem_append_left _ hd, g⟩
        · rintro (g | ⟨d, hd, g1, g2, g3⟩)
          · exact .inl g
          · rcases List.mem_append.1 hd with q | q
            · exact .inr ⟨d, q, g1, g2, g3⟩
            · rw [List.mem_singleton.1 q] at g1 g2; exact absurd ⟨g1, g2⟩ hm
/-- There is one such row. -/
theorem Cok.unique {xs : List Cv} {a b : List Int} (ha : Cok xs a) (hb : Cok xs b) : a = b := by
  have key : ∀ (a b : List Int), a.Pairwise (· < ·) → b.Pairwise (· < ·) → (∀ x, x ∈ a ↔ x ∈ b) → a = b := by
    intro a
    induction a with
    | nil => intro b _ _ h; cases b with
      | nil => rfl
      | cons y ys => exact absurd ((h y).2 (List.mem_cons_self ..)) (by simp)
    | cons x xs ih =>
      intro b pa pb h
      cases b with
      | nil => exact absurd ((h x).1 (List.mem_cons_self ..)) (by simp)
      | cons y ys =>
        rw [List.pairwise_cons] at pa pb
        have hxy : x = y := by
          rcases List.mem_cons.1 ((h x).1 (List.mem_cons_self ..)) with g | g
          · exact g
          · rcases List.mem_cons.1 ((h y).2 (List.mem_cons_self ..)) with q | q
            · exact q.symm
            · have := pb.1 x g; have := pa.1 y q; omega
        subst hxy
        congr 1
        refine ih ys pa.2 pb.2 fun z => ?_
        constructor
        · intro hz
          rcases List.mem_cons.1 ((h z).1 (List.mem_cons_of_mem _ hz)) with g | g
          · have := pa.1 z hz; omega
          · exact g
        · intro hz
          rcases List.mem_cons.1 ((h z).2 (List.mem_cons_of_mem _ hz)) with g | g
          · have := pb.1 z hz; omega
          · exact g
  exact key a b ha.1 hb.1 (fun x => by rw [ha.2.1, hb.2.1])
/-- The corners, and the last tick. -/
def dF (xs : List Cv) : List Int := corF xs ++ [9223372036854775807]
theorem dF_facts {xs : List Cv} (hw : ∀ c ∈ xs, c.word) : (dF xs).length = (corF xs).length + 1 ∧ (∀ i (h : i < (dF xs).length), 0 ≤ (dF xs)[i] ∧ (dF xs)[i] ≤ 9223372036854775807) ∧
    (∀ h : 0 < (dF xs).length, (dF xs)[0] = 0) ∧ (∀ i (h : i + 1 < (dF xs).length), (dF xs)[i] < (dF xs)[i + 1] ∧ ∀ c ∈ xs, ¬ inside c (dF xs)[i] (dF xs)[i + 1]) ∧ (∀ h : (corF xs).length < (dF xs).length, (dF xs)[(corF xs).length] = 9223372036854775807) := by
  obtain ⟨h1, h2, h3⟩ := corF_ok hw
  have hl := (corF_length xs).2
  have le : ∀ x ∈ corF xs, 0 ≤ x ∧ x ≤ 1099511627776 := fun x hx => by
    rcases (h2 x).1 hx with g | ⟨d, hd, m, _, g⟩
    · omega
    · rw [← g]; exact ⟨(hw d hd).2.1.1, m.2.2.1⟩
  have len : (dF xs).length = (corF xs).length + 1 := by unfold dF; simp
  have at' : ∀ i (h : i < (corF xs).length), (dF xs)[i]'(by omega) = (corF xs)[i] := fun i h => by unfold dF; rw [List.getElem_append_left h]
  have last : ∀ h : (corF xs).length < (dF xs).length, (dF xs)[(corF xs).length] = 9223372036854775807 := fun h => by show (corF xs ++ [(9223372036854775807 : Int)])[(corF xs).length]'(by simp) = _; simp
  refine ⟨len, fun i h => ?_, fun h => ?_, fun i h => ?_, last⟩
  · rcases Nat.lt_or_ge i (corF xs).length with g | g
    · rw [at' i g]; have := le _ (List.getElem_mem g); omega
    · have e : i = (corF xs).length := by omega
      subst e; rw [last h]; omega
  · rw [at' 0 (by omega)]
    have := head_get (corF xs) (by omega)
    rw [h3] at this; simpa using this.symm
  · have hi : i < (corF xs).length := by omega
    rw [at' i hi]
    rcases Nat.lt_or_ge (i + 1) (corF xs).length with g | g
    · rw [at' (i + 1) g]
      have lt := pw_get h1 hi g (by omega)
      refine ⟨lt, fun c hc hin => ?_⟩
      obtain ⟨m, k1, k2⟩ := hin
      have n0 := (le _ (List.getElem_mem hi)).1
      have hm : c.l ∈ corF xs := (h2 _).2 (.inr ⟨c, hc, m, by omega, rfl⟩)
      obtain ⟨j, hj, ej⟩ := List.mem_iff_getElem.1 hm
      rcases Nat.lt_trichotomy j i with q | q | q
      · have := pw_get h1 hj hi q; omega
      · subst q; omega
      · rcases Nat.lt_or_ge (i + 1) j with p | p
        · have := pw_get h1 g hj p; omega
        · have e : j = i + 1 := by omega
          subst e; omega
    · have e : i + 1 = (corF xs).length := by omega
      have el : (dF xs)[i + 1] = 9223372036854775807 := by
        have : (dF xs)[i + 1] = (dF xs)[(corF xs).length]'(by omega) := by congr 1
        rw [this]; exact last (by omega)
      rw [el]
      have := le _ (List.getElem_mem hi)
      refine ⟨by omega, fun c hc hin => ?_⟩
      obtain ⟨m, k1, k2⟩ := hin
      have hm : c.l ∈ corF xs := (h2 _).2 (.inr ⟨c, hc, m, by omega, rfl⟩)
      obtain ⟨j, hj, ej⟩ := List.mem_iff_getElem.1 hm
      rcases Nat.lt_trichotomy j i with q | q | q
      · have := pw_get h1 hj hi q; omega
      · subst q; omega
      · omega
end Go.Proofs.Ytjbpaapglamilaa
