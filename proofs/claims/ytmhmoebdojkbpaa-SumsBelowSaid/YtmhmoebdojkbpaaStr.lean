/- The stretches of a sum, gone over one behind the other: the contract of the program's iterator. -/
import Derived.Test.YtmhmoebdojkbpaaRg8
namespace Go.Proofs.Ytmhmoebdojkbpaa
open Go.RowKit Go.Shelf Go.Maps W
set_option linter.unusedVariables false
attribute [local go_sem] Oper.semAt_some
/-- How far the stretches have come. -/
def Cov (l : List (Int × Int)) : Int := match l.getLast? with | none => 0 | some x => x.2
theorem Cov_snoc (l : List (Int × Int)) (x : Int × Int) : Cov (l ++ [x]) = x.2 := by simp [Cov]
/-- What may come next. -/
def Nx (ys : List Cv) (pre : List (Int × Int)) (x : Int × Int) : Prop := x.1 = Cov pre ∧ 0 ≤ x.1 ∧ x.1 < x.2 ∧ x.2 ≤ 9223372036854775807 ∧ Clear ys x.1 x.2
/-- The ends of the stretches. -/
structure Ends (ys : List Cv) (cs : List Int) : Prop where
  rise : cs.Pairwise (· < ·)
  pos : ∀ x ∈ cs, 0 < x ∧ x ≤ 9223372036854775807
  last : ∃ ts, cs = ts ++ [9223372036854775807]
  all : ∀ c ∈ ys, c.l = 0 ∨ c.l ∈ cs
def frm (cs : List Int) (i : Nat) : Int := if i = 0 then 0 else cs.getD (i - 1) 0
theorem Ends.at {ys : List Cv} {cs : List Int} (h : Ends ys cs) {i : Nat} (hi : i < cs.length) : 0 ≤ frm cs i ∧ frm cs i < cs.getD i 0 ∧ cs.getD i 0 ≤ 9223372036854775807 ∧ Clear ys (frm cs i) (cs.getD i 0) := by
  have g : ∀ j (hj : j < cs.length), cs.getD j 0 = cs[j] := fun j hj => by simp [List.getD, List.getElem?_eq_getElem hj]
  have hp := h.pos cs[i] (List.getElem_mem hi)
  have hlt : frm cs i < cs.getD i 0 ∧ 0 ≤ frm cs i := by
    unfold frm
    split
    · rw [g i hi]; omega
    · rename_i h0
      have := List.pairwise_iff_getElem.1 h.rise (i - 1) i (by omega) hi (by omega)
      have hq := h.pos cs[i - 1] (List.getElem_mem (by omega))
      rw [g i hi, g (i - 1) (by omega)]; omega
  refine ⟨hlt.2, hlt.1, by rw [g i hi]; exact hp.2, fun c hc => ?_⟩
  rcases h.all c hc with h0 | hm
  · left; omega
  · obtain ⟨j, hj, ej⟩ := List.getElem_of_mem hm
    rw [g i hi, ← ej]
    by_cases hji : j < i
    · left
      unfold frm
      rw [if_neg (by omega), g (i - 1) (by omega)]
      by_cases e : j = i - 1
      · subst e; exact Int.le_refl _
      · exact Int.le_of_lt (List.pairwise_iff_getElem.1 h.rise j (i - 1) hj (by omega) (by omega))
    · right
      by_cases e : i = j
      · subst e; exact Int.le_refl _
      · exact Int.le_of_lt (List.pairwise_iff_getElem.1 h.rise i j hi hj (by omega))
theorem ends_of {ys : List Cv} (hg : Good ys) {ts : List Int} (hp : ts.Pairwise (· < ·)) (hm : ∀ x, x ∈ ts ↔ (kF ys x ∧ x ≠ 0)) : Ends ys (ts ++ [9223372036854775807]) := by
  have hb : ∀ x ∈ ts, 0 < x ∧ x ≤ 1099511627776 := fun x hx => by
    obtain ⟨h1 | ⟨c, hc, e⟩, h2⟩ := (hm x).1 hx
    · exact absurd h1 h2
    · have := small (hg c hc); omega
  refine ⟨List.pairwise_append.2 ⟨hp, by simp, fun a ha b hb' => by have := hb a ha; simp at hb'; omega⟩, fun x hx => ?_, ⟨ts, rfl⟩, fun c hc => ?_⟩
  · rcases List.mem_append.1 hx with h | h
    · have := hb x h; omega
    · simp at h; omega
  · by_cases h0 : c.l = 0
    · exact .inl h0
    · exact .inr (List.mem_append_left _ ((hm c.l).2 ⟨.inr ⟨c, hc, rfl⟩, h0⟩))
theorem stretches_any (a : Option Addr) (n c : Nat) (w : World) :
    Calls Try.prog 36 #[.slice a n c] w fun e w' => e = .returned (.func (.func 52) #[] #[.pointer (some ⟨w.heap.size, 0, none⟩)]) ∧ w' = w.alloc (.cells #[.slice a n c] 22) := by
  go_enter Try.func36, Try.ntmps36
  go_wp2
  go_ret
  exact ⟨rfl, rfl⟩
set_option maxRecDepth 100000 in
theorem fieldU (x y : Int) (w : World) : (Instr.field 60 (.agg #[eU x, eU y]) 0).run Try.prog w = .ok (eU x) w := by rfl
set_option maxRecDepth 100000 in
theorem fieldV (x y : Int) (w : World) : (Instr.field 60 (.agg #[eU x, eU y]) 1).run Try.prog w = .ok (eU y) w := by rfl
theorem MapB.block {w w' : World} {b nn : Nat} {U V : Int → Int} {K : Int → Prop} (h : MapB w b nn U V K) (hb : w'.heap[b]? = w.heap[b]?) : MapB w' b nn U V K := by
  obtain ⟨D, ⟨es, clock, h1, h2⟩, h3⟩ := h
  exact ⟨D, ⟨es, clock, hb.trans h1, h2⟩, h3⟩
theorem owns_block {w w' : World} {base g n cap k : Nat} {zs : List Value} (h : w.ownsRow base 23 1 (.slice (some ⟨g, 0, none⟩) n cap) k zs) (hb : w'.heap[g]? = w.heap[g]?) : w'.ownsRow base 23 1 (.slice (some ⟨g, 0, none⟩) n cap) k zs := by
  refine ⟨h.1, ?_⟩
  rcases h.2 with ⟨e, _⟩ | ⟨g', cap', cur, e, h2, h3, h4⟩
  · cases e
  · cases e
    exact .inr ⟨g, cap, cur, rfl, h2, hb.trans h3, h4⟩
theorem box_set {W : World} {B : Nat} {vs : Array Value} {t : TypeId} (h : Box W B vs t) (i : Nat) (v : Value) : Box (W.setCell ⟨B, i, none⟩ v) B (vs.setIfInBounds i v) t := by
  have hlt := h.lt
  have hb : W.heap[B]? = some (.cells vs t (0, 0)) := h
  unfold Box
  rw [Go.Sort.setCell_eq]
  simp [Go.Sort.mapBlock, Array.getElem?_modify, hb, Go.Sort.onCells]
theorem box5 {W : World} {B : Nat} {a b c d e : Value} {t : TypeId} (h : Box W B #[a, b, c, d, e] t) (p q r s u : Value) :
    Box (((((W.setCell ⟨B, 0, none⟩ p).setCell ⟨B, 1, none⟩ q).setCell ⟨B, 2, none⟩ r).setCell ⟨B, 3, none⟩ s).setCell ⟨B, 4, none⟩ u) B #[p, q, r, s, u] t := by
  have := box_set (box_set (box_set (box_set (box_set h 0 p) 1 q) 2 r) 3 s) 4 u
  simpa using this
theorem set5_other {X : World} {B g : Nat} (h : g ≠ B) (p q r s u : Value) : (((((X.setCell ⟨B, 0, none⟩ p).setCell ⟨B, 1, none⟩ q).setCell ⟨B, 2, none⟩ r).setCell ⟨B, 3, none⟩ s).setCell ⟨B, 4, none⟩ u).heap[g]? = X.heap[g]? :=
  (Below.heap_setCell _ _ _ g h).trans ((Below.heap_setCell _ _ _ g h).trans ((Below.heap_setCell _ _ _ g h).trans ((Below.heap_setCell _ _ _ g h).trans (Below.heap_setCell _ _ _ g h))))
theorem one_new (w : World) (x : Int) : ∀ j u, [eU x][j]? = some u → (w.alloc (.cells #[eU x] 23)).cell? ((⟨w.heap.size, 0, none⟩ : Addr).add j) = some u := by
  intro j u hj
  have hb : (w.alloc (.cells #[eU x] 23)).heap[w.heap.size]? = some (.cells #[eU x] 23 (0, 0)) := World.alloc_heap_new w _
  exact World.news_of_block hb j u (by simpa using hj)
set_option maxRecDepth 100000 in
set_option maxHeartbeats 4000000 in
theorem stretches_go (m : Nat) (hsort : SortU m) (n : Nat) (hn9 : 9 ≤ n) (xs : List CW) (hxl : xs.length ≤ 400) (hxm : xs.length + 1 ≤ m) (a : Option Addr) (k c Bm n₀ : Nat) (w0 w : World) (h : IsCvs w0 a k c (unW xs)) (hbw : Below w0.heap.size w0 w) (hBm : Bm < w.heap.size)
    (hm : w.cell? ⟨Bm, 0, none⟩ = some (.slice a k c)) :
    SeqC n 52 #[.pointer (some ⟨Bm, 0, none⟩)] (fun x : Int × Int => #[strV (unW (cntW xs)) x.1 x.2]) n₀ (fun ss => Cov ss = 9223372036854775807) (fun _ => True) (Nx (unW (cntW xs))) w := by
  intro l J Jx W hW hJ hJx hY hJ0
  have hmW : W.cell? ⟨Bm, 0, none⟩ = some (.slice a k c) := (hW.cell (p := ⟨Bm, 0, none⟩) hBm).trans hm
  have h1 : IsCvs W a k c (unW xs) := h.below (hbw.trans (hW.mono hbw.size))
  have hJ' : ∀ pre W' W'', J pre W' → Below W'.heap.size W' W'' → J pre W'' := fun pre W' W'' h hb => hJ pre W' W'' none h ⟨hb.os, hb.tape, hb.output, hb.size, fun k hk _ => hb.block k hk⟩ (fun r e => by cases e)
  have hg : Good (unW (cntW xs)) := by rw [unW_cnt]; exact good_cnt (unW_words xs)
  have hyl : (unW (cntW xs)).length ≤ xs.length := by unfold unW; rw [List.length_map]; exact List.length_filter_le _ _
  have hyn : (unW (cntW xs)).length ≤ 1000 := by omega
  have cB := bends_of xs a k c W (by omega) h1 (n - 1) (by omega)
  have hk1 : ∀ x, (kF (unW (cntW xs)) x ∧ x ≠ 0) → kF (unW (cntW xs)) x := fun x h => h.1
  have hwd := unW_words (cntW xs)
  obtain ⟨eu, ev⟩ := uv_eq hg hyn
  have hs0 : slF (unW (cntW xs)) 0 = uF (unW (cntW xs)) 0 := by rw [eu, slF_zero hg]
  have hz0 : sW (unW (cntW xs)) 0 = 0 := sW_zero hwd
  have hpl : (unW (cntW xs)).length + 1 ≤ m := by omega
  generalize unW (cntW xs) = ys at *
  have hnn : ∀ nn, nn ≤ 1 + 2 * xs.length → nn ≤ 1000 := fun nn h => by omega
  have hts : ∀ ts : List Int, ts.Pairwise (· < ·) → (∀ x, x ∈ ts ↔ (kF ys x ∧ x ≠ 0)) → ts.length + 1 ≤ 5000 ∧ (ts.length + 1) * 8 ≤ 140737488355328 ∧ Ends ys (ts ++ [9223372036854775807]) := fun ts hp hmem => by
    have := kF_len (pre := ys) (ss := ts) (hp.imp (fun h => by omega)) (fun x hx => ((hmem x).1 hx).1)
    exact ⟨by omega, by omega, ends_of hg hp hmem⟩
  clear h hbw hW hm hxl hxm hyl
  have h1n : 1 ≤ n := by omega
  obtain ⟨s0, es0⟩ : ∃ s0, uF ys 0 = s0 := ⟨_, rfl⟩
  obtain ⟨d0, ed0⟩ : ∃ d0, vF ys 0 = d0 := ⟨_, rfl⟩
  have es := Lib.hid es0
  have ed := Lib.hid ed0
  clear es0 ed0
  have fU := fieldU
  have fV := fieldV
  have n5 : 5 ≤ n - 1 := by omega
  obtain ⟨i0, hi, hi0, hi1, hi2⟩ := info_parts infoU
  have hmx : ∀ k, k ≤ 5000 → k ≤ maxLen := fun k hk => Nat.le_trans hk (by decide)
  refine callsIn_of_wp Try.func52 rfl trivial ?_ rfl
  simp only [Try.ntmps52, List.size_toArray, List.length_cons, List.length_nil, Nat.reduceAdd, Nat.reduceSub, Array.replicate_succ, Array.replicate_zero, List.push_toArray, List.append_toArray, List.nil_append, List.cons_append]
  gi_wp2_with (first
    | (refine ⟨trivial, ?_⟩; gi_at_call 35; refine cB.mono ?_; rintro e w1 ⟨rfl, ⟨nn, hnl, hM⟩, hb1, hlt1⟩
       have cS := Box.new w1 66 #[eU 0, eU 0, eU s0, eU 0, eU 0]
       have hnn' := hnn nn hnl)
    | (refine look_b rfl _ _ rfl hM rfl 0 s0 d0 rfl Go.Proofs.Ytmhmoebdojkbpaa.w0 es.out ed.out ?_)
    | (refine del_b rfl _ _ rfl (hM.alloc _) rfl 0 rfl Go.Proofs.Ytmhmoebdojkbpaa.w0 ?_
       intro w2 hM2 hg2
       have cK := keys_any (some W.heap.size) w2
       have bX := Boxed.new w2 58 (.map (some W.heap.size))
       have cS2 := keys_sorted m hsort (n - 1) n5 ys hwd hpl W.heap.size w2.heap.size nn hnn' _ _ _ hk1 _ (hM2.alloc (.cells #[.map (some W.heap.size)] 58)) (by simp) bX.cell)
    | (refine ⟨trivial, ?_⟩; gi_at_call 34; refine (callsIn_wide.2 cK).mono ?_; rintro e w3 ⟨rfl, rfl⟩)
    | (refine ⟨trivial, ?_⟩; gi_at_call 33; refine cS2.mono ?_; rintro e w4 ⟨v, ts, rfl, hp, hmem, hrow, hb4⟩
       obtain ⟨kt1, kt2, hEnds⟩ := hts ts hp hmem)
    | (gi_at_builtin
       refine app_lies _ rfl _ _ 28 rfl (w2.alloc (.cells #[.map (some W.heap.size)] 58)).heap.size 23 i0 (.int .u64 0) 1 8 Try.underlying28 hi hi0 hi1 hi2 rfl (by decide) _ _ _ rfl (hrow.alloc _) ⟨w4.heap.size, 0, none⟩ 1 1 [eU 9223372036854775807] rfl rfl (one_new _ _) (by simp [Value.oneCell']) (by decide) (hmx _ kt1) kt2 (Nat.le_trans hb4.size (up1 _ _).size) ?_
       intro g cap w5 hown5 hgrow5 hlie5))
  obtain ⟨hb, hbw⟩ : ∃ b, W.heap.size = b := ⟨_, rfl⟩
  have hbB : W.heap.size < w1.heap.size := hlt1
  have z2 := hg2.size
  rw [World.size_alloc] at z2
  have hvb : ∀ q, q < w2.heap.size + 1 → some q ≠ v.ownBlock := fun q hq e => by
    have := (hrow.lt q e.symm).1
    rw [World.size_alloc] at this
    omega
  have z4 := hb4.size
  rw [World.size_alloc] at z4
  have BS : Box w5 w1.heap.size #[eU 0, eU 0, eU s0, eU 0, eU 0] 66 := by
    have e1 : Box w2 w1.heap.size #[eU 0, eU 0, eU s0, eU 0, eU 0] 66 := (hg2.block _ cS.lt (fun e => by have := Option.some.inj e; omega)).trans cS
    have e3 := ((e1.alloc (.cells #[.map (some W.heap.size)] 58)).below hb4).alloc (.cells #[eU 9223372036854775807] 23)
    exact (hgrow5.block _ e3.lt (hvb _ (by omega))).trans e3
  have M5 := (((hM2.alloc (.cells #[.map (some W.heap.size)] 58)).below hb4).alloc (.cells #[eU 9223372036854775807] 23)).kept hgrow5 (hvb _ (by omega))
  have J5 : J [] w5 := by
    have j1 := hJ' _ _ _ hJ0 hb1
    have j2 := hJ' _ _ _ j1 (up1 w1 (.cells #[eU 0, eU 0, eU s0, eU 0, eU 0] 66))
    have j3 := hJ _ _ _ _ j2 hg2 (fun r e => by cases e; exact Nat.le_refl _)
    have j4 := hJ' _ _ _ j3 (up1 w2 (.cells #[.map (some W.heap.size)] 58))
    have j5 := hJ' _ _ _ j4 hb4
    have j6 := hJ' _ _ _ j5 (up1 w4 (.cells #[eU 9223372036854775807] 23))
    exact hJ _ _ _ _ j6 hgrow5 (fun r e => by
      have := (hrow.lt r e).1
      rw [World.size_alloc] at this
      omega)
  have z5 := hgrow5.size
  rw [World.size_alloc] at z5
  have hg5 : W.heap.size ≤ g := by
    rcases hlie5 with e | e
    · have := (hrow.lt g e).1
      rw [World.size_alloc] at this
      omega
    · rw [World.size_alloc] at e; omega
  have hz5 : W.heap.size ≤ w5.heap.size := by omega
  have eBs : W.heap.size ≤ w1.heap.size := by omega
  have hlast : (ts ++ [(9223372036854775807 : Int)]).length = ts.length + 1 := by simp
  have row5 : w5.ownsRow (w2.alloc (.cells #[.map (some W.heap.size)] 58)).heap.size 23 1 (.slice (some ⟨g, 0, none⟩) (ts.length + 1) cap) (ts ++ [(9223372036854775807 : Int)]).length ((ts ++ [(9223372036854775807 : Int)]).map eU) := by
    rw [hlast]; simpa using hown5
  have hcs : ∃ q, ts ++ [(9223372036854775807 : Int)] = q ++ [9223372036854775807] := ⟨ts, rfl⟩
  generalize ts ++ [(9223372036854775807 : Int)] = cs at *
  generalize hBs : w1.heap.size = Bs at *
  generalize (w2.alloc (.cells #[.map (some W.heap.size)] 58)).heap.size = base at *
  have hJx' := hJx
  have hcl : cs.length ≤ 5000 := by rw [hlast]; exact kt1
  clear cB cK cS cS2 bX hb1 hlt1 hM hM2 hg2 hrow hb4 hown5 hgrow5 hlie5 hvb z2 z4 z5 hmem hp kt1 kt2 hts hbw hJ0 h1 hk1 hwd hpl hmW hsort hnn hnn' hJx' hBs
  gi_loopw [20] (fun s20 wr => ∃ (i : Nat) (pre : List (Int × Int)) (z : Int), s20 = .int .i64 i ∧ i ≤ cs.length ∧ J pre wr ∧ Cov pre = frm cs i ∧ Box wr Bs #[eU (frm cs i), eU z, eU (slF ys (frm cs i)), eU (hiW (sW ys (frm cs i))), eU (loW (sW ys (frm cs i)))] 66 ∧ MapB wr W.heap.size nn (fun j => if j = 0 then 0 else uF ys j) (fun j => if j = 0 then 0 else vF ys j) (fun j => kF ys j ∧ j ≠ 0) ∧ wr.ownsRow base 23 1 (.slice (some ⟨g, 0, none⟩) (ts.length + 1) cap) cs.length (cs.map eU) ∧ W.heap.size ≤ wr.heap.size) (fun s20 _ => cs.length - (intOf s20).toNat)
  case atStart =>
    refine ⟨0, [], 0, rfl, by omega, J5, rfl, ?_, M5, row5, hz5⟩
    have : frm cs 0 = 0 := rfl
    rw [this, hs0, es.out, hz0]
    exact BS
  case round =>
    obtain ⟨i, pre, z, rfl, hic, hJp, hcov, BS1, M1, row1, hz1⟩ := hrel
    by_cases hlt : i < cs.length
    · have i1 : (i : Int) < (ts.length : Int) + 1 := by omega
      have i2 : (0 : Int) ≤ (i : Int) := by omega
      obtain ⟨hF0, hFk, hkl, hclr⟩ := hEnds.at hlt
      have rowc := owns_cell row1 hlt
      have hfrm : frm cs (i + 1) = cs.getD i 0 := by simp [frm]
      have hBSlt := BS1.lt
      have hbg : g < wr.heap.size := (row1.lt g rfl).2
      have hMlt := M1.lt
      have hgB : g ≠ Bs := by
        rcases owns_ne row1 BS1 (by decide) with e | e
        · cases e
        · intro e'; exact e (by rw [e']; rfl)
      have hY1 := hY pre (frm cs i, cs.getD i 0) (wr.setCell ⟨Bs, 1, none⟩ (eU (cs.getD i 0))) (by simp [World.setCell]; exact hz1) (hJ _ _ _ _ hJp (put_grown wr Bs 1 _) (fun r e => by cases e; exact eBs)) ⟨hcov.symm, hF0, hFk, hkl, hclr⟩
      have cE := fun w => end_sum hg hyn hF0 hFk hkl hclr w
      have hstep := slF_step hg hF0 hFk hclr
      have b1 := slF_le hg (frm cs i)
      have b2 := pU_le hg (cs.getD i 0)
      have b3 := pV_le hg (cs.getD i 0)
      have b4 := slF_le hg (cs.getD i 0)
      have m1 : (ys.length : Int) * 1048576 ≤ 1000 * 1048576 := Int.mul_le_mul_of_nonneg_right (by omega) (by omega)
      have m2 : (ys.length : Int) * 2097152 ≤ 1000 * 2097152 := Int.mul_le_mul_of_nonneg_right (by omega) (by omega)
      have eUk : (if cs.getD i 0 = 0 then 0 else uF ys (cs.getD i 0)) = pU ys (cs.getD i 0) := by rw [if_neg (by omega), eu]
      have eVk : (if cs.getD i 0 = 0 then 0 else vF ys (cs.getD i 0)) = pV ys (cs.getD i 0) := by rw [if_neg (by omega), ev]
      have hkw : Word (cs.getD i 0) := ⟨by omega, by omega⟩
      have hlk : ∀ w', MapB w' W.heap.size nn (fun j => if j = 0 then 0 else uF ys j) (fun j => if j = 0 then 0 else vF ys j) (fun j => kF ys j ∧ j ≠ 0) → (Instr.lookup 58 (.map (some W.heap.size)) (eU (cs.getD i 0)) false).run Try.prog w' = .ok (.agg #[eU (pU ys (cs.getD i 0)), eU (pV ys (cs.getD i 0))]) w' := fun w' hM' => hM'.look hkw eUk eVk
      have hg1 : IntKind.u64.wrap (slF ys (frm cs i) + pU ys (cs.getD i 0)) = slF ys (frm cs i) + pU ys (cs.getD i 0) := wrapU ⟨by omega, by omega⟩
      have hg2 : IntKind.u64.wrap (slF ys (frm cs i) + pU ys (cs.getD i 0) - pV ys (cs.getD i 0)) = slF ys (cs.getD i 0) := by rw [hstep]; exact wrapU ⟨by omega, by omega⟩
      obtain ⟨pr, epr⟩ : ∃ pr, pre ++ [(frm cs i, cs.getD i 0)] = pr := ⟨_, rfl⟩
      have hcov2 : Cov pr = cs.getD i 0 := by rw [← epr, Cov_snoc]
      dsimp only [strV] at hY1 cE
      rw [epr] at hY1
      clear eUk eVk hstep b1 b2 b3 b4 m1 m2 hcov hEnds epr hkw hlast hcs hclr
      have hLk := Lib.hid hlk
      have hNext : ∀ {w' : World}, J pr w' → Box w' Bs #[eU (cs.getD i 0), eU 0, eU (slF ys (cs.getD i 0)), eU (hiW (sW ys (cs.getD i 0))), eU (loW (sW ys (cs.getD i 0)))] 66 → MapB w' W.heap.size nn (fun j => if j = 0 then 0 else uF ys j) (fun j => if j = 0 then 0 else vF ys j) (fun j => kF ys j ∧ j ≠ 0) → w'.ownsRow base 23 1 (.slice (some ⟨g, 0, none⟩) (ts.length + 1) cap) cs.length (cs.map eU) → W.heap.size ≤ w'.heap.size →
          ∃ (i' : Nat) (pre : List (Int × Int)) (z : Int), (Value.int .i64 ((i : Int) + 1)) = .int .i64 i' ∧ i' ≤ cs.length ∧ J pre w' ∧ Cov pre = frm cs i' ∧ Box w' Bs #[eU (frm cs i'), eU z, eU (slF ys (frm cs i')), eU (hiW (sW ys (frm cs i'))), eU (loW (sW ys (frm cs i')))] 66 ∧ MapB w' W.heap.size nn (fun j => if j = 0 then 0 else uF ys j) (fun j => if j = 0 then 0 else vF ys j) (fun j => kF ys j ∧ j ≠ 0) ∧ w'.ownsRow base 23 1 (.slice (some ⟨g, 0, none⟩) (ts.length + 1) cap) cs.length (cs.map eU) ∧ W.heap.size ≤ w'.heap.size := fun {w'} a1 a2 a3 a4 a5 =>
        ⟨i + 1, pr, 0, by go_num, by omega, a1, by rw [hfrm]; exact hcov2, by rw [hfrm]; exact a2, a3, a4, a5⟩
      have hN : Hid (∀ w' : World, J pr w' → Box w' Bs #[eU (cs.getD i 0), eU 0, eU (slF ys (cs.getD i 0)), eU (hiW (sW ys (cs.getD i 0))), eU (loW (sW ys (cs.getD i 0)))] 66 → MapB w' W.heap.size nn (fun j => if j = 0 then 0 else uF ys j) (fun j => if j = 0 then 0 else vF ys j) (fun j => kF ys j ∧ j ≠ 0) → w'.ownsRow base 23 1 (.slice (some ⟨g, 0, none⟩) (ts.length + 1) cap) cs.length (cs.map eU) → W.heap.size ≤ w'.heap.size →
          ∃ (i' : Nat) (pre : List (Int × Int)) (z : Int), (Value.int .i64 ((i : Int) + 1)) = .int .i64 i' ∧ i' ≤ cs.length ∧ J pre w' ∧ Cov pre = frm cs i' ∧ Box w' Bs #[eU (frm cs i'), eU z, eU (slF ys (frm cs i')), eU (hiW (sW ys (frm cs i'))), eU (loW (sW ys (frm cs i')))] 66 ∧ MapB w' W.heap.size nn (fun j => if j = 0 then 0 else uF ys j) (fun j => if j = 0 then 0 else vF ys j) (fun j => kF ys j ∧ j ≠ 0) ∧ w'.ownsRow base 23 1 (.slice (some ⟨g, 0, none⟩) (ts.length + 1) cap) cs.length (cs.map eU) ∧ W.heap.size ≤ w'.heap.size) := fun w' => hNext
      clear hNext hlk hfrm hcov2 hF0 hFk hkl
      generalize cs.getD i 0 = kx at *
      generalize frm cs i = F at *
      generalize slF ys F = sg at *
      generalize hiW (sW ys F) = h0 at *
      generalize loW (sW ys F) = l0 at *
      generalize pU ys kx = uk at *
      generalize pV ys kx = dk at *
      generalize slF ys kx = sg2 at *
      generalize hiW (sW ys kx) = h2 at *
      generalize loW (sW ys kx) = l2 at *
      obtain ⟨fn, tmps, assign, body, hy, hR⟩ := hY1
      obtain ⟨o0, o1, o2, o3, o4, o5⟩ := Fv.of_box BS1
      have q0 := BS1.frz 1
      have BSs := box_set BS1 1 (eU kx)
      have BSs' : Box (wr.setCell ⟨Bs, 1, none⟩ (eU kx)) Bs #[eU F, eU kx, eU sg, eU h0, eU l0] 66 := by simpa using BSs
      have Ms := M1.put (show W.heap.size ≠ Bs by omega) 1 (eU kx)
      have rows := row1.kept (put_grown wr Bs 1 (eU kx)) (owns_ne row1 BS1 (by decide))
      have zs : (wr.setCell ⟨Bs, 1, none⟩ (eU kx)).heap.size = wr.heap.size := by simp [World.setCell]
      clear BSs BS1 M1 row1 hJp
      gi_wp2
      refine hR.mono ?_
      rintro e W3 (⟨rfl, hJ3, hk3⟩ | ⟨rfl, hJx3⟩)
      · have B3 : Box W3 Bs #[eU F, eU kx, eU sg, eU h0, eU l0] 66 := (hk3.2 Bs eBs BSs'.lt).trans BSs'
        have M3 := Ms.block (hk3.2 W.heap.size (Nat.le_refl _) Ms.lt)
        have r3 := owns_block rows (hk3.2 g hg5 (rows.lt g rfl).2)
        have hz3 : W.heap.size ≤ W3.heap.size := by have := hk3.size; omega
        clear hR hy hk3 BSs' Ms rows zs rowc o0 o1 o2 o3 o4 o5 q0
        have nWB : W.heap.size ≠ Bs := by omega
        gi_wp2
        refine wpIn_wide.2 ?_
        refine reg8 W.heap.size Bs F kx sg h0 l0 uk dk sg2 h2 l2 W3 _ _ _ _ _ _ _ _ _ _ _ _ _ _ _ _ _ _ _ _ _ _ _ _ _ _ _ _ _ _ _ _ _ _ _ _ _ _ _ _ _ _ _ _ _ (by exact fun _ _ _ _ _ h => h) (fun w' => MapB w' W.heap.size nn (fun j => if j = 0 then 0 else uF ys j) (fun j => if j = 0 then 0 else vF ys j) (fun j => kF ys j ∧ j ≠ 0)) (fun w w' h hb => h.below hb) (fun w h => h) (fun w i v h => h.put nWB i v) hLk.out fU fV hg1 hg2 cE B3 M3 ?_
        intro y30 y31 y32 y33 y34 y35 y36 y37 y38 y39 y40 y41 y42 y43 y44 y45 w6 T
        have B6 := box5 (B3.below T) (eU kx) (eU 0) (eU sg2) (eU h2) (eU l2)
        have M6 := (((((M3.below T).put nWB 0 (eU kx)).put nWB 1 (eU 0)).put nWB 2 (eU sg2)).put nWB 3 (eU h2)).put nWB 4 (eU l2)
        have r6 := owns_block (owns_below r3 T) (set5_other (X := w6) hgB (eU kx) (eU 0) (eU sg2) (eU h2) (eU l2))
        have jp : ∀ (X : World) (i : Nat) (v : Value), J pr X → J pr (X.setCell ⟨Bs, i, none⟩ v) := fun X i v hj => hJ _ _ _ _ hj (put_grown X Bs i v) (fun r e => by cases e; exact eBs)
        have J6 := jp _ 4 (eU l2) (jp _ 3 (eU h2) (jp _ 2 (eU sg2) (jp _ 1 (eU 0) (jp _ 0 (eU kx) (hJ' _ _ _ hJ3 T)))))
        have z6 : W.heap.size ≤ (((((w6.setCell ⟨Bs, 0, none⟩ (eU kx)).setCell ⟨Bs, 1, none⟩ (eU 0)).setCell ⟨Bs, 2, none⟩ (eU sg2)).setCell ⟨Bs, 3, none⟩ (eU h2)).setCell ⟨Bs, 4, none⟩ (eU l2)).heap.size := by
          simp only [World.setCell, Array.size_modify]
          exact Nat.le_trans hz3 T.size
        have R6 := hN.out _ J6 B6 M6 r6 z6
        clear B6 M6 r6 jp J6 z6 hN hLk
        gi_wp2
        go_roundw
        case rel => exact R6
        case measure => simp [intOf]; omega
      · gi_wp2
        refine bodyPost_ret (results_none rfl _ _ _) rfl ?_
        exact ⟨⟨_, rfl⟩, .inr ⟨_, trivial, hJx3⟩⟩
    · have hil : i = cs.length := by omega
      have i1 : ¬ (i : Int) < (ts.length : Int) + 1 := by omega
      have hcovL : Cov pre = 9223372036854775807 := by
        obtain ⟨q, rfl⟩ := hcs
        rw [hcov, hil]
        simp [frm]
      gi_wp2
      go_end0
      exact ⟨⟨_, rfl⟩, .inl ⟨pre, hcovL, hJp⟩⟩
end Go.Proofs.Ytmhmoebdojkbpaa
