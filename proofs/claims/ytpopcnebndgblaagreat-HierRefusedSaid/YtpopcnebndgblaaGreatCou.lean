/- The curves of a list that may be, gone over in their order: the contract of the iterator. -/
import Derived.Test.YtpopcnebndgblaaGreatColW
import Derived.Test.YtpopcnebndgblaaGreatGK
namespace Go.Proofs.YtpopcnebndgblaaGreat
open Go.RowKit Go.Shelf W
set_option linter.unusedVariables false
attribute [local go_sem] Oper.semAt_some
def cvV (c : Cv) : Value := .agg #[eU c.f, eU c.l, eU c.r]
def cvB (c : Cv) : Bool := mayB c.f c.l c.r
/-- Those that may be. -/
def cnt (xs : List Cv) : List Cv := xs.filter cvB
/-- Curves whose words are words. -/
abbrev CW := { c : Cv // c.word }
def unW (ys : List CW) : List Cv := ys.map (·.1)
def cntW (ys : List CW) : List CW := ys.filter fun c => cvB c.1
theorem unW_cnt (ys : List CW) : unW (cntW ys) = cnt (unW ys) := by
  induction ys with
  | nil => rfl
  | cons c cs ih =>
    unfold unW cntW cnt at ih ⊢
    by_cases hb : cvB c.1 = true
    · rw [List.filter_cons_of_pos (by simpa using hb), List.map_cons, List.map_cons, List.filter_cons_of_pos hb, ih]
    · rw [List.filter_cons_of_neg (by simpa using hb), List.map_cons, List.filter_cons_of_neg hb, ih]
theorem unW_words (ys : List CW) : ∀ c ∈ unW ys, c.word := by
  intro c hc
  obtain ⟨d, _, rfl⟩ := List.mem_map.1 hc
  exact d.2
theorem unW_ex {xs : List Cv} (h : ∀ c ∈ xs, c.word) : ∃ ys : List CW, unW ys = xs := ⟨xs.attachWith _ h, List.attachWith_map_subtype_val _⟩
theorem cnt_take {xs : List CW} {k : Nat} (h : k < xs.length) : cntW (xs.take (k + 1)) = if cvB xs[k].1 then cntW (xs.take k) ++ [xs[k]] else cntW (xs.take k) := by
  unfold cntW
  rw [List.take_succ_eq_append_getElem h, List.filter_append]
  by_cases hb : cvB xs[k].1 = true
  · rw [if_pos hb]; simp [hb]
  · rw [if_neg hb]; simp [hb]
theorem cnt_len (xs : List CW) (k : Nat) : (cntW (xs.take k)).length ≤ k := Nat.le_trans (List.length_filter_le _ _) (by simp; omega)
theorem cnt_prefix {xs : List CW} {k : Nat} : cntW (xs.take k) <+: cntW xs := by
  refine ⟨cntW (xs.drop k), ?_⟩
  unfold cntW
  rw [← List.filter_append, List.take_append_drop]
theorem cnt_all (xs : List CW) : cntW (xs.take xs.length) = cntW xs := by rw [List.take_length]
theorem counted_any (a : Option Addr) (n c : Nat) (w : World) :
    Calls Tryz.prog 116 #[.slice a n c] w fun e w' => e = .returned (.func (.func 125) #[] #[.pointer (some ⟨w.heap.size, 0, none⟩)]) ∧ w' = w.alloc (.cells #[.slice a n c] 113) := by
  go_enter Tryz.func116, Tryz.ntmps116
  go_wp2
  go_ret
  exact ⟨rfl, rfl⟩
set_option maxRecDepth 100000 in
set_option maxHeartbeats 2000000 in
theorem counted_of (n : Nat) (hn : 1 ≤ n) (xs : List CW) (b o c Bm : Nat) (w0 w : World) (hlen : xs.length ≤ 1000) (h0 : CvRow w0 b o (unW xs)) (hc : xs.length ≤ c) (hbw : Below w0.heap.size w0 w) (hBm : Bm < w.heap.size)
    (hm : w.cell? ⟨Bm, 0, none⟩ = some (.slice (some ⟨b, o, none⟩) xs.length c)) :
    SeqStopsK Fence.wide n Tryz.prog 125 #[.pointer (some ⟨Bm, 0, none⟩)] (fun c : CW => #[cvV c.1]) (Below w0.heap.size) (fun ys => ys = cntW xs) (fun pre => pre <+: cntW xs) xs.length w := by
  intro l J Jx W hW hJ hJx hY hJ0
  have hJ' : ∀ pre W W', J pre W → Below W.heap.size W W' → J pre W' := fun pre W W' h hb => hJ pre W W' none h ⟨hb.os, hb.tape, hb.output, hb.size, fun k hk _ => hb.block k hk⟩ (fun r e => by cases e)
  have hmW : W.cell? ⟨Bm, 0, none⟩ = some (.slice (some ⟨b, o, none⟩) xs.length c) := (hW.cell (p := ⟨Bm, 0, none⟩) hBm).trans hm
  have hB0 : Below w0.heap.size w0 W := hbw.trans (hW.mono hbw.size)
  have h0' := Lib.hid h0
  clear hm hbw hW h0
  refine callsIn_of_wp Tryz.func125 rfl trivial ?_ rfl
  simp only [Tryz.ntmps125, List.size_toArray, List.length_cons, List.length_nil, Nat.reduceAdd, Nat.reduceSub, Array.replicate_succ, Array.replicate_zero, List.push_toArray, List.append_toArray, List.nil_append, List.cons_append]
  gi_wp2
  gi_loopw [7] (fun s7 wr => ∃ k : Nat, k ≤ xs.length ∧ s7 = .int .i64 k ∧ J (cntW (xs.take k)) wr ∧ Below w0.heap.size w0 wr) (fun s7 _ => xs.length - (intOf s7).toNat)
  case atStart => exact ⟨0, by omega, rfl, by simpa [cntW] using hJ0, hB0⟩
  case round =>
    obtain ⟨k, hk, rfl, hJk, T⟩ := hrel
    by_cases hlt : k < xs.length
    · have i1 : (k : Int) < (xs.length : Int) := by omega
      have i2 : (0 : Int) ≤ (k : Int) := by omega
      obtain ⟨x1, x2, x3⟩ := (h0'.out.below T).2 k (by simpa [unW] using hlt)
      have eu : (unW xs)[k]'(by simpa [unW] using hlt) = xs[k].1 := by simp [unW]
      rw [eu] at x1 x2 x3
      clear eu
      have ht := cnt_take hlt
      have hle := cnt_len xs k
      have hpre := cnt_prefix (xs := xs) (k := k + 1)
      have hM := fun w => may_any xs[k].1.f xs[k].1.l xs[k].1.r w xs[k].2.1 xs[k].2.2.1 xs[k].2.2.2
      have hYk := fun W' => hY (cntW (xs.take k)) xs[k] W'
      have ev : cvV xs[k].1 = .agg #[eU xs[k].1.f, eU xs[k].1.l, eU xs[k].1.r] := rfl
      rw [ev] at hYk
      clear ev
      have eb : mayB xs[k].1.f xs[k].1.l xs[k].1.r = cvB xs[k].1 := rfl
      obtain ⟨mb, emb⟩ : ∃ mb, cvB xs[k].1 = mb := ⟨_, rfl⟩
      rw [eb, emb] at hM
      rw [emb] at ht
      clear eb emb
      obtain ⟨cv, ecv⟩ : ∃ cv, xs[k] = cv := ⟨_, rfl⟩
      rw [ecv] at x1 x2 x3 hM hYk ht
      clear ecv
      obtain ⟨⟨f, ll, r⟩, hcw⟩ := cv
      dsimp only at x1 x2 x3 hM hYk
      have hYh := Lib.hid hYk
      clear hYk hY
      have hkk : (cntW (xs.take k)).length < xs.length := by omega
      cases mb with
      | false =>
        rw [if_neg (by simp)] at ht
        gi_wp2_with (refine ⟨trivial, ?_⟩; gi_at_call 74; (refine (callsIn_wide.2 (hM _)).mono ?_); rintro e w1 ⟨rfl, hb1⟩; have hB1 := (Box.new wr 32 #[.int .u64 f, .int .u64 ll, .int .u64 r]).below hb1)
        refine ⟨fun _ h => (by cases h), ?_⟩
        gi_wp2
        go_roundw
        case rel => exact ⟨k + 1, by omega, by go_num, by rw [ht]; exact hJ' _ _ _ (hJ' _ _ _ hJk (up1 _ _)) hb1, up T ((up1 wr _).trans (hb1.mono (by simp))) T.size⟩
        case measure => simp [intOf]; omega
      | true =>
        rw [if_pos rfl] at ht
        gi_wp2_with (refine ⟨trivial, ?_⟩; gi_at_call 74; (refine (callsIn_wide.2 (hM _)).mono ?_); rintro e w1 ⟨rfl, hb1⟩; have hB1 := (Box.new wr 32 #[.int .u64 f, .int .u64 ll, .int .u64 r]).below hb1; obtain ⟨_, y1, y2, y3⟩ := hB1.tri; have E1 := up T ((up1 wr _).trans (hb1.mono (by simp))) T.size; have hJ1 := hJ' _ _ _ (hJ' _ _ _ hJk (up1 _ _)) hb1; obtain ⟨fn, tmps, assign, body, hy, hR⟩ := hYh.out w1 hJ1 hkk)
        refine hR.mono ?_
        rintro e W3 (⟨rfl, hJ3, hk3⟩ | ⟨rfl, hJx3⟩)
        · gi_wp2
          go_roundw
          case rel => exact ⟨k + 1, by omega, by go_num, by rw [ht]; exact hJ3, E1.trans hk3⟩
          case measure => simp [intOf]; omega
        · gi_wp2
          refine bodyPost_ret (results_none rfl _ _ _) rfl ?_
          exact ⟨⟨_, rfl⟩, .inr ⟨_, by rw [← ht]; exact hpre, hJx3⟩⟩
    · have hkl : k = xs.length := by omega
      subst hkl
      gi_wp2
      go_end0
      exact ⟨⟨_, rfl⟩, .inl ⟨_, cnt_all xs, hJk⟩⟩
set_option maxRecDepth 100000 in
set_option maxHeartbeats 2000000 in
theorem counted_nil (n : Nat) (hn : 1 ≤ n) (a : Option Addr) (c Bm n₀ : Nat) (w : World) (hBm : Bm < w.heap.size) (hm : w.cell? ⟨Bm, 0, none⟩ = some (.slice a 0 c)) :
    SeqStopsK Fence.wide n Tryz.prog 125 #[.pointer (some ⟨Bm, 0, none⟩)] (fun c : CW => #[cvV c.1]) (Below n₀) (fun ys => ys = cntW []) (fun pre => pre <+: cntW []) 0 w := by
  intro l J Jx W hW hJ hJx hY hJ0
  have hmW : W.cell? ⟨Bm, 0, none⟩ = some (.slice a 0 c) := (hW.cell (p := ⟨Bm, 0, none⟩) hBm).trans hm
  refine callsIn_of_wp Tryz.func125 rfl trivial ?_ rfl
  simp only [Tryz.ntmps125, List.size_toArray, List.length_cons, List.length_nil, Nat.reduceAdd, Nat.reduceSub, Array.replicate_succ, Array.replicate_zero, List.push_toArray, List.append_toArray, List.nil_append, List.cons_append]
  gi_wp2
  gi_loopw [7] (fun s7 wr => s7 = .int .i64 0 ∧ J [] wr) (fun s7 _ => 0)
  case atStart => exact ⟨rfl, hJ0⟩
  case round =>
    obtain ⟨rfl, hJk⟩ := hrel
    gi_wp2
    go_end0
    exact ⟨⟨_, rfl⟩, .inl ⟨_, rfl, hJk⟩⟩
theorem counted_go (n : Nat) (hn : 1 ≤ n) (xs : List CW) (a : Option Addr) (k c Bm : Nat) (w0 w : World) (hlen : xs.length ≤ 1000) (h0 : IsCvs w0 a k c (unW xs)) (hbw : Below w0.heap.size w0 w) (hBm : Bm < w.heap.size)
    (hm : w.cell? ⟨Bm, 0, none⟩ = some (.slice a k c)) :
    SeqStopsK Fence.wide n Tryz.prog 125 #[.pointer (some ⟨Bm, 0, none⟩)] (fun c : CW => #[cvV c.1]) (Below w0.heap.size) (fun ys => ys = cntW xs) (fun pre => pre <+: cntW xs) xs.length w := by
  obtain ⟨h1, h2, h3⟩ := h0
  have h1 : xs.length = k := by simpa [unW] using h1
  rcases h3 with h3 | ⟨b, o, rfl, hr⟩
  · subst h3
    obtain rfl := List.eq_nil_of_length_eq_zero h1
    exact counted_nil n hn a c Bm w0.heap.size w hBm hm
  · subst h1
    exact counted_of n hn xs b o c Bm w0 w hlen hr h2 hbw hBm hm
end Go.Proofs.YtpopcnebndgblaaGreat
