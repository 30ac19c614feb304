/- The program's corners, in their order. No condition but words, how many curves there are, and what the sort is said to do. -/
import Derived.Test.YtpopcnebndgblaaGreatBen
namespace Go.Proofs.YtpopcnebndgblaaGreat
open Go.RowKit Go.Shelf Go.Maps W
set_option linter.unusedVariables false
attribute [local go_sem] Oper.semAt_some
theorem len_sub : ∀ (ss l : List Int), ss.Nodup → (∀ x ∈ ss, x ∈ l) → ss.length ≤ l.length
  | [], _, _, _ => Nat.zero_le _
  | x :: ss, l, hn, h => by
    obtain ⟨h1, h2⟩ := List.nodup_cons.1 hn
    have hx := h x (by simp)
    have := len_sub ss (l.erase x) h2 (fun y hy => (List.mem_erase_of_ne (fun e : y = x => h1 (by rw [← e]; exact hy))).2 (h y (by simp [hy])))
    rw [List.length_erase_of_mem hx] at this
    have := List.length_pos_of_mem hx
    simp; omega
theorem kF_len {pre : List Cv} {ss : List Int} (hn : ss.Nodup) (h : ∀ x ∈ ss, kF pre x) : ss.length ≤ pre.length + 1 := by
  have := len_sub ss (0 :: pre.map (·.l)) hn (fun x hx => by
    rcases h x hx with h0 | ⟨c, hc, e⟩
    · simp [h0]
    · exact List.mem_cons_of_mem _ (List.mem_map.2 ⟨c, hc, e⟩))
  simpa using this
theorem kF_word {pre : List Cv} (hw : ∀ c ∈ pre, c.word) {x : Int} (h : kF pre x) : Word x := by
  rcases h with rfl | ⟨c, hc, rfl⟩
  · exact w0
  · exact (hw c hc).2.1
theorem sorted_strict {ts ss : List Int} (hp : List.Perm ts ss) (hs : ss.Nodup) (h : ts.Pairwise (· ≤ ·)) : ts.Pairwise (· < ·) := by
  have hn : ts.Nodup := hp.nodup_iff.2 hs
  have := List.Pairwise.and h hn
  exact this.imp (fun {a b} h => by obtain ⟨h1, h2⟩ := h; omega)
theorem cnt_cok {xs : List Cv} (hw : ∀ c ∈ xs, c.word) {ts : List Int} (hp : ts.Pairwise (· < ·)) (hm : ∀ x, x ∈ ts ↔ kF (cnt xs) x) : Cok xs ts := by
  refine ⟨hp, fun x => ?_, ?_⟩
  · rw [hm x]
    constructor
    · rintro (h | ⟨c, hc, e⟩)
      · exact .inl h
      · by_cases h0 : x = 0
        · exact .inl h0
        · exact .inr ⟨c, cnt_mem hc, mayB_is.1 (cnt_may xs c hc), by rw [e]; exact h0, e⟩
    · rintro (h | ⟨c, hc, h1, h2, h3⟩)
      · exact .inl h
      · exact .inr ⟨c, List.mem_filter.2 ⟨hc, mayB_is.2 h1⟩, h3⟩
  · have h0 : (0 : Int) ∈ ts := (hm 0).2 (.inl rfl)
    have hnn : ∀ x ∈ ts, 0 ≤ x := fun x hx => (kF_word (fun c hc => hw c (cnt_mem hc)) ((hm x).1 hx)).1
    cases ts with
    | nil => cases h0
    | cons y ys =>
      rcases List.mem_cons.1 h0 with h | h
      · rw [← h]; rfl
      · have h1 := (List.pairwise_cons.1 hp).1 0 h
        have h2 := hnn y (by simp)
        omega
set_option maxHeartbeats 2000000 in
theorem keys_sorted (m : Nat) (hsort : SortU m) (n : Nat) (hn : 5 ≤ n) (pre : List Cv) (hpw : ∀ c ∈ pre, c.word) (hpl : pre.length + 1 ≤ m) (b Bm nn : Nat) (hnn : nn ≤ 1000) (U V : Int → Int) (K : Int → Prop) (hK : ∀ x, K x → kF pre x) (w : World) (hM : MapB w b nn U V K) (hBm : Bm < w.heap.size) (hm : w.cell? ⟨Bm, 0, none⟩ = some (.map (some b))) :
    CallsIn Fence.wide n Tryz.prog 105 #[.func (.func 115) #[] #[.pointer (some ⟨Bm, 0, none⟩)]] w fun e W' => ∃ (v : Value) (ts : List Int), e = .returned v ∧ ts.Pairwise (· < ·) ∧ (∀ x, x ∈ ts ↔ K x) ∧ W'.ownsRow w.heap.size 30 1 v ts.length (ts.map eU) ∧ Below w.heap.size w W' := by
  obtain ⟨D, hD, hsz, hhas⟩ := hM.size
  have hseq := keys_go (n - 1 - 1 - 1) (by omega) Bm b nn D bE w hBm hD.lt hm hD
  refine (sorted_go m hsort n 115 hn _ (enters_of Tryz.func115 (by kernel_rfl) rfl) _ _ _ (Nat.le_trans hsz hnn) w hseq ?_).mono ?_
  · rintro ss ⟨hnd, hmem⟩
    have hk : ∀ x ∈ ss, kF pre x := fun x hx => hK x ((hhas x).1 ((hmem x).1 hx))
    exact ⟨Nat.le_trans (kF_len hnd hk) hpl, fun x hx => kF_word hpw (hk x hx)⟩
  · rintro e W' ⟨v, ss, ts, rfl, ⟨hnd, hmem⟩, hp, hs, hrow, hb⟩
    exact ⟨v, ts, rfl, sorted_strict hp hnd hs, fun x => (hp.mem_iff).trans ((hmem x).trans (hhas x)), hrow, hb⟩
set_option maxHeartbeats 2000000 in
theorem corners_of (m : Nat) (hsort : SortU m) (xs : List CW) (a : Option Addr) (k c : Nat) (w : World) (hn : xs.length ≤ 400) (hm : xs.length + 1 ≤ m) (h : IsCvs w a k c (unW xs)) :
    Calls Tryz.prog 95 #[.slice a k c] w fun e w' => ∃ v, e = .returned v ∧ w'.ownsRow w.heap.size 30 1 v (corF (unW xs)).length ((corF (unW xs)).map eU) ∧ Below w.heap.size w w' := by
  have cB := bends_of xs a k c w (by omega) h 7 (by omega)
  have hcl : (unW (cntW xs)).length ≤ xs.length := by unfold unW; rw [List.length_map]; exact List.length_filter_le _ _
  refine (callsIn_wide (n := 8)).1 ?_
  refine callsIn_of_wp Tryz.func95 rfl trivial ?_ rfl
  simp only [Tryz.ntmps95, List.size_toArray, List.length_cons, List.length_nil, Nat.reduceAdd, Nat.reduceSub, Array.replicate_succ, Array.replicate_zero, List.push_toArray, List.append_toArray, List.nil_append, List.cons_append]
  gi_wp2_with (first
    | (refine ⟨trivial, ?_⟩; gi_at_call 107; refine cB.mono ?_; rintro e w1 ⟨rfl, ⟨nn, hnn, hM⟩, hb1, hlt1⟩
       have cK := keys_any (some w.heap.size) w1
       have bX := Boxed.new w1 130 (.map (some w.heap.size))
       have cS := keys_sorted m hsort 7 (by omega) (unW (cntW xs)) (unW_words _) (by omega) w.heap.size w1.heap.size nn (by omega) _ _ _ (fun _ h => h) _ (hM.alloc (.cells #[.map (some w.heap.size)] 130)) (by simp) bX.cell)
    | (refine ⟨trivial, ?_⟩; gi_at_call 106; refine (callsIn_wide.2 cK).mono ?_; rintro e w2 ⟨rfl, rfl⟩)
    | (refine ⟨trivial, ?_⟩; gi_at_call 105; refine cS.mono ?_; rintro e w2 ⟨v, ts, rfl, hp, hmem, hrow, hb2⟩))
  go_ret
  have hc : ts = corF (unW xs) := Cok.unique (cnt_cok (unW_words xs) hp (by rw [← unW_cnt]; exact hmem)) (corF_ok (unW_words xs))
  subst hc
  have hz := hb1.size
  refine ⟨v, rfl, ⟨hrow.1, ?_⟩, (hb1.alloc hz _).trans (hb2.mono (by simp; omega))⟩
  rcases hrow.2 with hl | ⟨g, cap, cur, e1, e2, e3⟩
  · exact .inl hl
  · exact .inr ⟨g, cap, cur, e1, by simp at e2; omega, e3⟩
end Go.Proofs.YtpopcnebndgblaaGreat
