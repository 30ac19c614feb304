/- The copies that a run keeps, as they lie in memory: a row from some place of a block on, that grows by append. -/
import Derived.Test.YtejolaifdjcghaaGreatObj
import Derived.Test.YtejolaifdjcghaaGreatSgN
import Derived.Deep.AppendLies
namespace Go.Proofs.YtejolaifdjcghaaGreat
open Go.RowKit Go.Shelf W
set_option linter.unusedVariables false
/-- The cells of copies. -/
def flat : List (Int × Int) → List Value
  | [] => []
  | k :: K => eU k.1 :: eU k.2 :: flat K
theorem flat_len : ∀ K, (flat K).length = K.length * 2
  | [] => rfl
  | k :: K => by show (flat K).length + 1 + 1 = _; rw [flat_len K, List.length_cons]; omega
theorem flat_append : ∀ A B, flat (A ++ B) = flat A ++ flat B
  | [], B => rfl
  | k :: K, B => by show eU k.1 :: eU k.2 :: flat (K ++ B) = _; rw [flat_append K B]; rfl
theorem flat_take : ∀ (K : List (Int × Int)) (n : Nat), flat (K.take n) = (flat K).take (n * 2)
  | K, 0 => by simp [flat]
  | [], n + 1 => by simp [flat]
  | k :: K, n + 1 => by
    rw [List.take_succ_cons, show (n + 1) * 2 = n * 2 + 1 + 1 by omega]
    show eU k.1 :: eU k.2 :: flat (K.take n) = (eU k.1 :: eU k.2 :: flat K).take _
    rw [List.take_succ_cons, List.take_succ_cons, flat_take K n]
theorem flat_get : ∀ (K : List (Int × Int)) (j : Nat) (h : j < K.length), (flat K)[j * 2]? = some (eU K[j].1) ∧ (flat K)[j * 2 + 1]? = some (eU K[j].2)
  | [], j, h => by simp at h
  | k :: K, 0, h => ⟨rfl, rfl⟩
  | k :: K, j + 1, h => by
    have := flat_get K j (by simpa using h)
    rw [show (j + 1) * 2 = j * 2 + 1 + 1 by omega]
    simpa [flat] using this
theorem flat_one : ∀ K, ∀ u ∈ flat K, u.oneCell' = true
  | [], u, h => by cases h
  | k :: K, u, h => by
    have h : u ∈ eU k.1 :: eU k.2 :: flat K := h
    rcases List.mem_cons.1 h with rfl | h
    · rfl
    · rcases List.mem_cons.1 h with rfl | h
      · rfl
      · exact flat_one K u h
/-- At the place o of block g there lie copies, with room for so many. -/
def RowAt (w : World) (g o cap : Nat) (K : List (Int × Int)) : Prop :=
  ∃ cur, w.heap[g]? = some (.cells cur 136 (0, 0)) ∧ K.length ≤ cap ∧ cap ≤ maxLen ∧ o + cap * 2 = cur.size ∧ (cur.toList.drop o).take (K.length * 2) = flat K
section
variable {w w' : World} {g o cap : Nat} {K : List (Int × Int)}
theorem RowAt.lt (h : RowAt w g o cap K) : g < w.heap.size := by
  obtain ⟨cur, hg, _⟩ := h
  exact (Array.getElem?_eq_some_iff.1 hg).1
theorem RowAt.le (h : RowAt w g o cap K) : K.length ≤ cap ∧ cap ≤ maxLen := by
  obtain ⟨cur, hg, h1, h2, _⟩ := h
  exact ⟨h1, h2⟩
theorem RowAt.of (h : RowAt w g o cap K) (e : w'.heap[g]? = w.heap[g]?) : RowAt w' g o cap K := by
  obtain ⟨cur, hg, r⟩ := h
  exact ⟨cur, e.trans hg, r⟩
theorem RowAt.below (h : RowAt w g o cap K) (hb : Below w.heap.size w w') : RowAt w' g o cap K := h.of (hb.block g h.lt)
theorem RowAt.but {B : Nat} (h : RowAt w g o cap K) (hb : But B w w') (hne : g ≠ B) : RowAt w' g o cap K := h.of (hb.block g h.lt hne)
theorem RowAt.ne {B : Nat} {u : Array Value} {t : TypeId} (h : RowAt w g o cap K) (hB : Box w B u t) (ht : t ≠ 136) : g ≠ B := fun e => by
  subst e
  obtain ⟨cur, hg, _⟩ := h
  rw [show w.heap[g]? = _ from hB] at hg
  cases hg
  exact ht rfl
theorem RowAt.cell (h : RowAt w g o cap K) {j : Nat} (hj : j < K.length) : w.cell? ⟨g, o + j * 2, none⟩ = some (.int .u64 K[j].1) ∧ w.cell? ⟨g, o + j * 2 + 1, none⟩ = some (.int .u64 K[j].2) := by
  obtain ⟨cur, hg, h1, h2, h3, h4⟩ := h
  have e := flat_get K j hj
  have at_ : ∀ i v, (flat K)[i]? = some v → w.cell? ⟨g, o + i, none⟩ = some v := fun i v hi => by
    rw [cell_of_row w g (o + i) cur 136 (0, 0) hg]
    rw [← h4, List.getElem?_take] at hi
    split at hi
    · rw [List.getElem?_drop] at hi
      simpa using hi
    · cases hi
  exact ⟨at_ _ _ e.1, at_ _ _ e.2⟩
theorem RowAt.drop1 {a : Int × Int} (h : RowAt w g o cap (a :: K)) : RowAt w g (o + 2) (cap - 1) K := by
  obtain ⟨cur, hg, h1, h2, h3, h4⟩ := h
  simp only [List.length_cons] at h1
  refine ⟨cur, hg, by omega, by omega, by omega, ?_⟩
  have e : ((cur.toList.drop o).take ((a :: K).length * 2)).drop 2 = (flat (a :: K)).drop 2 := by rw [h4]
  rw [List.drop_take, List.drop_drop, List.length_cons, show (K.length + 1) * 2 - 2 = K.length * 2 by omega] at e
  exact e
theorem RowAt.take (h : RowAt w g o cap K) (n : Nat) (hn : n ≤ K.length) : RowAt w g o cap (K.take n) := by
  obtain ⟨cur, hg, h1, h2, h3, h4⟩ := h
  have hl : (K.take n).length = n := by rw [List.length_take]; omega
  refine ⟨cur, hg, by omega, h2, h3, ?_⟩
  rw [hl, flat_take, ← h4, List.take_take, Nat.min_eq_left (by omega)]
theorem RowAt.win (h : RowAt w g o cap K) (a n : Nat) (hn : a + n ≤ K.length) (ha : 0 < n) : RowAt w g (o + a * 2) (cap - a) ((K.drop a).take n) := by
  induction a generalizing K o cap with
  | zero => simpa using h.take n (by omega)
  | succ a ih =>
    match K, h with
    | [], h => simp at hn
    | k :: K, h =>
      have h' := ih (K := K) (o := o + 2) (cap := cap - 1) h.drop1 (by simp at hn; omega)
      rw [show o + (a + 1) * 2 = o + 2 + a * 2 by omega, show cap - (a + 1) = cap - 1 - a by omega]
      exact h'
end
/-- The copies that lie where a slice says. -/
def KeptAt (w : World) (m : Nat) (v : Value) (K : List (Int × Int)) : Prop :=
  (v = .slice none 0 0 ∧ K = []) ∨ ∃ g o cap, v = .slice (some ⟨g, o, none⟩) K.length cap ∧ m ≤ g ∧ RowAt w g o cap K
theorem KeptAt.lt {w : World} {m : Nat} {v : Value} {K : List (Int × Int)} (h : KeptAt w m v K) : ∀ k, v.ownBlock = some k → m ≤ k ∧ k < w.heap.size := by
  rcases h with ⟨rfl, _⟩ | ⟨g, o, cap, rfl, hm, h⟩
  · intro k hk; cases hk
  · intro k hk
    obtain rfl : g = k := by simpa [Value.ownBlock] using hk
    exact ⟨hm, h.lt⟩
theorem KeptAt.of {w w' : World} {m : Nat} {v : Value} {K : List (Int × Int)} (h : KeptAt w m v K) (e : ∀ g, v.ownBlock = some g → w'.heap[g]? = w.heap[g]?) : KeptAt w' m v K := by
  rcases h with h | ⟨g, o, cap, rfl, hm, h⟩
  · exact .inl h
  · exact .inr ⟨g, o, cap, rfl, hm, h.of (e g rfl)⟩
theorem KeptAt.below {w w' : World} {m : Nat} {v : Value} {K : List (Int × Int)} (h : KeptAt w m v K) (hb : Below w.heap.size w w') : KeptAt w' m v K := h.of fun g hg => hb.block g (h.lt g hg).2
theorem KeptAt.ne {w : World} {m : Nat} {v : Value} {K : List (Int × Int)} {B : Nat} {u : Array Value} {t : TypeId} (h : KeptAt w m v K) (hB : Box w B u t) (ht : t ≠ 136) : v.ownBlock ≠ some B := by
  rcases h with ⟨rfl, _⟩ | ⟨g, o, cap, rfl, hm, h⟩
  · intro e; cases e
  · intro e
    exact h.ne hB ht (by simpa [Value.ownBlock] using e)
theorem KeptAt.len {w : World} {m : Nat} {v : Value} {K : List (Int × Int)} (h : KeptAt w m v K) : ∃ a cap, v = .slice a K.length cap ∧ K.length ≤ cap := by
  rcases h with ⟨rfl, rfl⟩ | ⟨g, o, cap, rfl, hm, h⟩
  · exact ⟨none, 0, rfl, Nat.le_refl _⟩
  · exact ⟨_, cap, rfl, h.le.1⟩
theorem KeptAt.some {w : World} {m : Nat} {v : Value} {K : List (Int × Int)} (h : KeptAt w m v K) (h0 : 0 < K.length) : ∃ g o cap, v = .slice (some ⟨g, o, none⟩) K.length cap ∧ m ≤ g ∧ RowAt w g o cap K := by
  rcases h with ⟨_, rfl⟩ | h
  · simp at h0
  · exact h
theorem infoB : (Tryz.prog.info? 136).map (fun i => (i.zero, i.size, i.bytes)) = some (some (.agg #[.int .u64 0, .int .u64 0]), 2, 16) := by kernel_rfl
theorem b_info : ∃ i : TypeInfo, Tryz.prog.info? 136 = some i ∧ i.zero = some (.agg #[.int .u64 0, .int .u64 0]) ∧ i.size = 2 ∧ i.bytes = 16 := by
  have h := infoB
  cases hh : Tryz.prog.info? 136 with
  | none => rw [hh] at h; cases h
  | some i =>
    rw [hh] at h
    simp only [Option.map_some, Option.some.injEq, Prod.mk.injEq] at h
    exact ⟨i, rfl, h.1, h.2.1, h.2.2⟩
theorem run_append_room_mid {P : Program} (w : World) (t ty e : TypeId) (i : TypeInfo) (ht : P.underlying t = some (.slice e)) (hi : P.info? e = some i)
    (g o sLen sCap : Nat) (cur : Array Value) (hg : w.heap[g]? = some (.cells cur e (0, 0)))
    (a : Addr) (m c : Nat) (news : List Value) (hl : news.length = m * i.size) (hnews : ∀ j u, news[j]? = some u → w.cell? (a.add j) = some u) (h1 : ∀ u ∈ news, u.oneCell' = true)
    (hroom : sLen + m ≤ sCap) (hfit : o + sLen * i.size + news.length ≤ cur.size) :
    (Builtin.append_ #[t, t] ty #[.slice (some ⟨g, o, none⟩) sLen sCap, .slice (some a) m c]).run P w =
      .ok (.slice (some ⟨g, o, none⟩) (sLen + m) sCap) (w.setRow g (cur.toList.take (o + sLen * i.size) ++ news ++ cur.toList.drop (o + sLen * i.size + news.length)).toArray) := by
  have hf := run_firstCells_some (P := P) w i.size m a m c news hl hnews
  have hst := run_storeCells_at P g (o + sLen * i.size) e news 0 cur w hg (by simpa using hfit) h1
  simp only [Nat.add_zero] at hst
  simp [Builtin.append_, run_underlying ht, sizeOf, typeInfo, hi, Builtin.lenOf, hroom, hf, Addr.add_lit, hst]
/-- One copy more, onto the first n of those that lie there. -/
theorem run_append_kept (w : World) (ty : TypeId) (ht : Tryz.prog.underlying 69 = some (.slice 136)) (m n : Nat) (V : Value) (K : List (Int × Int)) (k : Int × Int)
    (hV : (V = .slice none 0 0 ∧ n = 0) ∨ ∃ g o cap, V = .slice (some ⟨g, o, none⟩) n cap ∧ m ≤ g ∧ RowAt w g o cap K) (hn : n ≤ K.length) (hn2 : n ≤ 1000)
    (ad : Addr) (c : Nat) (hnews : ∀ j u, [eU k.1, eU k.2][j]? = some u → w.cell? (ad.add j) = some u) (hm : m ≤ w.heap.size) :
    ∃ g o cap w', (Builtin.append_ #[69, 69] ty #[V, .slice (some ad) 1 c]).run Tryz.prog w = .ok (.slice (some ⟨g, o, none⟩) (n + 1) cap) w' ∧
      RowAt w' g o cap (K.take n ++ [k]) ∧ w.grownBy w' V.ownBlock ∧ m ≤ g ∧ (V.ownBlock = some g ∨ g = w.heap.size) := by
  obtain ⟨i, hi, hz0, hz1, hz2⟩ := b_info
  have hl : [eU k.1, eU k.2].length = 1 * i.size := by rw [hz1]; rfl
  have h1 : ∀ u ∈ [eU k.1, eU k.2], u.oneCell' = true := flat_one [k]
  have zc : ∀ q, (Builtin.zeroCells (Value.cells (.agg #[.int .u64 0, .int .u64 0])) q).size = q * 2 := fun q => by rw [size_zeroCells]; rfl
  rcases hV with ⟨rfl, rfl⟩ | ⟨g, o, cap, rfl, hg0, cur, hg, h2, h3, h4, h5⟩
  · have hr := run_append_nil (P := Tryz.prog) w 69 ty 136 i _ ht hi hz0 ad 1 c [eU k.1, eU k.2] hl hnews (by omega) (by omega) (by rw [hz2]; omega)
    have hge := grownCap_ge w 1 0 136
    refine ⟨_, 0, _, _, hr, ⟨_, heap_alloc_new w.drew _, by simpa using hge, grownCap_le_maxLen w 1 0 136 (by decide), ?_, ?_⟩, ⟨rfl, rfl, rfl, by simp, fun j hj _ => heap_alloc_old w.drew _ hj⟩, hm, .inr rfl⟩
    · simp only [Array.size_append, List.size_toArray, zc, List.length_cons, List.length_nil]
      omega
    · simp [flat]
  · have hsz : (flat (K.take n)).length = n * 2 := by rw [flat_len, List.length_take, Nat.min_eq_left hn]
    have ht5 : (cur.toList.drop o).take (n * 2) = flat (K.take n) := by rw [flat_take, ← h5, List.take_take, Nat.min_eq_left (by omega)]
    have hlen : (K.take n ++ [k]).length = n + 1 := by simp; omega
    by_cases hroom : n + 1 ≤ cap
    · have hfit : o + n * i.size + [eU k.1, eU k.2].length ≤ cur.size := by rw [hz1]; simp; omega
      have hr := run_append_room_mid (P := Tryz.prog) w 69 ty 136 i ht hi g o n cap cur hg ad 1 c [eU k.1, eU k.2] hl hnews h1 hroom hfit
      refine ⟨g, o, cap, _, hr, ⟨_, setRow_heap w g cur _ 136 _ hg, by rw [hlen]; exact hroom, h3, ?_, ?_⟩, ⟨rfl, rfl, rfl, by simp, fun j _ hj => setRow_other w g j _ (fun e => hj (by simp [Value.ownBlock, e]))⟩, hg0, .inl rfl⟩
      · rw [hz1] at hfit ⊢
        simp only [List.length_cons, List.length_nil] at hfit
        simp only [List.size_toArray, List.length_append, List.length_take, List.length_drop, Array.length_toList, List.length_cons, List.length_nil]
        omega
      · rw [hlen, hz1, flat_append, ← ht5]
        have e1 : (cur.toList.take (o + n * 2)).length = o + n * 2 := by rw [List.length_take, Array.length_toList]; rw [hz1] at hfit; simp at hfit; omega
        rw [List.append_assoc, List.drop_append_of_le_length (by omega), List.drop_take, show o + n * 2 - o = n * 2 by omega, ht5, ← List.append_assoc]
        exact List.take_left' (by rw [List.length_append, hsz]; simp; omega)
    · have holds : ∀ j u, (flat (K.take n))[j]? = some u → w.cell? ((⟨g, o, none⟩ : Addr).add j) = some u := fun j u hj => by
        rw [Addr.add_lit, cell_of_row w g (o + j) cur 136 (0, 0) hg]
        rw [← ht5, List.getElem?_take] at hj
        split at hj
        · rw [List.getElem?_drop] at hj
          simpa using hj
        · cases hj
      have hr := run_append_grow (P := Tryz.prog) w 69 ty 136 i _ ht hi hz0 ⟨g, o, none⟩ n cap (flat (K.take n)) (by rw [hsz, hz1]) holds ad 1 c [eU k.1, eU k.2] hl hnews (by omega) (by omega) (growslice_fits (by omega) (by rw [hz2]; omega))
      have hge := grownCap_ge w (n + 1) cap 136
      refine ⟨_, 0, _, _, hr, ⟨_, heap_alloc_new w.drew _, by rw [hlen]; exact hge, grownCap_le_maxLen w (n + 1) cap 136 (by unfold maxLen; omega), ?_, ?_⟩, ⟨rfl, rfl, rfl, by simp, fun j hj _ => heap_alloc_old w.drew _ hj⟩, hm, .inr rfl⟩
      · simp only [Array.size_append, List.size_toArray, zc, hsz, List.length_cons, List.length_nil]
        omega
      · rw [hlen, List.drop_zero, flat_append]
        simp only [Array.toList_append]
        exact List.take_left' (by rw [List.length_append, hsz]; simp; omega)
end Go.Proofs.YtejolaifdjcghaaGreat
