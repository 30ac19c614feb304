/- The program's tree: all classes below one, rising; a copy. Condition: numbers are what an int can hold. -/
import Derived.Test.YtpopcnebndgblaaGreatHmA
import Derived.Deep.Upon
import Derived.Deep.LoopGhost
namespace Go.Proofs.YtpopcnebndgblaaGreat.H
open Go.ChangeShapes Go.WideShapes Go.Deep Go.RowKit
set_option linter.unusedVariables false
set_option linter.unusedSimpArgs false
/-- A slice at some place of a block behind m holds the numbers K. -/
def LeftAt (w : World) (m : Nat) (v : Value) (K : List Int) : Prop :=
  ∃ g o cap cur, v = .slice (some ⟨g, o, none⟩) K.length cap ∧ m ≤ g ∧ w.heap[g]? = some (.cells cur 3 (0, 0)) ∧ K.length ≤ cap ∧ cap ≤ maxLen ∧ o + cap ≤ cur.size ∧ (cur.toList.drop o).take K.length = K.map eI
section
variable {w w' : World} {m : Nat} {v : Value} {K : List Int}
theorem LeftAt.lt (h : LeftAt w m v K) : ∀ g, v.ownBlock = some g → m ≤ g ∧ g < w.heap.size := by
  obtain ⟨g, o, cap, cur, rfl, hm, hg, _⟩ := h
  intro k hk
  obtain rfl : g = k := by simpa [Value.ownBlock] using hk
  exact ⟨hm, (Array.getElem?_eq_some_iff.1 hg).1⟩
theorem LeftAt.of (h : LeftAt w m v K) (e : ∀ g, v.ownBlock = some g → w'.heap[g]? = w.heap[g]?) : LeftAt w' m v K := by
  obtain ⟨g, o, cap, cur, rfl, hm, hg, r⟩ := h
  exact ⟨g, o, cap, cur, rfl, hm, (e g rfl).trans hg, r⟩
theorem LeftAt.below (h : LeftAt w m v K) (hb : Below w.heap.size w w') : LeftAt w' m v K := h.of fun g e => hb.block g (h.lt g e).2
theorem LeftAt.but {b : Nat} (h : LeftAt w m v K) (k : But b w w') (hne : v.ownBlock ≠ some b) : LeftAt w' m v K := h.of fun g e => k.block g (h.lt g e).2 (fun e2 => hne (by rw [e, e2]))
theorem LeftAt.grown {row : Option Nat} (h : LeftAt w m v K) (hg : w.grownBy w' row) (hne : v.ownBlock ≠ row) : LeftAt w' m v K := h.of fun g e => hg.block g (h.lt g e).2 (fun e2 => hne (by rw [e, e2]))
theorem LeftAt.new {x : Int} {g : Nat} (h : Box w g #[eI x] 3) (hm : m ≤ g) : LeftAt w m (.slice (some ⟨g, 0, none⟩) 1 1) [x] := ⟨g, 0, 1, #[eI x], rfl, hm, h, Nat.le_refl _, by decide, Nat.le_refl _, rfl⟩
/-- Its head, and what is behind it. -/
theorem LeftAt.cut {x : Int} {Q : List Int} (h : LeftAt w m v (x :: Q)) : ∃ g o cap, v = .slice (some ⟨g, o, none⟩) (Q.length + 1) cap ∧ w.cell? ⟨g, o, none⟩ = some (eI x) ∧ Q.length + 1 ≤ cap ∧ cap ≤ maxLen ∧
    ∃ o', (if cap = 1 then (some (⟨g, o, none⟩ : Addr)) else some ⟨g, o + 1, none⟩) = some ⟨g, o', none⟩ ∧ LeftAt w m (.slice (some ⟨g, o', none⟩) Q.length (cap - 1)) Q := by
  obtain ⟨g, o, cap, cur, rfl, hm, hg, h1, h2, h3, h4⟩ := h
  simp only [List.length_cons] at h1 h4
  have hc : w.cell? ⟨g, o, none⟩ = some (eI x) := by
    have e : (cur.toList.drop o).take (Q.length + 1) = eI x :: Q.map eI := h4
    have e2 : ((cur.toList.drop o).take (Q.length + 1))[0]? = some (eI x) := by rw [e]; rfl
    rw [List.getElem?_take_of_lt (by omega), List.getElem?_drop, Nat.add_zero] at e2
    simpa [World.cell?, hg] using e2
  refine ⟨g, o, cap, rfl, hc, h1, h2, ?_⟩
  by_cases hc1 : cap = 1
  · subst hc1
    obtain rfl : Q = [] := List.eq_nil_of_length_eq_zero (by omega)
    exact ⟨o, if_pos rfl, g, o, 0, cur, rfl, hm, hg, Nat.le_refl _, by decide, by omega, by simp⟩
  · refine ⟨o + 1, if_neg hc1, g, o + 1, cap - 1, cur, rfl, hm, hg, by omega, by omega, by omega, ?_⟩
    have e : ((cur.toList.drop o).take (Q.length + 1)).drop 1 = (eI x :: Q.map eI).drop 1 := by rw [h4]; rfl
    rw [List.drop_take, List.drop_drop] at e
    simpa using e
theorem LeftAt.len (h : LeftAt w m v K) : ∃ g o cap, v = .slice (some ⟨g, o, none⟩) K.length cap ∧ K.length ≤ cap := by
  obtain ⟨g, o, cap, cur, rfl, hm, hg, h1, _⟩ := h
  exact ⟨g, o, cap, rfl, h1⟩
/-- Numbers behind it. -/
theorem left_app (h : LeftAt w m v K) (ty : TypeId) {x : Value} {Y : List Int} (hx : (x = .slice none 0 0 ∧ Y = []) ∨ ∃ ad c, x = .slice (some ad) Y.length c ∧ ∀ j u, (Y.map eI)[j]? = some u → w.cell? (ad.add j) = some u) (hl : K.length + Y.length ≤ 100000) (hm : m ≤ w.heap.size) :
    ∃ v' w', (Builtin.append_ #[53, 53] ty #[v, x]).run Tryz.prog w = .ok v' w' ∧ LeftAt w' m v' (K ++ Y) ∧ w.grownBy w' v.ownBlock ∧ (v'.ownBlock = v.ownBlock ∨ v'.ownBlock = some w.heap.size) := by
  obtain ⟨i, hi, hz0, hzs, hzb⟩ := info_parts (show (Tryz.prog.info? 3).map (fun i => (i.zero, i.size, i.bytes)) = some (some (.int .i64 0), 1, 8) by kernel_rfl)
  obtain ⟨g, o, cap, cur, rfl, hg0, hg, h1, h2, h3, h4⟩ := h
  rcases hx with ⟨rfl, rfl⟩ | ⟨ad, c, rfl, hnews⟩
  · refine ⟨_, w, run_append_nothing w 53 53 ty 3 i Tryz.underlying53 hi _ _ _ h1 _ (Src.ofNil w Tryz.underlying53 0), ?_, World.grownBy.refl _ _, .inl rfl⟩
    rw [List.append_nil]
    exact ⟨g, o, cap, cur, rfl, hg0, hg, h1, h2, h3, h4⟩
  · have hlen : (K ++ Y).length = K.length + Y.length := List.length_append
    have hone : ∀ u ∈ Y.map eI, u.oneCell' = true := fun u hu => by obtain ⟨z, _, rfl⟩ := List.mem_map.1 hu; rfl
    by_cases hroom : K.length + Y.length ≤ cap
    · have hcell : ∀ j, j < (Y.map eI).length → (w.cell? ⟨g, o + K.length * i.size + j, none⟩).isSome = true ∧ w.frozen? ⟨g, o + K.length * i.size + j, none⟩ = false := fun j hj => by
        rw [hzs, Nat.mul_one]
        simp only [List.length_map] at hj
        have hlt : o + K.length + j < cur.size := by omega
        simp [World.cell?, World.frozen?, hg, hlt]
      have hr := run_append_room_cells (P := Tryz.prog) w 53 ty 3 i Tryz.underlying53 hi g o K.length cap ad Y.length c (Y.map eI) (by rw [hzs]; simp) hnews hone hroom (fun j hj => (hcell j hj).1) (fun j hj => (hcell j hj).2)
      have hB : Box w g cur 3 := hg
      have hB2 := Box.setCells (W := w) (Y.map eI) (o + K.length * i.size) w cur hB
      have hK2 := But.setCells (Y.map eI) (o + K.length * i.size) w w (But.refl g w)
      refine ⟨_, _, hr, ?_, ⟨hK2.os, hK2.tape, hK2.output, hK2.size, fun k hk hn => hK2.block k hk (fun e => hn (by rw [e]; rfl))⟩, .inl rfl⟩
      have hs : ∀ (vs : List Value) (p : Nat) (a : Array Value), p + vs.length ≤ a.size → (spl a p vs).size = a.size ∧ (spl a p vs).toList = a.toList.take p ++ vs ++ a.toList.drop (p + vs.length) := fun vs => by
        induction vs with
        | nil => intro p a _; exact ⟨rfl, by simp [spl]⟩
        | cons u vs ih =>
          intro p a hp
          simp only [List.length_cons] at hp
          obtain ⟨i1, i2⟩ := ih (p + 1) (a.setIfInBounds p u) (by simp; omega)
          refine ⟨by rw [spl, i1]; simp, ?_⟩
          rw [spl, i2, Array.toList_setIfInBounds]
          have hpl : p < a.toList.length := by simp; omega
          rw [List.take_set, List.drop_set_of_lt (by omega), List.length_cons, show p + 1 + vs.length = p + (vs.length + 1) by omega]
          rw [List.take_succ_eq_append_getElem hpl]
          rw [List.set_append_right _ _ (by rw [List.length_take]; omega)]
          have e1 : ((List.take p a.toList).length) = p := by rw [List.length_take]; omega
          rw [e1, Nat.sub_self, List.set_cons_zero]
          simp
      obtain ⟨s1, s2⟩ := hs (Y.map eI) (o + K.length * i.size) cur (by rw [hzs]; simp; omega)
      rw [hzs, Nat.mul_one] at hB2 s1 s2 ⊢
      refine ⟨g, o, cap, spl cur (o + K.length) (Y.map eI), by rw [hlen], hg0, hB2, by omega, h2, by rw [s1]; exact h3, ?_⟩
      rw [s2, hlen]
      have l1 : (cur.toList.take (o + K.length)).length = o + K.length := by simp; omega
      rw [List.append_assoc, List.drop_append_of_le_length (by omega), List.drop_take, show o + K.length - o = K.length by omega, h4, ← List.append_assoc, List.take_append_of_le_length (by simp), List.take_of_length_le (by simp), List.map_append]
    · have holds : ∀ j u, (K.map eI)[j]? = some u → w.cell? ((⟨g, o, none⟩ : Addr).add j) = some u := fun j u hj => by
        rw [add_plain]
        rw [← h4, List.getElem?_take] at hj
        split at hj
        · rw [List.getElem?_drop] at hj
          simpa [World.cell?, hg] using hj
        · cases hj
      have hr := run_append_grow (P := Tryz.prog) w 53 ty 3 i _ Tryz.underlying53 hi hz0 ⟨g, o, none⟩ K.length cap (K.map eI) (by rw [hzs]; simp) holds ad Y.length c (Y.map eI) (by rw [hzs]; simp) hnews (by omega) (by omega) (growslice_fits (by omega) (by rw [hzb]; omega))
      have hge := grownCap_ge w (K.length + Y.length) cap 3
      refine ⟨_, _, hr, ⟨w.heap.size, 0, _, _, by rw [hlen], hm, heap_alloc_new w.drew _, by rw [hlen]; exact hge, grownCap_le_maxLen w (K.length + Y.length) cap 3 (by unfold maxLen; omega), ?_, ?_⟩, ⟨rfl, rfl, rfl, by simp, fun j hj _ => heap_alloc_old w.drew _ hj⟩, .inr rfl⟩
      · simp [Builtin.zeroCells, Value.cells]
        omega
      · rw [hlen, List.drop_zero]
        simp only [Array.toList_append]
        rw [List.take_append_of_le_length (by simp), List.take_of_length_le (by simp), List.map_append]
end
section
variable {ops : Array Oper} {o : Oper} {a : Act} {w : World} {Q : Exit → Act → World → Prop} {P : Act → World → Prop} {E : Prop} {m : Nat} {v : Value} {K : List Int}
theorem st_left (h : LeftAt w m v K) {q z : Operand} (hw : Region.wanted o (yielded ops a.tmps) = true) (ho : o.op = .call { callee := .builtin .append, args := #[q, z], argTypes := #[53, 53] }) (hq : a.eval q = v) {x : Value} {Y : List Int} (hz : a.eval z = x)
    (hx : (x = .slice none 0 0 ∧ Y = []) ∨ ∃ ad c, x = .slice (some ad) Y.length c ∧ ∀ j u, (Y.map eI)[j]? = some u → w.cell? (ad.add j) = some u) (hl : K.length + Y.length ≤ 100000) (hm : m ≤ w.heap.size)
    (hP : ∀ v' w', LeftAt w' m v' (K ++ Y) → w.grownBy w' v.ownBlock → (v'.ownBlock = v.ownBlock ∨ v'.ownBlock = some w.heap.size) → P (a.put o.dst v') w') : if Region.wanted o (yielded ops a.tmps) = true then Oper.wp Tryz.prog o a w P Q else E := by
  rw [if_pos hw]
  obtain ⟨v', w', hr, h2, h3, h4⟩ := left_app h o.type hx hl hm
  unfold Oper.wp execOp
  simp only [ho, resolve, invoke, builtin, Sem.run_bind, Sem.run_pure, Result.andThen_ok, List.map_toArray, List.map_cons, List.map_nil, hq, hz, hr]
  exact hP v' w' h2 h3 h4
end
/-! ### Level by level -/
def dep (L : List Sp) (j : Int) : Nat := (pathL L j).length
/-- V has been gone through, Q is still to come. -/
structure Lev (L : List Sp) (k : Int) (V Q : List Int) : Prop where
  nodup : (V ++ Q).Nodup
  there : ∀ j ∈ V ++ Q, j = k ∨ ∃ p ∈ L, p.id = j
  shut : ∀ j ∈ V, ∀ c ∈ underL L j, c ∈ V ++ Q
  from_ : ∀ j ∈ V ++ Q, j = k ∨ ∃ p ∈ L, p.id = j ∧ p.par ∈ V
  root : k ∈ V ++ Q
  deep : ∀ j ∈ V ++ Q, dep L k ≤ dep L j
section
variable {L : List Sp} {k : Int} {V Q : List Int}
theorem Lev.start (L : List Sp) (k : Int) : Lev L k [] [k] := ⟨by simp, by simp, by simp, by simp, by simp, by simp⟩
theorem Lev.len (h : Lev L k V Q) : (V ++ Q).length ≤ L.length + 1 := by
  have := nodup_le (m := k :: idsL L) h.nodup (fun j hj => by
    rcases h.there j hj with rfl | ⟨p, hp, e⟩
    · simp
    · exact List.mem_cons.2 (.inr (mem_ids.2 ⟨p, hp, e⟩)))
  unfold idsL at this
  simpa using this
theorem dep_up (hT : Hrc L) {p : Sp} (hp : p ∈ L) : dep L p.id = dep L p.par + 1 := by
  obtain ⟨l, _, _, h1, h2⟩ := hT.up hp
  unfold dep
  rw [h1, h2]; rfl
theorem Lev.step (hT : Hrc L) {x : Int} (h : Lev L k V (x :: Q)) : Lev L k (V ++ [x]) (Q ++ underL L x) := by
  have hx : x ∈ V ++ x :: Q := by simp
  have hdx := h.deep x hx
  have hxV : x ∉ V := fun e => by
    have := List.nodup_append.1 h.nodup
    exact this.2.2 x e x (by simp) rfl
  have perm : ∀ j, j ∈ (V ++ [x]) ++ (Q ++ underL L x) ↔ j ∈ V ++ x :: Q ∨ j ∈ underL L x := fun j => by
    simp only [List.mem_append, List.mem_cons, List.mem_singleton, List.not_mem_nil, or_false]
    constructor
    · rintro ((a | a) | (a | a)) <;> simp [a]
    · rintro ((a | a | a) | a) <;> simp [a]
  have hnew : ∀ c ∈ underL L x, c ∉ V ++ x :: Q := fun c hc hm => by
    obtain ⟨p, hp, e1, e2⟩ := mem_underL.1 hc
    have hd := dep_up hT hp
    rw [e1, e2] at hd
    rcases h.from_ c hm with rfl | ⟨q, hq, e3, e4⟩
    · omega
    · obtain rfl := id_inj hT.ord hq hp (by rw [e3, e2])
      rw [e1] at e4
      exact hxV e4
  refine ⟨?_, fun j hj => ?_, fun j hj c hc => ?_, fun j hj => ?_, ?_, fun j hj => ?_⟩
  · have e : (V ++ [x]) ++ (Q ++ underL L x) = (V ++ x :: Q) ++ underL L x := by simp
    rw [e]
    exact List.nodup_append.2 ⟨h.nodup, nodup_lt (underL_lt hT x), fun a ha b hb e => hnew b hb (e ▸ ha)⟩
  · rcases (perm j).1 hj with hj | hj
    · exact h.there j hj
    · obtain ⟨p, hp, _, e⟩ := mem_underL.1 hj
      exact .inr ⟨p, hp, e⟩
  · refine (perm c).2 ?_
    rcases List.mem_append.1 hj with hj | hj
    · exact .inl (h.shut j hj c hc)
    · obtain rfl : j = x := by simpa using hj
      exact .inr hc
  · rcases (perm j).1 hj with hj | hj
    · rcases h.from_ j hj with e | ⟨p, hp, e1, e2⟩
      · exact .inl e
      · exact .inr ⟨p, hp, e1, List.mem_append.2 (.inl e2)⟩
    · obtain ⟨p, hp, e1, e2⟩ := mem_underL.1 hj
      exact .inr ⟨p, hp, e2, by rw [e1]; simp⟩
  · exact (perm k).2 (.inl h.root)
  · rcases (perm j).1 hj with hj | hj
    · exact h.deep j hj
    · obtain ⟨p, hp, e1, e2⟩ := mem_underL.1 hj
      have hd := dep_up hT hp
      rw [e1, e2] at hd
      omega
/-- Those that are wanted, of a class and all below it. -/
def thoseL (L : List Sp) (k : Int) (wn : Sp → Bool) : List Int := (L.filter (fun c => wn c && (k == 0 || (pathL L c.id).contains k))).map (·.id)
theorem reach (hT : Hrc L) (h : Lev L k V []) : ∀ {j : Int} {l : List Int}, Pa L j l → ((k = 0 ∨ k ∈ l) → j ∈ V) := by
  have hV : ∀ j, j ∈ V ++ [] ↔ j ∈ V := by simp
  intro j l hp
  induction hp with
  | top =>
    rintro (rfl | e)
    · exact (hV _).1 h.root
    · cases e
  | @go c l hc hp ih =>
    intro hk
    by_cases hck : c.id = k
    · rw [hck]; exact (hV _).1 h.root
    · have : k = 0 ∨ k ∈ l := by
        rcases hk with e | e
        · exact .inl e
        · rcases List.mem_cons.1 e with e | e
          · exact absurd e.symm hck
          · exact .inr e
      exact (hV _).1 (h.shut _ (ih this) _ (mem_underL.2 ⟨c, hc, rfl, rfl⟩))
theorem reached (hT : Hrc L) (h : Lev L k V Q) : ∀ n j, j ∈ V ++ Q → dep L j ≤ n → (∃ p ∈ L, p.id = j) → k = 0 ∨ k ∈ pathL L j := by
  intro n
  induction n with
  | zero =>
    intro j hj hd ⟨p, hp, e⟩
    have := dep_up hT hp
    rw [e] at this; omega
  | succ n ih =>
    rintro j hj hd ⟨p, hp, rfl⟩
    obtain ⟨l, _, _, h1, h2⟩ := hT.up hp
    have hdu := dep_up hT hp
    rcases h.from_ _ hj with e | ⟨q, hq, e1, e2⟩
    · rw [h1, ← e]; exact .inr (by simp)
    · obtain rfl := id_inj hT.ord hq hp e1
      by_cases hk : q.par = k
      · by_cases h0 : k = 0
        · exact .inl h0
        · obtain ⟨r, hr, e3, _⟩ := hT.inn q hq (by rw [hk]; exact h0)
          obtain ⟨l2, _, _, h3, _⟩ := hT.up hr
          rw [h1, ← h2, ← e3, h3, e3, hk]
          exact .inr (by simp)
      · have hm : q.par ∈ V ++ Q := List.mem_append.2 (.inl e2)
        rcases h.there _ hm with e | ⟨r, hr, e3⟩
        · exact absurd e hk
        · rcases ih q.par hm (by omega) ⟨r, hr, e3⟩ with e | e
          · exact .inl e
          · rw [h1, ← h2]; exact .inr (by simp [e])
theorem found_is (hT : Hrc L) (h : Lev L k V []) (wn : Sp → Bool) : (V.filter (fun j => hasS L j && wn (getS L j))).mergeSort (fun x y => decide (x ≤ y)) = thoseL L k wn := by
  have hV : V ++ [] = V := List.append_nil V
  have hnd : V.Nodup := by have := h.nodup; rwa [hV] at this
  have hp := List.mergeSort_perm (V.filter (fun j => hasS L j && wn (getS L j))) (fun x y => decide (x ≤ y))
  have hs := List.pairwise_mergeSort (le := fun x y : Int => decide (x ≤ y)) (fun a b c h1 h2 => by simp only [decide_eq_true_eq] at *; omega) (fun a b => by simp only [Bool.or_eq_true, decide_eq_true_eq]; omega) (V.filter (fun j => hasS L j && wn (getS L j)))
  have hn2 := hp.nodup_iff.2 (hnd.filter _)
  refine rise_ext ?_ ?_ (fun x => ?_)
  · refine (hs.and hn2).imp ?_
    rintro a b ⟨h1, h2⟩
    simp only [decide_eq_true_eq] at h1
    omega
  · exact List.pairwise_map.2 (hT.ord.filter _)
  · rw [hp.mem_iff, List.mem_filter]
    unfold thoseL
    rw [List.mem_map]
    constructor
    · rintro ⟨hx, hh⟩
      simp only [Bool.and_eq_true] at hh
      obtain ⟨p, hpL, rfl⟩ := hasS_iff.1 hh.1
      have := reached hT h (dep L p.id) p.id (by rw [hV]; exact hx) (Nat.le_refl _) ⟨p, hpL, rfl⟩
      refine ⟨p, List.mem_filter.2 ⟨hpL, ?_⟩, rfl⟩
      rw [getS_mem hT hpL] at hh
      rw [hh.2]
      rcases this with e | e
      · simp [e]
      · simp [e]
    · rintro ⟨p, hpf, rfl⟩
      obtain ⟨hpL, hw⟩ := List.mem_filter.1 hpf
      simp only [Bool.and_eq_true, Bool.or_eq_true, beq_iff_eq, List.contains_iff_mem] at hw
      obtain ⟨l, hl, _⟩ := hT.way p hpL
      refine ⟨reach hT h hl ?_, ?_⟩
      · rw [← pathL_of hT hl]; exact hw.2
      · rw [hasS_mem hT hpL, getS_mem hT hpL, hw.1]; rfl
theorem those_ids (L : List Sp) : thoseL L 0 (fun _ => true) = idsL L := by
  unfold thoseL idsL
  rw [List.filter_eq_self.2 (fun c _ => by simp)]
theorem those_leaves (L : List Sp) (k : Int) : thoseL L k (·.leaf) = leavesL L k := rfl
end
end Go.Proofs.YtpopcnebndgblaaGreat.H

namespace Go.Proofs.YtpopcnebndgblaaGreat.H
open Go.ChangeShapes Go.WideShapes Go.Deep Go.RowKit
set_option linter.unusedVariables false
set_option linter.unusedSimpArgs false
theorem _root_.Go.World.ownsRow.grown' {w w' : World} {row : Option Nat} {base size n : Nat} {e : TypeId} {v : Value} {xs : List Value} (h : w.ownsRow base e size v n xs) (hg : w.grownBy w' row) (hne : ∀ q, v.ownBlock = some q → row ≠ some q) : w'.ownsRow base e size v n xs :=
  h.kept hg (by cases hv : v.ownBlock with
    | none => exact .inl rfl
    | some q => exact .inr (fun e => hne q hv e.symm))
def fdL (L : List Sp) (wn : Sp → Bool) (V : List Int) : List Int := V.filter (fun j => hasS L j && wn (getS L j))
section
variable {w w' : World} {χ χ' : Nat → Nat} {c d B bm : Nat} {G : Int → Option Nat} {Cp : Int → Nat} {L : List Sp}
theorem fd_snoc (wn : Sp → Bool) (V : List Int) (x : Int) : fdL L wn (V ++ [x]) = fdL L wn V ++ (if (hasS L x && wn (getS L x)) = true then [x] else []) := by
  unfold fdL
  rw [List.filter_append]
  congr 1
  cases h : (hasS L x && wn (getS L x)) <;> simp [h]
theorem want45 (p : Sp) (w : World) : Calls Tryz.prog 45 #[.agg (sV p)] w fun e w' => e = .returned (.bool ((fun _ : Sp => true) p)) ∧ Below w.heap.size w w' := by
  go_enter Tryz.func45, Tryz.ntmps45
  go_wp2_with (first | (refine wl_box 34 rfl rfl rfl ?_; intro w1 X1 T1))
  go_ret
  exact ⟨rfl, T1⟩
theorem want46 (p : Sp) (w : World) : Calls Tryz.prog 46 #[.agg (sV p)] w fun e w' => e = .returned (.bool ((fun s : Sp => s.leaf) p)) ∧ Below w.heap.size w w' := by
  go_enter Tryz.func46, Tryz.ntmps46
  go_wp2_with (first | (refine wl_box 34 rfl rfl rfl ?_; intro w1 X1 T1; have c2 := (X1.cell 2).trans (sV_2 _)))
  go_ret
  exact ⟨rfl, T1⟩
theorem under_src (h : T0 w χ c B bm G Cp (getS L) (underL L) (0 :: idsL L)) (k : Int) : (Value.slice (adr (G k)) (underL L k).length (Cp k) = .slice none 0 0 ∧ underL L k = []) ∨ ∃ ad q, Value.slice (adr (G k)) (underL L k).length (Cp k) = .slice (some ad) (underL L k).length q ∧ ∀ j u, ((underL L k).map eI)[j]? = some u → w.cell? (ad.add j) = some u := by
  have hr := h.rows k
  rcases own_form hr with ⟨e, e0⟩ | ⟨g, cap, e, _⟩
  · exact .inl ⟨e, List.eq_nil_of_length_eq_zero e0⟩
  · rw [e] at hr
    exact .inr ⟨⟨g, 0, none⟩, cap, e, hr.cells rfl⟩
set_option maxHeartbeats 4000000 in
set_option maxRecDepth 100000 in
theorem those45 (wn : Sp → Bool) (hW : ∀ p W, Calls Tryz.prog 45 #[.agg (sV p)] W fun e w' => e = .returned (.bool (wn p)) ∧ Below W.heap.size W w') (h : T0 w χ c B bm G Cp (getS L) (underL L) (0 :: idsL L)) (hF : Fit L) {k : Int} (hk : I64 k) :
    Calls Tryz.prog 44 #[ptr B, eI k, .func (.func 45) #[] #[]] w fun e w' => ∃ v, e = .returned v ∧ w'.ownsRow w.heap.size 3 1 v (thoseL L k wn).length ((thoseL L k wn).map eI) ∧ Below w.heap.size w w' := by
  have hml : L.length ≤ 64 := hF.few
  have hN : ∀ W : World, W.ownsRow w.heap.size 3 1 (.slice none 0 0) 0 (rowC fI ([] : List Int)) := fun W => World.ownsRow_nil _ _ _ _
  go_enter Tryz.func44, Tryz.ntmps44
  go_upto_region 3 with (first
    | (refine wl_sl 53 3 rfl rfl rfl Tryz.underlying53 (bsl3 _) ?_; intro w1 X1 T1))
  go_loopg [7, 8] 66 (fun gk s7 s8 wr => ∃ V Q, gk = 66 - V.length ∧ Lev L k V Q ∧ (∀ j ∈ Q, I64 j) ∧ wr.ownsRow w.heap.size 3 1 s7 (fdL L wn V).length (rowC fI (fdL L wn V)) ∧ LeftAt wr w.heap.size s8 Q ∧ (∀ g, s7.ownBlock = some g → s8.ownBlock ≠ some g) ∧ Below w.heap.size w wr)
  case atStart => exact ⟨[], [k], rfl, Lev.start L k, by simpa using hk, hN _, LeftAt.new X1 (Nat.le_refl _), (fun g e => by cases e), T1⟩
  case round =>
    clear X1 T1
    obtain ⟨V, Q, hgk, hLev, hQI, hO, hLft, hdis, hT⟩ := hrel
    cases Q with
    | nil =>
      obtain ⟨g, o1, cap, rfl, hq1⟩ := hLft.len
      have hfi := found_is hF.tree hLev wn
      have hO' := hO
      rw [rowI_map] at hO'
      have hfl : (fdL L wn V).length ≤ 100000 := by
        have h1 := hLev.len
        have h2 : (fdL L wn V).length ≤ V.length := List.length_filter_le _ _
        simp at h1
        omega
      have hlen : (fdL L wn V).length = (thoseL L k wn).length := by rw [← hfi, List.length_mergeSort]; rfl
      have hS := sort_own hO' hfl
      have hO0 : ∀ g, u7.ownBlock = some g → w.heap.size ≤ g := fun g e => (hO.lt g e).1
      clear hO hO' hfl hdis hLft hQI hLev h hW
      go_wp2_with (first
        | (go_at_call 58; (with_reducible refine hS.mono ?_); rintro e w5 ⟨rfl, ts, hts, O5, G5⟩))
      go_ret
      have e5 : ts = thoseL L k wn := by rw [hts, ← hfi]; rfl
      rw [e5, hlen] at O5
      exact ⟨_, rfl, O5, hT.grown G5 hT.size (fun g e => by
        rcases (hO0 g e) with h; exact h)⟩
    | cons x Q =>
      obtain ⟨g, o1, cap, rfl, c0, hq1, hq2, o2, had, hLt⟩ := hLft.cut
      have hxI := hQI x (by simp)
      have h0 := h.below hT
      have i1 : (0 : Int) < (Q.length : Int) + 1 := by omega
      have i2 : (1 : Int) ≤ (Q.length : Int) + 1 := by omega
      have i3 : (Q.length : Int) + 1 ≤ (cap : Int) := by omega
      have hst := hLev.step hF.tree
      have hvl := hst.len
      have hA := at_any (h0.below (Below.refl _ wr).drew) hxI
      go_upto_region 5 with (fail)
      refine wp_region_held_drew (S := fun _ => True) (by kernel_rfl) trivial (fun hHeld => ?_)
      refine wpAnyH_take (i := 0) (v := ?_) (by simp only [List.getElem?_toArray, List.getElem?_cons_zero]; rfl) (by kernel_rfl) (by kernel_rfl) (by kernel_rfl) (by exact fun _ _ _ h => h) (Or.inl ⟨by rfl, ?_⟩) (by assumption) ?_
      rotate_left
      · (intro w hSw; (try dsimp only at hSw); go_simp; (try with_reducible rfl))
      try simp only [Act.put, List.setIfInBounds_toArray, List.set_cons_zero, List.set_cons_succ]
      refine wpAnyH_take (i := 1) (v := ?_) (by simp only [List.getElem?_toArray, List.getElem?_cons_zero, List.getElem?_cons_succ]; rfl) (by kernel_rfl) (by kernel_rfl) (by kernel_rfl) (by exact fun _ _ _ h => h) (Or.inl ⟨by rfl, ?_⟩) (by assumption) ?_
      rotate_left
      · (intro w hSw; (try dsimp only at hSw); go_simp; (try with_reducible rfl))
      try simp only [Act.put, List.setIfInBounds_toArray, List.set_cons_zero, List.set_cons_succ]
      refine wpAnyH_take (i := 2) (v := ?_) (by simp only [List.getElem?_toArray, List.getElem?_cons_zero, List.getElem?_cons_succ]; rfl) (by kernel_rfl) (by kernel_rfl) (by kernel_rfl) (by exact fun _ _ _ h => h) (Or.inl ⟨by rfl, ?_⟩) (by assumption) ?_
      rotate_left
      · (intro w hSw; (try dsimp only at hSw); go_simp; (try with_reducible rfl))
      try simp only [Act.put, List.setIfInBounds_toArray, List.set_cons_zero, List.set_cons_succ]
      refine wpAnyH_take (i := 3) (v := ?_) (by simp only [List.getElem?_toArray, List.getElem?_cons_zero, List.getElem?_cons_succ]; rfl) (by kernel_rfl) (by kernel_rfl) (by kernel_rfl) (by exact fun _ _ _ h => h) (Or.inl ⟨by rfl, ?_⟩) (by assumption) ?_
      rotate_left
      · (intro w hSw; (try dsimp only at hSw); go_simp; (try with_reducible rfl))
      try simp only [Act.put, List.setIfInBounds_toArray, List.set_cons_zero, List.set_cons_succ]
      refine wpAnyH_ready (rs := [4]) (by kernel_rfl) (by simp) ?_
      refine AllReadyH.cons (by simp only [List.getElem?_toArray, List.getElem?_cons_zero, List.getElem?_cons_succ]; rfl) (fun K hK => ?_) AllReadyH.nil
      go_simp
      go_at_call 38
      (with_reducible refine hA.mono ?_)
      rintro e w1 ⟨rfl, T1⟩
      have T1' : Below wr.heap.size wr w1 := undrew T1
      have h1 := h0.below T1'
      have hw1 : wr.heap.size ≤ w1.heap.size := T1'.size
      refine hK.out _ _ trivial (fun hHeld => ?_)
      clear hK K
      try simp only [Act.put, List.setIfInBounds_toArray, List.set_cons_zero, List.set_cons_succ]
      refine wpAnyH_take (i := 5) (v := .slice (adr (G x)) (underL L x).length (Cp x)) (by simp only [List.getElem?_toArray, List.getElem?_cons_zero, List.getElem?_cons_succ]; rfl) (by kernel_rfl) (by kernel_rfl) (by kernel_rfl) (by exact fun _ _ _ h => h) (Or.inl ⟨by rfl, fun w hSw => xl_field1 rfl rfl⟩) (by assumption) ?_
      try simp only [Act.put, List.setIfInBounds_toArray, List.set_cons_zero, List.set_cons_succ]
      refine wpAnyH_ready (rs := [6]) (by kernel_rfl) (by simp) ?_
      refine AllReadyH.cons (by simp only [List.getElem?_toArray, List.getElem?_cons_zero, List.getElem?_cons_succ]; rfl) (fun K hK => ?_) AllReadyH.nil
      refine st_left (hLt.below T1') rfl rfl rfl rfl (under_src h1 x) (by have := underL_len L x; simp at hvl; omega) (Nat.le_trans hT.size hw1) ?_
      intro v2 w2 hL2 G2 N2
      refine hK.out _ _ trivial (fun hHeld => ?_)
      clear hK K
      try simp only [Act.put, List.setIfInBounds_toArray, List.set_cons_zero, List.set_cons_succ]
      refine wpAnyH_take (i := 7) (v := ?_) (by simp only [List.getElem?_toArray, List.getElem?_cons_zero, List.getElem?_cons_succ]; rfl) (by kernel_rfl) (by kernel_rfl) (by kernel_rfl) (by exact fun _ _ _ h => h) (Or.inl ⟨by rfl, ?_⟩) (by assumption) ?_
      rotate_left
      · (intro w hSw; (try dsimp only at hSw); go_simp; (try with_reducible rfl))
      try simp only [Act.put, List.setIfInBounds_toArray, List.set_cons_zero, List.set_cons_succ]
      refine wpAnyH_done (by kernel_rfl) ?_ _
      have S1 := ups hT T1' hT.size
      have O1 := own_below hO T1'
      have hgl := (hLt.lt g rfl)
      have S2 := S1.grown G2 S1.size (fun q e => by cases e; exact hgl.1)
      have O2 := O1.grown' G2 (fun q e e2 => hdis q e (by cases e2; rfl))
      have hd2 : ∀ q, u7.ownBlock = some q → v2.ownBlock ≠ some q := fun q e e2 => by
        rcases N2 with n | n
        · rw [n] at e2; exact hdis q e (by cases e2; rfl)
        · rw [n] at e2; cases e2
          have := (hO.lt _ e).2; omega
      have hv2n : v2.ownBlock ≠ none := by rcases N2 with n | n <;> rw [n] <;> simp [Value.ownBlock]
      have h2 := h.below S2
      have hQI2 : ∀ j ∈ Q ++ underL L x, I64 j := fun j hj => by
        rcases List.mem_append.1 hj with hj | hj
        · exact hQI j (by simp [hj])
        · obtain ⟨p, hp, _, e⟩ := mem_underL.1 hj
          rw [← e]; exact (hF.each p hp).1.1
      have hfl : (fdL L wn V).length + 1 ≤ 1000000 := by
        have h2 : (fdL L wn V).length ≤ V.length := List.length_filter_le _ _
        simp at hvl
        omega
      have hmeas : 66 - (V ++ [x]).length < gk := by
        rw [hgk]
        simp at hvl ⊢
        omega
      have hsn := fd_snoc (L := L) wn V x
      have hsn' := Lib.hid hsn
      have hst' := Lib.hid hst
      have hv := Lib.hid hvl
      have hLf := Lib.hid hLev
      clear hsn hst hvl hLev hA had hLt T1 T1' G2 c0 h0 h1 S1 O1 hO hLft
      cases hh : hasS L x with
      | false =>
        have hG := get_no h2 hxI (by
          rcases has_or L x with ⟨p, hp, e⟩ | hn
          · rw [hasS_iff.2 ⟨p, hp, e⟩] at hh; cases hh
          · exact getS_none hn)
        clear h h2
        go_wp2_with (first
          | (go_at_call 20; (with_reducible refine hG.mono ?_); rintro e w3 ⟨rfl, T3⟩; have O3 := own_below O2 T3; have L3 := hL2.below T3; have S3 := ups S2 T3 S2.size)
          | (refine wl_alloc 34 rfl rfl zero34 ?_; intro w4 X4 T4; have O4 := own_below O3 T4; have L4 := L3.below T4; have S4 := ups S3 T4 S3.size)
          | (refine wl_store 34 X4 rfl rfl rfl rfl size34 rfl (by omega : 0 + 14 ≤ 14) (sV_one _) (spl_ss _ _) ?_; intro w6 X6 K6; have O6 := own_but O4 K6 (own_lt_ne O3 (Nat.le_refl _)); have L6 := L4.but K6 (fun e => by have := (L3.lt _ e).2; omega); have S6 := K6.up S4 S3.size))
        go_roundg (66 - (V ++ [x]).length)
        case measure => exact hmeas
        case rel =>
          have e0 : fdL L wn (V ++ [x]) = fdL L wn V := by rw [hsn'.out, hh]; simp
          exact ⟨V ++ [x], Q ++ underL L x, rfl, hst'.out, hQI2, by rw [e0]; exact O6, L6, hd2, S6⟩
      | true =>
        have hG := get_yes h2 hxI (by
          obtain ⟨p, hp, e⟩ := hasS_iff.1 hh
          rw [← e, getS_mem hF.tree hp]
          rintro rfl
          exact no_zero hF.tree _ hp zero_id)
        clear h h2
        cases hwn : wn (getS L x) with
        | false =>
          go_wp2_with (first
            | (go_at_call 20; (with_reducible refine hG.mono ?_); rintro e w3 ⟨rfl, T3⟩; have O3 := own_below O2 T3; have L3 := hL2.below T3; have S3 := ups S2 T3 S2.size)
            | (refine wl_alloc 34 rfl rfl zero34 ?_; intro w4 X4 T4; have O4 := own_below O3 T4; have L4 := L3.below T4; have S4 := ups S3 T4 S3.size)
            | (refine wl_store 34 X4 rfl rfl rfl rfl size34 rfl (by omega : 0 + 14 ≤ 14) (sV_one _) (spl_ss _ _) ?_; intro w6 X6 K6; have O6 := own_but O4 K6 (own_lt_ne O3 (Nat.le_refl _)); have L6 := L4.but K6 (fun e => by have := (L3.lt _ e).2; omega); have S6 := K6.up S4 S3.size)
            | (refine wl_run (xl_load 34 X6 rfl rfl Tryz.underlying34 rfl size34 (by omega : 0 + 14 ≤ 14) (sV_all _)) rfl ?_; have hWp := hW (getS L x) w6)
            | (go_at_call 45; (with_reducible refine hWp.mono ?_); rintro e w7 ⟨rfl, T7⟩; rw [hwn]; have O7 := own_below O6 T7; have L7 := L6.below T7; have S7 := ups S6 T7 S6.size))
          go_roundg (66 - (V ++ [x]).length)
          case measure => exact hmeas
          case rel =>
            have e0 : fdL L wn (V ++ [x]) = fdL L wn V := by rw [hsn'.out, hwn]; simp
            exact ⟨V ++ [x], Q ++ underL L x, rfl, hst'.out, hQI2, by rw [e0]; exact O7, L7, hd2, S7⟩
        | true =>
          go_wp2_with (first
            | (go_at_call 20; (with_reducible refine hG.mono ?_); rintro e w3 ⟨rfl, T3⟩; have O3 := own_below O2 T3; have L3 := hL2.below T3; have S3 := ups S2 T3 S2.size)
            | (refine wl_alloc 34 rfl rfl zero34 ?_; intro w4 X4 T4; have O4 := own_below O3 T4; have L4 := L3.below T4; have S4 := ups S3 T4 S3.size)
            | (refine wl_store 34 X4 rfl rfl rfl rfl size34 rfl (by omega : 0 + 14 ≤ 14) (sV_one _) (spl_ss _ _) ?_; intro w6 X6 K6; have O6 := own_but O4 K6 (own_lt_ne O3 (Nat.le_refl _)); have L6 := L4.but K6 (fun e => by have := (L3.lt _ e).2; omega); have S6 := K6.up S4 S3.size)
            | (refine wl_run (xl_load 34 X6 rfl rfl Tryz.underlying34 rfl size34 (by omega : 0 + 14 ≤ 14) (sV_all _)) rfl ?_; have hWp := hW (getS L x) w6)
            | (go_at_call 45; (with_reducible refine hWp.mono ?_); rintro e w7 ⟨rfl, T7⟩; rw [hwn]; have O7 := own_below O6 T7; have L7 := L6.below T7; have S7 := ups S6 T7 S6.size)
            | (refine wl_sl 53 3 rfl rfl rfl Tryz.underlying53 (bsl3 _) ?_; intro w8 X8 T8; have O8 := own_below O7 T8; have L8 := L7.below T8; have S8 := ups S7 T8 S7.size; have F8 := flat_new (f := fI) (x := x) X8 rfl)
            | (refine wpList_more rowI cellsI rfl _ _ rfl w.heap.size u7 (fdL L wn V) [x] (fdL L wn V).length 1 rfl rfl rfl O8 _ 1 rfl F8 (by omega) S8.size ?_; intro v9 w9 O9 G9 N9 _; have S9 := S8.grown G9 S8.size (fun g e => (O8.lt g e).1); have L9 := L8.grown G9 (fun e => by
            cases hu : u7.ownBlock with
                | none => rw [hu] at e; exact absurd e hv2n
                | some q => rw [hu] at e; exact hd2 q hu e)))
          go_roundg (66 - (V ++ [x]).length)
          case measure => exact hmeas
          case rel =>
            have e0 : fdL L wn (V ++ [x]) = fdL L wn V ++ [x] := by rw [hsn'.out, hwn, hh]; simp
            refine ⟨V ++ [x], Q ++ underL L x, rfl, hst'.out, hQI2, by rw [e0, List.length_append]; exact O9, L9, fun q e e2 => ?_, S9⟩
            rcases N9 q e with n | n
            · exact hd2 q n e2
            · have := (L8.lt q e2).2; omega
set_option maxHeartbeats 4000000 in
set_option maxRecDepth 100000 in
theorem those46 (wn : Sp → Bool) (hW : ∀ p W, Calls Tryz.prog 46 #[.agg (sV p)] W fun e w' => e = .returned (.bool (wn p)) ∧ Below W.heap.size W w') (h : T0 w χ c B bm G Cp (getS L) (underL L) (0 :: idsL L)) (hF : Fit L) {k : Int} (hk : I64 k) :
    Calls Tryz.prog 44 #[ptr B, eI k, .func (.func 46) #[] #[]] w fun e w' => ∃ v, e = .returned v ∧ w'.ownsRow w.heap.size 3 1 v (thoseL L k wn).length ((thoseL L k wn).map eI) ∧ Below w.heap.size w w' := by
  have hml : L.length ≤ 64 := hF.few
  have hN : ∀ W : World, W.ownsRow w.heap.size 3 1 (.slice none 0 0) 0 (rowC fI ([] : List Int)) := fun W => World.ownsRow_nil _ _ _ _
  go_enter Tryz.func44, Tryz.ntmps44
  go_upto_region 3 with (first
    | (refine wl_sl 53 3 rfl rfl rfl Tryz.underlying53 (bsl3 _) ?_; intro w1 X1 T1))
  go_loopg [7, 8] 66 (fun gk s7 s8 wr => ∃ V Q, gk = 66 - V.length ∧ Lev L k V Q ∧ (∀ j ∈ Q, I64 j) ∧ wr.ownsRow w.heap.size 3 1 s7 (fdL L wn V).length (rowC fI (fdL L wn V)) ∧ LeftAt wr w.heap.size s8 Q ∧ (∀ g, s7.ownBlock = some g → s8.ownBlock ≠ some g) ∧ Below w.heap.size w wr)
  case atStart => exact ⟨[], [k], rfl, Lev.start L k, by simpa using hk, hN _, LeftAt.new X1 (Nat.le_refl _), (fun g e => by cases e), T1⟩
  case round =>
    clear X1 T1
    obtain ⟨V, Q, hgk, hLev, hQI, hO, hLft, hdis, hT⟩ := hrel
    cases Q with
    | nil =>
      obtain ⟨g, o1, cap, rfl, hq1⟩ := hLft.len
      have hfi := found_is hF.tree hLev wn
      have hO' := hO
      rw [rowI_map] at hO'
      have hfl : (fdL L wn V).length ≤ 100000 := by
        have h1 := hLev.len
        have h2 : (fdL L wn V).length ≤ V.length := List.length_filter_le _ _
        simp at h1
        omega
      have hlen : (fdL L wn V).length = (thoseL L k wn).length := by rw [← hfi, List.length_mergeSort]; rfl
      have hS := sort_own hO' hfl
      have hO0 : ∀ g, u7.ownBlock = some g → w.heap.size ≤ g := fun g e => (hO.lt g e).1
      clear hO hO' hfl hdis hLft hQI hLev h hW
      go_wp2_with (first
        | (go_at_call 58; (with_reducible refine hS.mono ?_); rintro e w5 ⟨rfl, ts, hts, O5, G5⟩))
      go_ret
      have e5 : ts = thoseL L k wn := by rw [hts, ← hfi]; rfl
      rw [e5, hlen] at O5
      exact ⟨_, rfl, O5, hT.grown G5 hT.size (fun g e => by
        rcases (hO0 g e) with h; exact h)⟩
    | cons x Q =>
      obtain ⟨g, o1, cap, rfl, c0, hq1, hq2, o2, had, hLt⟩ := hLft.cut
      have hxI := hQI x (by simp)
      have h0 := h.below hT
      have i1 : (0 : Int) < (Q.length : Int) + 1 := by omega
      have i2 : (1 : Int) ≤ (Q.length : Int) + 1 := by omega
      have i3 : (Q.length : Int) + 1 ≤ (cap : Int) := by omega
      have hst := hLev.step hF.tree
      have hvl := hst.len
      have hA := at_any (h0.below (Below.refl _ wr).drew) hxI
      go_upto_region 5 with (fail)
      refine wp_region_held_drew (S := fun _ => True) (by kernel_rfl) trivial (fun hHeld => ?_)
      refine wpAnyH_take (i := 0) (v := ?_) (by simp only [List.getElem?_toArray, List.getElem?_cons_zero]; rfl) (by kernel_rfl) (by kernel_rfl) (by kernel_rfl) (by exact fun _ _ _ h => h) (Or.inl ⟨by rfl, ?_⟩) (by assumption) ?_
      rotate_left
      · (intro w hSw; (try dsimp only at hSw); go_simp; (try with_reducible rfl))
      try simp only [Act.put, List.setIfInBounds_toArray, List.set_cons_zero, List.set_cons_succ]
      refine wpAnyH_take (i := 1) (v := ?_) (by simp only [List.getElem?_toArray, List.getElem?_cons_zero, List.getElem?_cons_succ]; rfl) (by kernel_rfl) (by kernel_rfl) (by kernel_rfl) (by exact fun _ _ _ h => h) (Or.inl ⟨by rfl, ?_⟩) (by assumption) ?_
      rotate_left
      · (intro w hSw; (try dsimp only at hSw); go_simp; (try with_reducible rfl))
      try simp only [Act.put, List.setIfInBounds_toArray, List.set_cons_zero, List.set_cons_succ]
      refine wpAnyH_take (i := 2) (v := ?_) (by simp only [List.getElem?_toArray, List.getElem?_cons_zero, List.getElem?_cons_succ]; rfl) (by kernel_rfl) (by kernel_rfl) (by kernel_rfl) (by exact fun _ _ _ h => h) (Or.inl ⟨by rfl, ?_⟩) (by assumption) ?_
      rotate_left
      · (intro w hSw; (try dsimp only at hSw); go_simp; (try with_reducible rfl))
      try simp only [Act.put, List.setIfInBounds_toArray, List.set_cons_zero, List.set_cons_succ]
      refine wpAnyH_take (i := 3) (v := ?_) (by simp only [List.getElem?_toArray, List.getElem?_cons_zero, List.getElem?_cons_succ]; rfl) (by kernel_rfl) (by kernel_rfl) (by kernel_rfl) (by exact fun _ _ _ h => h) (Or.inl ⟨by rfl, ?_⟩) (by assumption) ?_
      rotate_left
      · (intro w hSw; (try dsimp only at hSw); go_simp; (try with_reducible rfl))
      try simp only [Act.put, List.setIfInBounds_toArray, List.set_cons_zero, List.set_cons_succ]
      refine wpAnyH_ready (rs := [4]) (by kernel_rfl) (by simp) ?_
      refine AllReadyH.cons (by simp only [List.getElem?_toArray, List.getElem?_cons_zero, List.getElem?_cons_succ]; rfl) (fun K hK => ?_) AllReadyH.nil
      go_simp
      go_at_call 38
      (with_reducible refine hA.mono ?_)
      rintro e w1 ⟨rfl, T1⟩
      have T1' : Below wr.heap.size wr w1 := undrew T1
      have h1 := h0.below T1'
      have hw1 : wr.heap.size ≤ w1.heap.size := T1'.size
      refine hK.out _ _ trivial (fun hHeld => ?_)
      clear hK K
      try simp only [Act.put, List.setIfInBounds_toArray, List.set_cons_zero, List.set_cons_succ]
      refine wpAnyH_take (i := 5) (v := .slice (adr (G x)) (underL L x).length (Cp x)) (by simp only [List.getElem?_toArray, List.getElem?_cons_zero, List.getElem?_cons_succ]; rfl) (by kernel_rfl) (by kernel_rfl) (by kernel_rfl) (by exact fun _ _ _ h => h) (Or.inl ⟨by rfl, fun w hSw => xl_field1 rfl rfl⟩) (by assumption) ?_
      try simp only [Act.put, List.setIfInBounds_toArray, List.set_cons_zero, List.set_cons_succ]
      refine wpAnyH_ready (rs := [6]) (by kernel_rfl) (by simp) ?_
      refine AllReadyH.cons (by simp only [List.getElem?_toArray, List.getElem?_cons_zero, List.getElem?_cons_succ]; rfl) (fun K hK => ?_) AllReadyH.nil
      refine st_left (hLt.below T1') rfl rfl rfl rfl (under_src h1 x) (by have := underL_len L x; simp at hvl; omega) (Nat.le_trans hT.size hw1) ?_
      intro v2 w2 hL2 G2 N2
      refine hK.out _ _ trivial (fun hHeld => ?_)
      clear hK K
      try simp only [Act.put, List.setIfInBounds_toArray, List.set_cons_zero, List.set_cons_succ]
      refine wpAnyH_take (i := 7) (v := ?_) (by simp only [List.getElem?_toArray, List.getElem?_cons_zero, List.getElem?_cons_succ]; rfl) (by kernel_rfl) (by kernel_rfl) (by kernel_rfl) (by exact fun _ _ _ h => h) (Or.inl ⟨by rfl, ?_⟩) (by assumption) ?_
      rotate_left
      · (intro w hSw; (try dsimp only at hSw); go_simp; (try with_reducible rfl))
      try simp only [Act.put, List.setIfInBounds_toArray, List.set_cons_zero, List.set_cons_succ]
      refine wpAnyH_done (by kernel_rfl) ?_ _
      have S1 := ups hT T1' hT.size
      have O1 := own_below hO T1'
      have hgl := (hLt.lt g rfl)
      have S2 := S1.grown G2 S1.size (fun q e => by cases e; exact hgl.1)
      have O2 := O1.grown' G2 (fun q e e2 => hdis q e (by cases e2; rfl))
      have hd2 : ∀ q, u7.ownBlock = some q → v2.ownBlock ≠ some q := fun q e e2 => by
        rcases N2 with n | n
        · rw [n] at e2; exact hdis q e (by cases e2; rfl)
        · rw [n] at e2; cases e2
          have := (hO.lt _ e).2; omega
      have hv2n : v2.ownBlock ≠ none := by rcases N2 with n | n <;> rw [n] <;> simp [Value.ownBlock]
      have h2 := h.below S2
      have hQI2 : ∀ j ∈ Q ++ underL L x, I64 j := fun j hj => by
        rcases List.mem_append.1 hj with hj | hj
        · exact hQI j (by simp [hj])
        · obtain ⟨p, hp, _, e⟩ := mem_underL.1 hj
          rw [← e]; exact (hF.each p hp).1.1
      have hfl : (fdL L wn V).length + 1 ≤ 1000000 := by
        have h2 : (fdL L wn V).length ≤ V.length := List.length_filter_le _ _
        simp at hvl
        omega
      have hmeas : 66 - (V ++ [x]).length < gk := by
        rw [hgk]
        simp at hvl ⊢
        omega
      have hsn := fd_snoc (L := L) wn V x
      have hsn' := Lib.hid hsn
      have hst' := Lib.hid hst
      have hv := Lib.hid hvl
      have hLf := Lib.hid hLev
      clear hsn hst hvl hLev hA had hLt T1 T1' G2 c0 h0 h1 S1 O1 hO hLft
      cases hh : hasS L x with
      | false =>
        have hG := get_no h2 hxI (by
          rcases has_or L x with ⟨p, hp, e⟩ | hn
          · rw [hasS_iff.2 ⟨p, hp, e⟩] at hh; cases hh
          · exact getS_none hn)
        clear h h2
        go_wp2_with (first
          | (go_at_call 20; (with_reducible refine hG.mono ?_); rintro e w3 ⟨rfl, T3⟩; have O3 := own_below O2 T3; have L3 := hL2.below T3; have S3 := ups S2 T3 S2.size)
          | (refine wl_alloc 34 rfl rfl zero34 ?_; intro w4 X4 T4; have O4 := own_below O3 T4; have L4 := L3.below T4; have S4 := ups S3 T4 S3.size)
          | (refine wl_store 34 X4 rfl rfl rfl rfl size34 rfl (by omega : 0 + 14 ≤ 14) (sV_one _) (spl_ss _ _) ?_; intro w6 X6 K6; have O6 := own_but O4 K6 (own_lt_ne O3 (Nat.le_refl _)); have L6 := L4.but K6 (fun e => by have := (L3.lt _ e).2; omega); have S6 := K6.up S4 S3.size))
        go_roundg (66 - (V ++ [x]).length)
        case measure => exact hmeas
        case rel =>
          have e0 : fdL L wn (V ++ [x]) = fdL L wn V := by rw [hsn'.out, hh]; simp
          exact ⟨V ++ [x], Q ++ underL L x, rfl, hst'.out, hQI2, by rw [e0]; exact O6, L6, hd2, S6⟩
      | true =>
        have hG := get_yes h2 hxI (by
          obtain ⟨p, hp, e⟩ := hasS_iff.1 hh
          rw [← e, getS_mem hF.tree hp]
          rintro rfl
          exact no_zero hF.tree _ hp zero_id)
        clear h h2
        cases hwn : wn (getS L x) with
        | false =>
          go_wp2_with (first
            | (go_at_call 20; (with_reducible refine hG.mono ?_); rintro e w3 ⟨rfl, T3⟩; have O3 := own_below O2 T3; have L3 := hL2.below T3; have S3 := ups S2 T3 S2.size)
            | (refine wl_alloc 34 rfl rfl zero34 ?_; intro w4 X4 T4; have O4 := own_below O3 T4; have L4 := L3.below T4; have S4 := ups S3 T4 S3.size)
            | (refine wl_store 34 X4 rfl rfl rfl rfl size34 rfl (by omega : 0 + 14 ≤ 14) (sV_one _) (spl_ss _ _) ?_; intro w6 X6 K6; have O6 := own_but O4 K6 (own_lt_ne O3 (Nat.le_refl _)); have L6 := L4.but K6 (fun e => by have := (L3.lt _ e).2; omega); have S6 := K6.up S4 S3.size)
            | (refine wl_run (xl_load 34 X6 rfl rfl Tryz.underlying34 rfl size34 (by omega : 0 + 14 ≤ 14) (sV_all _)) rfl ?_; have hWp := hW (getS L x) w6)
            | (go_at_call 46; (with_reducible refine hWp.mono ?_); rintro e w7 ⟨rfl, T7⟩; rw [hwn]; have O7 := own_below O6 T7; have L7 := L6.below T7; have S7 := ups S6 T7 S6.size))
          go_roundg (66 - (V ++ [x]).length)
          case measure => exact hmeas
          case rel =>
            have e0 : fdL L wn (V ++ [x]) = fdL L wn V := by rw [hsn'.out, hwn]; simp
            exact ⟨V ++ [x], Q ++ underL L x, rfl, hst'.out, hQI2, by rw [e0]; exact O7, L7, hd2, S7⟩
        | true =>
          go_wp2_with (first
            | (go_at_call 20; (with_reducible refine hG.mono ?_); rintro e w3 ⟨rfl, T3⟩; have O3 := own_below O2 T3; have L3 := hL2.below T3; have S3 := ups S2 T3 S2.size)
            | (refine wl_alloc 34 rfl rfl zero34 ?_; intro w4 X4 T4; have O4 := own_below O3 T4; have L4 := L3.below T4; have S4 := ups S3 T4 S3.size)
            | (refine wl_store 34 X4 rfl rfl rfl rfl size34 rfl (by omega : 0 + 14 ≤ 14) (sV_one _) (spl_ss _ _) ?_; intro w6 X6 K6; have O6 := own_but O4 K6 (own_lt_ne O3 (Nat.le_refl _)); have L6 := L4.but K6 (fun e => by have := (L3.lt _ e).2; omega); have S6 := K6.up S4 S3.size)
            | (refine wl_run (xl_load 34 X6 rfl rfl Tryz.underlying34 rfl size34 (by omega : 0 + 14 ≤ 14) (sV_all _)) rfl ?_; have hWp := hW (getS L x) w6)
            | (go_at_call 46; (with_reducible refine hWp.mono ?_); rintro e w7 ⟨rfl, T7⟩; rw [hwn]; have O7 := own_below O6 T7; have L7 := L6.below T7; have S7 := ups S6 T7 S6.size)
            | (refine wl_sl 53 3 rfl rfl rfl Tryz.underlying53 (bsl3 _) ?_; intro w8 X8 T8; have O8 := own_below O7 T8; have L8 := L7.below T8; have S8 := ups S7 T8 S7.size; have F8 := flat_new (f := fI) (x := x) X8 rfl)
            | (refine wpList_more rowI cellsI rfl _ _ rfl w.heap.size u7 (fdL L wn V) [x] (fdL L wn V).length 1 rfl rfl rfl O8 _ 1 rfl F8 (by omega) S8.size ?_; intro v9 w9 O9 G9 N9 _; have S9 := S8.grown G9 S8.size (fun g e => (O8.lt g e).1); have L9 := L8.grown G9 (fun e => by
            cases hu : u7.ownBlock with
                | none => rw [hu] at e; exact absurd e hv2n
                | some q => rw [hu] at e; exact hd2 q hu e)))
          go_roundg (66 - (V ++ [x]).length)
          case measure => exact hmeas
          case rel =>
            have e0 : fdL L wn (V ++ [x]) = fdL L wn V ++ [x] := by rw [hsn'.out, hwn, hh]; simp
            refine ⟨V ++ [x], Q ++ underL L x, rfl, hst'.out, hQI2, by rw [e0, List.length_append]; exact O9, L9, fun q e e2 => ?_, S9⟩
            rcases N9 q e with n | n
            · exact hd2 q n e2
            · have := (L8.lt q e2).2; omega
end
end Go.Proofs.YtpopcnebndgblaaGreat.H

namespace Go.Proofs.YtpopcnebndgblaaGreat.H
open Go.ChangeShapes Go.WideShapes Go.Deep Go.RowKit
set_option linter.unusedVariables false
set_option linter.unusedSimpArgs false
open Go.Maps
section
variable {w w' : World} {χ χ' : Nat → Nat} {c d B bm : Nat} {G : Int → Option Nat} {Cp : Int → Nat} {L : List Sp}
set_option maxHeartbeats 4000000 in
set_option maxRecDepth 100000 in
theorem ids_any (h : Tre w χ c B L) : Calls Tryz.prog 22 #[ptr B] w fun e w' => ∃ v, e = .returned v ∧ w'.ownsRow w.heap.size 3 1 v (idsL L).length ((idsL L).map eI) ∧ Below w.heap.size w w' := by
  obtain ⟨⟨bm, G, Cp, h1⟩, hF⟩ := h
  have hA := those45 (fun _ => true) want45 h1 hF i64_zero
  rw [those_ids] at hA
  clear h1
  go_enter Tryz.func22, Tryz.ntmps22
  go_wp2_with (first | (go_at_call 44; (with_reducible refine hA.mono ?_); rintro e w1 ⟨v, rfl, O, T⟩))
  go_ret
  exact ⟨_, rfl, O, T⟩
set_option maxHeartbeats 4000000 in
set_option maxRecDepth 100000 in
theorem leaves_any (h : Tre w χ c B L) {k : Int} (hk : I64 k) : Calls Tryz.prog 25 #[ptr B, eI k] w fun e w' => ∃ v, e = .returned v ∧ w'.ownsRow w.heap.size 3 1 v (leavesL L k).length ((leavesL L k).map eI) ∧ Below w.heap.size w w' := by
  obtain ⟨⟨bm, G, Cp, h1⟩, hF⟩ := h
  have hA := those46 (fun s => s.leaf) want46 h1 hF hk
  rw [those_leaves] at hA
  clear h1
  go_enter Tryz.func25, Tryz.ntmps25
  go_wp2_with (first | (go_at_call 44; (with_reducible refine hA.mono ?_); rintro e w1 ⟨v, rfl, O, T⟩))
  go_ret
  exact ⟨_, rfl, O, T⟩
theorem recol_recol {χ : Nat → Nat} {n m d : Nat} (h : n ≤ m) : recol (recol χ n d) m d = recol χ n d := by
  funext k
  unfold recol
  by_cases h1 : k < m
  · rw [if_pos h1]
  · rw [if_neg h1, if_neg (by omega)]
/-- What a copy holds while it is made: what has been gone through. -/
def cpS (L : List Sp) (left : Lit → Bool) (k : Int) : Sp := if left (.int .i64 k) then Sp.zero else getS L k
def cpR (L : List Sp) (left : Lit → Bool) (k : Int) : List Int := if left (.int .i64 k) then [] else underL L k
structure CpI (w0 : World) (χ : Nat → Nat) (d C cm : Nat) (L : List Sp) (left : Lit → Bool) (W : World) : Prop where
  tree : ∃ G Cp ks, T0 W (recol χ w0.heap.size d) d C cm G Cp (cpS L left) (cpR L left) ks ∧ (∀ k, k ∈ ks ↔ (k = 0 ∨ (k ∈ 0 :: idsL L ∧ left (.int .i64 k) = false)))
  world : Below w0.heap.size w0 W
theorem own_adr {w : World} {base n size : Nat} {e : TypeId} {v : Value} {xs : List Value} (h : w.ownsRow base e size v n xs) : ∃ a c, v = .slice (adr a) n c := by
  rcases own_form h with ⟨rfl, rfl⟩ | ⟨g, cap, rfl, _⟩
  · exact ⟨none, 0, rfl⟩
  · exact ⟨some g, cap, rfl⟩
theorem iter_not {r n b cnt : Nat} {D : DataW Value} {left : Lit → Bool} (hr : w.ranges Tryz.prog 3 hE b r n D left cnt) : (∀ (vs : Array Value) (t : TypeId), ¬ Box w r vs t) ∧ ∀ es ck, w.heap[r]? ≠ some (.map es ck) := by
  obtain ⟨es, clock, since, seen, c0, hb, _, _, _, hi, _⟩ := hr
  refine ⟨fun vs t hB => ?_, fun es ck e => ?_⟩
  · rw [show w.heap[r]? = some (.cells vs t (0, 0)) from hB] at hi; cases hi
  · rw [e] at hi; cases hi
theorem T0.iter {S : Int → Sp} {R : Int → List Int} {ks : List Int} {r n b cnt : Nat} {D : DataW Value} {left : Lit → Bool} (h : T0 w χ c B bm G Cp S R ks) (hr : w.ranges Tryz.prog 3 hE b r n D left cnt) (E : Off (fun j => j = r) w w') : T0 w' χ c B bm G Cp S R ks where
  box := E.box h.box (fun e => (iter_not hr).1 _ _ (e ▸ h.box))
  colB := h.colB
  colM := h.colM
  map := h.map.off E (fun e => by
    obtain ⟨D', ⟨es, ck, hb, _⟩, _⟩ := h.map
    exact (iter_not hr).2 es ck (e ▸ hb))
  rows := fun k => E.owns (h.rows k) (fun g e e2 => by
    rcases (h.rows k).2 with ⟨e3, _⟩ | ⟨g', cap, cur, e3, _, hb, _⟩
    · rw [e3] at e; cases e
    · rw [e3] at e
      cases e
      exact (iter_not hr).1 cur 3 (e2 ▸ hb))
  colR := h.colR
  apart := h.apart
  few := h.few
  many := h.many
/-- One class more is copied. -/
theorem CpI.step {w0 : World} {C cm : Nat} {left : Lit → Bool} {W W' : World} (hF : Fit L) (h : CpI w0 χ d C cm L left W) {x : Int} (hx : x ∈ 0 :: idsL L) {G0 : Int → Option Nat} {C0 : Int → Nat} {ks : List Int} (hT : T0 W (recol χ w0.heap.size d) d C cm G0 C0 (cpS L left) (cpR L left) ks) (hk : ∀ k, k ∈ ks ↔ (k = 0 ∨ (k ∈ 0 :: idsL L ∧ left (.int .i64 k) = false)))
    {a8 : Option Nat} {c8 : Nat} (E : Off (fun j => j = cm) W W') (hM : MapV W' cm (fun j => if j = x then .agg (kV (getS L x) (adr a8) (underL L x).length c8) else .agg (kV (cpS L left j) (adr (G0 j)) (cpR L left j).length (C0 j))) (if x ∈ ks then ks else x :: ks))
    (hO : W'.ownsRow 0 3 1 (.slice (adr a8) (underL L x).length c8) (underL L x).length ((underL L x).map eI)) (hn : ∀ q, a8 = some q → W.heap.size ≤ q) (hcm : w0.heap.size ≤ cm) :
    CpI w0 χ d C cm L (fun z => left z && !z.sameKey (.int .i64 x)) W' := by
  have hl : (underL L x).length ≤ 64 := Nat.le_trans (underL_len L x) hF.few
  have hmem : ∀ k, k ∈ (if x ∈ ks then ks else x :: ks) ↔ (k = x ∨ k ∈ ks) := fun k => by
    split
    · rename_i hm; exact ⟨.inr, fun h => h.elim (fun e => e ▸ hm) id⟩
    · exact List.mem_cons
  have hnd : (if x ∈ ks then ks else x :: ks).Nodup := by obtain ⟨D, _, _, h3, _⟩ := hM; exact h3
  have hlen : (if x ∈ ks then ks else x :: ks).length ≤ 65 := by
    have := nodup_le (m := 0 :: idsL L) hnd (fun k hk2 => by
      rcases (hmem k).1 hk2 with rfl | hk2
      · exact hx
      · rcases (hk k).1 hk2 with rfl | ⟨h1, _⟩
        · simp
        · exact h1)
    have h2 := hF.few
    unfold idsL at this
    simp at this
    omega
  obtain ⟨t, kk⟩ := hT.turn (k := x) (p := getS L x) (g' := a8) (c' := c8) (zs := underL L x) (E.mono (fun j _ e => .inl e)) hM hO (fun q e => .inr (hn q e)) hl hlen
  rw [recol_recol h.world.size] at t
  refine ⟨⟨_, _, _, t.say (fun j => ?_) (fun j => ?_) hnd (fun _ => Iff.rfl), fun k => ?_⟩, h.world.trans ?_⟩
  · unfold cpS upd
    by_cases hj : j = x
    · subst hj; simp [Lit.sameKey]
    · simp [Lit.sameKey, hj]
  · unfold cpR upd
    by_cases hj : j = x
    · subst hj; simp [Lit.sameKey]
    · simp [Lit.sameKey, hj]
  · rw [hmem, hk]
    by_cases hj : k = x
    · subst hj; simp only [true_or, Lit.sameKey, true_iff]; exact .inr ⟨hx, by simp⟩
    · simp [Lit.sameKey, hj]
  · exact ⟨E.os, E.tape, E.output, E.size, fun j hj => E.block j (Nat.lt_of_lt_of_le hj h.world.size) (by omega)⟩
set_option maxHeartbeats 4000000 in
set_option maxRecDepth 100000 in
theorem copy_any (h : Tre w χ c B L) (d : Nat) : Calls Tryz.prog 17 #[ptr B] w fun e w' => ∃ C, e = .returned (ptr C) ∧ Tre w' (recol χ w.heap.size d) d C L ∧ Below w.heap.size w w' := by
  obtain ⟨⟨bm, G, Cp, h1⟩, hF⟩ := h
  have hM := made_yes h1.box
  have hNw := new_any w χ d
  go_enter Tryz.func17, Tryz.ntmps17
  go_upto_region 4 with (first
    | (go_at_call 29; (with_reducible refine hM.mono ?_); rintro e w1 ⟨rfl, rfl⟩)
    | (go_at_call 10; (with_reducible refine hNw.mono ?_); rintro e w2 ⟨C, cm, ⟨hcm, hCC⟩, rfl, t2, T2⟩))
  have h2 := h1.below T2
  have c0 := h2.box.cell 0
  obtain ⟨D, hown, hsz, hnd, hhas, hat⟩ := h2.map
  go_wp2_with (first
    | (at_range; refine wpList_range_own _ rfl _ 46 rfl 3 62 (int_keyed Tryz.underlying3) Tryz.underlying46 hE bm _ D rfl hown ?_; intro w3 hrg G3 Z3))
  have hB3 : Below w2.heap.size w2 w3 := ⟨G3.os, G3.tape, G3.output, G3.size, fun k hk => G3.block k hk (by simp)⟩
  have hst : CpI w χ d C cm L (Maps.has D) w3 := by
    refine ⟨⟨_, _, _, (t2.below hB3).say (fun k => ?_) (fun k => ?_) (by simp) (fun _ => Iff.rfl), fun k => ?_⟩, ups T2 hB3 T2.size⟩
    · unfold cpS
      cases hh : Maps.has D (.int .i64 k) with
      | true => rfl
      | false =>
        have hk : k ∉ 0 :: idsL L := fun e => by rw [(hhas k).2 e] at hh; cases hh
        rw [getS_none (fun p hp e => hk (List.mem_cons.2 (.inr (mem_ids.2 ⟨p, hp, e⟩))))]; rfl
    · unfold cpR
      cases hh : Maps.has D (.int .i64 k) with
      | true => rfl
      | false =>
        have hk : k ∉ 0 :: idsL L := fun e => by rw [(hhas k).2 e] at hh; cases hh
        rw [underL_none hF.tree (fun e => hk (by rw [e]; simp)) (fun p hp e => hk (List.mem_cons.2 (.inr (mem_ids.2 ⟨p, hp, e⟩))))]; rfl
    · rw [List.mem_singleton]
      constructor
      · exact .inl
      · rintro (e | ⟨e1, e2⟩)
        · exact e
        · rw [(hhas k).2 e1] at e2; cases e2
  have hbm2 : bm < w.heap.size := h1.map.lt
  have hT0 := T2.size
  have hh1 := Lib.hid h1
  have hs2 := Lib.hid hhas
  have hs3 := Lib.hid hat
  clear t2 hB3 G3 Z3 h2 h1 hM hNw c0 hown hsz hnd hhas hat T2
  go_loopg [4] (Maps.size D) (fun gk s4 wr => ∃ left, wr.ranges Tryz.prog 3 hE bm w2.heap.size ((idsL L).length + 1) D left gk ∧ CpI w χ d C cm L left wr)
  case atStart => exact ⟨_, hrg, hst⟩
  case round =>
    clear hrg hst
    obtain ⟨left, hrg, hI⟩ := hrel
    go_wp2_with (first
      | (at_next; refine wpList_next_ranges _ rfl _ rfl 3 (int_keyed Tryz.underlying3) hE eI id (fun key kl hk => by obtain ⟨x, hx, _⟩ := Maps.keyOf_int_inv Tryz.underlying3 hk; exact ⟨x, hx⟩) (fun v _ _ => ⟨v, rfl⟩) bm w2.heap.size _ _ _ _ rfl hrg ?_ ?_))
    · intro hc0 hl0
      go_wp2
      go_ret
      obtain ⟨⟨G9, C9, ks9, t9, hk9⟩, hw9⟩ := hI
      refine ⟨_, rfl, ⟨⟨cm, G9, C9, t9.say (fun k => ?_) (fun k => ?_) (ids_nodup hF.tree) (fun k => ?_)⟩, hF⟩, hw9⟩
      · unfold cpS; rw [hl0]; rfl
      · unfold cpR; rw [hl0]; rfl
      · rw [hk9, hl0]
        constructor
        · rintro (e | ⟨e, _⟩)
          · rw [e]; simp
          · exact e
        · intro e; exact .inr ⟨e, rfl⟩
    · intro x v kl ya yb w4 cnt4 hkey hlk hv hat4 hrg4 hlt4 hg4 hsz4 hen
      obtain ⟨x', ex, rfl, hwx⟩ := Maps.keyOf_int_inv Tryz.underlying3 hkey
      obtain rfl : x = x' := by simpa using ex
      have hxI : I64 x := by simp [Lit.wf, IntKind.min, IntKind.max, IntKind.bits, IntKind.signed] at hwx; unfold I64; omega
      have hxk : x ∈ 0 :: idsL L := (hs2.out x).1 (Maps.has_true_of_atKey hat4)
      obtain rfl : v = .agg (kV (getS L x) (adr (G x)) (underL L x).length (Cp x)) := by
        have e := hs3.out x
        rw [hat4] at e
        have e2 : (DataW.held v, ([] : List MemPlace)) = (ya, yb) := by unfold hE at hv; exact Option.some.inj hv
        injection e2 with e2 _
        rw [← e2] at e
        injection e
      have hI' := hI
      obtain ⟨⟨G9, C9, ks9, t9, hk9⟩, hw9⟩ := hI
      have hrlt := hrg.lt
      have E4 : Off (fun j => j = w2.heap.size) wr w4 := ⟨hg4.os, hg4.tape, hg4.output, hg4.size, fun k hk hn => hg4.block k hk (fun e => hn (by cases e; rfl))⟩
      have t4 : T0 w4 (recol χ w.heap.size d) d C cm G9 C9 (cpS L left) (cpR L left) ks9 := t9.iter hrg E4
      have hw4 : Below w.heap.size w w4 := hw9.grown hg4 hw9.size (fun g e => by cases e; exact hT0)
      have hI4 : CpI w χ d C cm L left w4 := ⟨⟨G9, C9, ks9, t4, hk9⟩, hw4⟩
      have hksl : ks9.length ≤ 5000 := by have := t4.many; omega
      have hneC := t4.neM
      have hr1 := own_below ((hh1.out).rows x) hw4
      have hlx : (underL L x).length ≤ 100000 := by have := underL_len L x; have := hF.few; omega
      clear hsz4
      go_upto_region 7 with (first
        | (refine wl_alloc 62 rfl rfl zero62 ?_; intro w5 X5 T5)
        | (refine wl_store 62 X5 rfl rfl rfl rfl size62 rfl (by omega : 0 + 15 ≤ 15) (kV_one _ _ _ _) (spl_kk _ _ _ _ _ _ _ _) ?_; intro w6 X7 K6))
      have hl5 : w4.heap.size < w5.heap.size := X5.lt
      have S6 : Below w4.heap.size w4 w6 := K6.up T5 (Nat.le_refl _)
      have t6 := t4.below S6
      have Y7 := t6.box
      have M7 : MapV w6.drew cm _ ks9 := t6.map
      have hcl4 := t4.map.lt
      have hneX : w4.heap.size ≠ cm := by omega
      have hCl := clone_own (own_below hr1 S6.drew) hlx
      clear K6 X5 T5 t6
      refine wp_region_held_drew (S := fun W => Box W C #[.map (some cm)] 48 ∧ Box W w4.heap.size (kV (getS L x) (adr (G x)) (underL L x).length (Cp x)) 62) (by kernel_rfl) ⟨Y7.drew, X7.drew⟩ (fun hHeld => ?_)
      refine wpAnyH_take (i := 0) (v := ?_) (by simp only [List.getElem?_toArray, List.getElem?_cons_zero]; rfl) (by kernel_rfl) (by kernel_rfl) (by kernel_rfl) (by exact fun _ _ _ h => h) (Or.inl ⟨by rfl, ?_⟩) (by assumption) ?_
      rotate_left
      · (intro w hSw; (try dsimp only at hSw); go_simp; (try with_reducible rfl))
      try simp only [Act.put, List.setIfInBounds_toArray, List.set_cons_zero, List.set_cons_succ]
      refine wpAnyH_take (i := 1) (v := ?_) (by simp only [List.getElem?_toArray, List.getElem?_cons_zero, List.getElem?_cons_succ]; rfl) (by kernel_rfl) (by kernel_rfl) (by kernel_rfl) (by exact fun _ _ _ h => h) (Or.inl ⟨by rfl, ?_⟩) (by assumption) ?_
      rotate_left
      · (intro w hSw; (try dsimp only at hSw); go_simp; (try with_reducible rfl))
      try simp only [Act.put, List.setIfInBounds_toArray, List.set_cons_zero, List.set_cons_succ]
      refine wpAnyH_take (i := 2) (v := ?_) (by simp only [List.getElem?_toArray, List.getElem?_cons_zero, List.getElem?_cons_succ]; rfl) (by kernel_rfl) (by kernel_rfl) (by kernel_rfl) (by exact fun _ _ _ h => h) (Or.inl ⟨by rfl, ?_⟩) (by assumption) ?_
      rotate_left
      · (intro w hSw; (try dsimp only at hSw); go_simp; (try with_reducible rfl))
      try simp only [Act.put, List.setIfInBounds_toArray, List.set_cons_zero, List.set_cons_succ]
      refine wpAnyH_take (i := 3) (v := .map (some cm)) (by simp only [List.getElem?_toArray, List.getElem?_cons_zero, List.getElem?_cons_succ]; rfl) (by kernel_rfl) (by kernel_rfl) (by kernel_rfl) (by exact fun _ _ _ h => h) (Or.inl ⟨by rfl, fun w hSw => xl_cell 46 hSw.1 rfl rfl Tryz.underlying46 rfl rfl⟩) (by assumption) ?_
      try simp only [Act.put, List.setIfInBounds_toArray, List.set_cons_zero, List.set_cons_succ]
      refine wpAnyH_take (i := 4) (v := ?_) (by simp only [List.getElem?_toArray, List.getElem?_cons_zero, List.getElem?_cons_succ]; rfl) (by kernel_rfl) (by kernel_rfl) (by kernel_rfl) (by exact fun _ _ _ h => h) (Or.inl ⟨by rfl, ?_⟩) (by assumption) ?_
      rotate_left
      · (intro w hSw; (try dsimp only at hSw); go_simp; (try with_reducible rfl))
      try simp only [Act.put, List.setIfInBounds_toArray, List.set_cons_zero, List.set_cons_succ]
      refine wpAnyH_take (i := 5) (v := ?_) (by simp only [List.getElem?_toArray, List.getElem?_cons_zero, List.getElem?_cons_succ]; rfl) (by kernel_rfl) (by kernel_rfl) (by kernel_rfl) (by exact fun _ _ _ h => h) (Or.inl ⟨by rfl, ?_⟩) (by assumption) ?_
      rotate_left
      · (intro w hSw; (try dsimp only at hSw); go_simp; (try with_reducible rfl))
      try simp only [Act.put, List.setIfInBounds_toArray, List.set_cons_zero, List.set_cons_succ]
      refine wpAnyH_take (i := 6) (v := .agg (sV (getS L x))) (by simp only [List.getElem?_toArray, List.getElem?_cons_zero, List.getElem?_cons_succ]; rfl) (by kernel_rfl) (by kernel_rfl) (by kernel_rfl) (by exact fun _ _ _ h => h) (Or.inl ⟨by rfl, fun w hSw => xl_load 34 hSw.2 rfl rfl Tryz.underlying34 rfl size34 (by omega : 0 + 14 ≤ 15) (kV_sp _ _ _ _)⟩) (by assumption) ?_
      try simp only [Act.put, List.setIfInBounds_toArray, List.set_cons_zero, List.set_cons_succ]
      refine wpAnyH_take (i := 7) (v := ?_) (by simp only [List.getElem?_toArray, List.getElem?_cons_zero, List.getElem?_cons_succ]; rfl) (by kernel_rfl) (by kernel_rfl) (by kernel_rfl) (by exact fun _ _ _ h => h) (Or.inl ⟨by rfl, ?_⟩) (by assumption) ?_
      rotate_left
      · (intro w hSw; (try dsimp only at hSw); go_simp; (try with_reducible rfl))
      try simp only [Act.put, List.setIfInBounds_toArray, List.set_cons_zero, List.set_cons_succ]
      refine wpAnyH_take (i := 8) (v := .slice (adr (G x)) (underL L x).length (Cp x)) (by simp only [List.getElem?_toArray, List.getElem?_cons_zero, List.getElem?_cons_succ]; rfl) (by kernel_rfl) (by kernel_rfl) (by kernel_rfl) (by exact fun _ _ _ h => h) (Or.inl ⟨by rfl, fun w hSw => xl_cell 53 hSw.2 rfl rfl Tryz.underlying53 rfl (kV_14 _ _ _ _)⟩) (by assumption) ?_
      try simp only [Act.put, List.setIfInBounds_toArray, List.set_cons_zero, List.set_cons_succ]
      refine wpAnyH_ready (rs := [9]) (by kernel_rfl) (by simp) ?_
      refine AllReadyH.cons (by simp only [List.getElem?_toArray, List.getElem?_cons_zero, List.getElem?_cons_succ]; rfl) (fun K hK => ?_) AllReadyH.nil
      go_simp
      go_at_call 41
      (with_reducible refine hCl.mono ?_)
      rintro e w8 ⟨v8, rfl, O8, T8⟩
      obtain ⟨a8, c8, hv8⟩ : ∃ a8 c8, v8 = .slice (adr a8) (underL L x).length c8 := own_adr O8
      subst hv8
      refine hK.out _ _ ⟨hHeld.1.below T8, hHeld.2.below T8⟩ (fun hHeld => ?_)
      clear hK K
      try simp only [Act.put, List.setIfInBounds_toArray, List.set_cons_zero, List.set_cons_succ]
      refine wpAnyH_take (i := 10) (v := .agg (kV (getS L x) (adr a8) (underL L x).length c8)) (by simp only [List.getElem?_toArray, List.getElem?_cons_zero, List.getElem?_cons_succ]; rfl) (by kernel_rfl) (by kernel_rfl) (by kernel_rfl) (by exact fun _ _ _ h => h) (Or.inl ⟨by rfl, fun w hSw => xl_build 62 (parts := [(0, .tmp 26), (1, .tmp 29)]) (built62 _ _ _ _) rfl⟩) (by assumption) ?_
      try simp only [Act.put, List.setIfInBounds_toArray, List.set_cons_zero, List.set_cons_succ]
      refine wpAnyH_ready (rs := [11]) (by kernel_rfl) (by simp) ?_
      refine AllReadyH.cons (by simp only [List.getElem?_toArray, List.getElem?_cons_zero, List.getElem?_cons_succ]; rfl) (fun K hK => ?_) AllReadyH.nil
      refine st_upd rfl rfl (M7.below T8) hksl rfl x rfl hxI (.agg (kV (getS L x) (adr a8) (underL L x).length c8)) rfl ?_
      intro wc Mc Kc Sc
      refine hK.out _ _ ⟨Kc.box hHeld.1 hneC, Kc.box hHeld.2 hneX⟩ (fun hHeld => ?_)
      clear hK K
      try simp only [Act.put, List.setIfInBounds_toArray, List.set_cons_zero, List.set_cons_succ]
      refine wpAnyH_done (by kernel_rfl) ?_ _
      have E8 : Off (fun j => j = cm) w4 wc := ((Off.of (S6.drew)).up T8).but Kc (.inr rfl)
      have hO8 : wc.ownsRow 0 3 1 (.slice (adr a8) (underL L x).length c8) (underL L x).length ((underL L x).map eI) := own_but (own_mono O8 (Nat.zero_le _)) Kc (fun e => by
        have := (O8.lt _ e).1
        have h2 := S6.size
        have h3 : w6.drew.heap.size = w6.heap.size := rfl
        omega)
      have hn8 : ∀ q, a8 = some q → w4.heap.size ≤ q := fun q e => by
        have h1 := (O8.lt q (by rw [adr_own]; exact e)).1
        have h2 := S6.size
        have h3 : w6.drew.heap.size = w6.heap.size := rfl
        omega
      have hIc := hI4.step hF hxk t4 hk9 E8 Mc hO8 hn8 hcm
      have hrgc := hrg4.kept (row := some cm) ⟨E8.os, E8.tape, E8.output, E8.size, fun k hk hn => E8.block k hk (fun e => hn (by rw [e]))⟩ (fun e => by cases e; omega) (fun e => by
        cases e
        obtain ⟨D', ⟨es, ck, hb, _⟩, _⟩ := t4.map
        exact (iter_not hrg4).2 es ck hb)
      clear Mc Kc hHeld X7 Y7 M7 hCl T8 O8 S6
      go_wp2
      go_roundg cnt4
      case measure => exact hlt4
      case rel => exact ⟨_, hrgc, hIc⟩
end
end Go.Proofs.YtpopcnebndgblaaGreat.H
