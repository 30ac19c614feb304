/- A nil tree, and one that nobody made, is empty and takes nothing: the walk of the statement. -/
import Derived.Test.YtjfpemkdidoacaaVE
import Derived.LoopNIn
namespace Go.Proofs.Ytjfpemkdidoacaa
open Go.RowKit Go.Shelf
set_option linter.unusedVariables false
set_option linter.unusedSimpArgs false
attribute [local go_sem] Oper.semAt_some
/-- What lies in the call's own memory from start to end; the marks of loops that are done. -/
structure NS (w : World) (x : Ac) (D : List Nat) (W : World) : Prop where
  a : Box W w.heap.size #[eU x.k.1, eI x.k.2, eU x.v, .bool x.d] 34
  z : Box W (w.heap.size + 1) #[.nilFunc, .nilFunc, .pointer none, .int .i64 0] 57
  l : Box W (w.heap.size + 1 + 1) #[.pointer none, .pointer (some ⟨w.heap.size + 1, 0, none⟩)] 23
  b : Below w.heap.size w W
  d : ∀ d ∈ D, w.heap.size ≤ d ∧ W.heap[d]? = some (.deferred (some []))
theorem NS.below {w W W' : World} {x : Ac} {D : List Nat} (h : NS w x D W) (hb : Below W.heap.size W W') : NS w x D W' :=
  ⟨h.a.below hb, h.z.below hb, h.l.below hb, upp h.b hb, fun d hd => ⟨(h.d d hd).1, (hb.block d (Array.getElem?_eq_some_iff.1 (h.d d hd).2).1).trans (h.d d hd).2⟩⟩
theorem NS.lt {w W : World} {x : Ac} {D : List Nat} (h : NS w x D W) : ∀ d ∈ D, d < W.heap.size := fun d hd => (Array.getElem?_eq_some_iff.1 (h.d d hd).2).1
theorem NS.turn {w X Y : World} {x : Ac} {D : List Nat} {B : Nat} {row : Option Nat} (h : NS w x D X) (hg : X.grownBy Y row) (hr : ∀ r, row = some r → B ≤ r) (hb : w.heap.size + 3 ≤ B) (hD : ∀ d ∈ D, d < B) : NS w x D Y :=
  ⟨h.a.turn hg hr (by omega), h.z.turn hg hr (by omega), h.l.turn hg hr (by omega), below_turn h.b hg hr (by omega), fun d hd =>
    ⟨(h.d d hd).1, (hg.block d (Array.getElem?_eq_some_iff.1 (h.d d hd).2).1 (fun e => by have := hr d e.symm; have := hD d hd; omega)).trans (h.d d hd).2⟩⟩
theorem NS.zt {w W : World} {x : Ac} {D : List Nat} (h : NS w x D W) : Zt (some ⟨w.heap.size + 1, 0, none⟩) W := .inr ⟨_, rfl, h.z⟩
theorem zN (W : World) : Zt none W := .inl rfl
theorem NS.more {w W : World} {x : Ac} {D : List Nat} {d : Nat} (h : NS w x D W) (h1 : w.heap.size ≤ d) (h2 : W.heap[d]? = some (.deferred (some []))) : NS w x (d :: D) W :=
  ⟨h.a, h.z, h.l, h.b, fun e he => by
    rcases List.mem_cons.1 he with rfl | he
    · exact ⟨h1, h2⟩
    · exact h.d e he⟩
/-- The round's own cells: two keys, a count. -/
structure NR (w : World) (x : Ac) (D : List Nat) (k9 k15 k18 : Nat) (W : World) : Prop where
  s : NS w x D W
  h9 : Box W k9 #[eU 0, eI 0] 32
  h15 : Box W k15 #[eU 0, eI 0] 32
  h18 : Box W k18 #[eI 0] 3
def NI (w : World) (x : Ac) (D : List Nat) (k9 k15 k18 : Nat) (pre : List It) (W : World) : Prop := pre = [] ∧ NR w x D k9 k15 k18 W
theorem NI.own (w : World) (x : Ac) (D : List Nat) (k9 k15 k18 : Nat) (B : Nat) (h3 : w.heap.size + 3 ≤ B) (h9 : k9 < B) (h15 : k15 < B) (h18 : k18 < B) (hD : ∀ d ∈ D, d < B) : AbidesAll B (NI w x D k9 k15 k18) := by
  rintro s X Y row ⟨h1, h2, h4, h5, h6⟩ hg hr
  exact ⟨h1, h2.turn hg hr h3 hD, h4.turn hg hr h9, h5.turn hg hr h15, h6.turn hg hr h18⟩
set_option maxRecDepth 100000 in
set_option maxHeartbeats 2500000 in
theorem TreeNone_walk (x : Ac) (w : World) (hx : x.word) : Calls Try.prog 5 #[.agg #[eU x.k.1, eI x.k.2, eU x.v, .bool x.d]] w fun e w' => e = .returned (.bool true) ∧ Below w.heap.size w w' := by
  have hmf : ∀ (fn : Fn) (first cap : Array Value) (w : World), (Instr.makeFunc fn first cap).run Try.prog w = .ok (.func fn first cap) w := fun _ _ _ _ => rfl
  have hnf : ∀ (b : Nat) (w : World), (binOp BinOp.eql 61 (.func (.func 52) #[] #[.pointer (some ⟨b, 0, none⟩)]) .nilFunc).run Try.prog w = .ok (.bool false) w := fun _ _ => by kernel_rfl
  refine (callsIn_wide (n := 12)).1 ?_
  refine callsIn_of_wp_marks Try.func5 rfl trivial ?_ rfl
  simp only [Try.ntmps5, List.size_toArray, List.length_cons, List.length_nil, Nat.reduceAdd, Nat.reduceSub, Array.replicate_succ, Array.replicate_zero, List.push_toArray, List.append_toArray, List.nil_append, List.cons_append]
  gi_wp2_with fail
  have BA := ((Box.new w 34 #[eU x.k.1, eI x.k.2, eU x.v, .bool x.d]).alloc (.cells #[.nilFunc, .nilFunc, .pointer none, .int .i64 0] 57)).alloc (.cells #[.pointer none, .pointer (some ⟨w.heap.size + 1, 0, none⟩)] 23)
  have BZ := (Box.new (w.alloc (.cells #[eU x.k.1, eI x.k.2, eU x.v, .bool x.d] 34)) 57 #[.nilFunc, .nilFunc, .pointer none, .int .i64 0]).alloc (.cells #[.pointer none, .pointer (some ⟨w.heap.size + 1, 0, none⟩)] 23)
  have BL := Box.new ((w.alloc (.cells #[eU x.k.1, eI x.k.2, eU x.v, .bool x.d] 34)).alloc (.cells #[.nilFunc, .nilFunc, .pointer none, .int .i64 0] 57)) 23 #[.pointer none, .pointer (some ⟨w.heap.size + 1, 0, none⟩)]
  have T := up3 w (.cells #[eU x.k.1, eI x.k.2, eU x.v, .bool x.d] 34) (.cells #[.nilFunc, .nilFunc, .pointer none, .int .i64 0] 57) (.cells #[.pointer none, .pointer (some ⟨w.heap.size + 1, 0, none⟩)] 23)
  have hsz : (((w.alloc (.cells #[eU x.k.1, eI x.k.2, eU x.v, .bool x.d] 34)).alloc (.cells #[.nilFunc, .nilFunc, .pointer none, .int .i64 0] 57)).alloc (.cells #[.pointer none, .pointer (some ⟨w.heap.size + 1, 0, none⟩)] 23)).heap.size = w.heap.size + 3 := by simp
  simp only [World.size_alloc] at BZ BL
  obtain ⟨W0, hW0⟩ : ∃ W0, ((w.alloc (.cells #[eU x.k.1, eI x.k.2, eU x.v, .bool x.d] 34)).alloc (.cells #[.nilFunc, .nilFunc, .pointer none, .int .i64 0] 57)).alloc (.cells #[.pointer none, .pointer (some ⟨w.heap.size + 1, 0, none⟩)] 23) = W0 := ⟨_, rfl⟩
  rw [hW0] at BA BZ BL T hsz ⊢
  clear hW0
  have S : NS w x [] W0 := ⟨BA, BZ, BL, T, fun d hd => by cases hd⟩
  clear BA BZ BL T
  have hs3 : w.heap.size + 3 ≤ W0.heap.size := by omega
  clear hsz
  refine wpIn_loop_rounds 3 ?_
  rw [roundsIn_succ]
  have a0 := S.a.cell 0
  have a1 := S.a.cell 1
  have a2 := S.a.cell 2
  have s0 := S.l.cell 0
  have s1 := S.l.cell 1
  (try simp only [Nat.zero_add] at a0 a1 a2 s0 s1)
  gi_wp2_with (first | (refine ⟨trivial, ?_⟩; gi_at_call 17; refine (callsIn_wide.2 (z_get (none) x.k _ (zN _))).mono ?_; rintro e w1 ⟨rfl, hb⟩; replace S := S.below hb; replace hs3 := Nat.le_trans hs3 hb.size; clear hb; clear a0 a1 a2 s0 s1; have a0 := S.a.cell 0; have a1 := S.a.cell 1; have a2 := S.a.cell 2; have s0 := S.l.cell 0; have s1 := S.l.cell 1; (try simp only [Nat.zero_add] at a0 a1 a2 s0 s1)) | (refine ⟨trivial, ?_⟩; gi_at_call 25; refine (callsIn_wide.2 (z_first (none) _ (zN _))).mono ?_; rintro e w2 ⟨rfl, hb⟩; replace S := (S.below hb).below (up1 w2 (.cells #[.int .u64 0, .int .i64 0] 32)); replace hs3 := Nat.le_trans hs3 hb.size; have K9 := Box.new w2 32 #[eU 0, eI 0]; have hk9 := hs3; clear hb; clear a0 a1 a2 s0 s1; have a0 := S.a.cell 0; have a1 := S.a.cell 1; have a2 := S.a.cell 2; have s0 := S.l.cell 0; have s1 := S.l.cell 1; (try simp only [Nat.zero_add] at a0 a1 a2 s0 s1)) | (refine ⟨trivial, ?_⟩; gi_at_call 21; refine (callsIn_wide.2 (z_all (none) _ (zN _))).mono ?_; rintro e w3 ⟨rfl, rfl⟩) | (refine ⟨trivial, ?_⟩; gi_at_call 19; refine (callsIn_wide.2 (z_upto (none) x.v _ (zN _))).mono ?_; rintro e w4 ⟨rfl, hb⟩; replace S := S.below hb; replace K9 := K9.below hb; clear hb; clear a0 a1 a2 s0 s1; have a0 := S.a.cell 0; have a1 := S.a.cell 1; have a2 := S.a.cell 2; have s0 := S.l.cell 0; have s1 := S.l.cell 1; (try simp only [Nat.zero_add] at a0 a1 a2 s0 s1)) | (refine ⟨trivial, ?_⟩; gi_at_call 22; refine (callsIn_wide.2 (z_find (none) x.v _ (zN _))).mono ?_; rintro e w5 ⟨rfl, hb⟩; replace S := (S.below hb).below (up1 w5 (.cells #[.int .u64 0, .int .i64 0] 32)); replace K9 := (K9.below hb).alloc (.cells #[.int .u64 0, .int .i64 0] 32); have K15 := Box.new w5 32 #[eU 0, eI 0]; clear hb; clear a0 a1 a2 s0 s1; have a0 := S.a.cell 0; have a1 := S.a.cell 1; have a2 := S.a.cell 2; have s0 := S.l.cell 0; have s1 := S.l.cell 1; (try simp only [Nat.zero_add] at a0 a1 a2 s0 s1)) | (refine ⟨trivial, ?_⟩; gi_at_call 26; refine (callsIn_wide.2 (eachT_any (none) _)).mono ?_; rintro e w6 ⟨rfl, rfl⟩))
  clear a0 a1 a2 s0 s1
  replace S := (S.below (up1 _ (.cells #[.pointer (none)] 23))).below (up1 _ (.cells #[.int .i64 0] 3))
  replace K9 := (K9.alloc (.cells #[.pointer (none)] 23)).alloc (.cells #[.int .i64 0] 3)
  replace K15 := (K15.alloc (.cells #[.pointer (none)] 23)).alloc (.cells #[.int .i64 0] 3)
  have KC := (Box.new (w5.alloc (.cells #[.int .u64 0, .int .i64 0] 32)) 23 #[.pointer (none)]).alloc (.cells #[.int .i64 0] 3)
  have K18 := Box.new ((w5.alloc (.cells #[.int .u64 0, .int .i64 0] 32)).alloc (.cells #[.pointer (none)] 23)) 3 #[.int .i64 0]
  have e2 : (((w5.alloc (.cells #[.int .u64 0, .int .i64 0] 32)).alloc (.cells #[.pointer (none)] 23)).alloc (.cells #[.int .i64 0] 3)).heap.size = w5.heap.size + 3 := by simp
  simp only [World.size_alloc] at K18 KC
  obtain ⟨W2, hW2⟩ : ∃ W2, (((w5.alloc (.cells #[.int .u64 0, .int .i64 0] 32)).alloc (.cells #[.pointer (none)] 23)).alloc (.cells #[.int .i64 0] 3)) = W2 := ⟨_, rfl⟩
  rw [hW2] at S K9 K15 KC K18 e2 ⊢
  clear hW2
  have hseq := z_each (none) 11 (w5.heap.size + 1) w.heap.size W2 (zN _) S.b.size (by omega) KC
  have hw2 : w2.heap.size < W2.heap.size := K9.lt
  have hDlt := S.lt
  refine loopC (by omega) (gf := 52) (lb := #[.pointer (some ⟨w5.heap.size + 1, 0, none⟩)]) rfl (enters_of Try.func52 (by kernel_rfl) rfl) (n₀ := w.heap.size) (by omega) hseq (fun _ => rfl)
    (NI w x [] w2.heap.size w5.heap.size (w5.heap.size + 1 + 1)) (fun _ _ _ => False) (NI.own w x [] _ _ _ _ (by omega) hw2 (by omega) (by omega) hDlt) (fun c _ _ _ _ h => h.elim) ⟨rfl, S, K9, K15, K18⟩
    (fun _ _ _ => True) (fun _ _ _ _ _ _ _ _ _ => trivial) ?assign0 ?body0 ?done0 ?stop0
  case assign0 =>
    rintro l0 pre x0 W K hzW hI hK
    gi_wp2
    exact hK _ _ (Mid.refl _ _ _) hI trivial
  case body0 =>
    rintro l0 pre x0 a' W hzW _ _ hpx
    simp at hpx
  case stop0 =>
    rintro D c pre W hD _ h hK
    exact h.elim
  case done0 =>
    rintro D0 xs W hD rfl ⟨_, S, K9, K15, K18⟩ hK
    replace S := S.more (d := D0) (by omega) hK
    skip
    clear hseq hK hDlt
    have a0 := S.a.cell 0
    have a1 := S.a.cell 1
    have a2 := S.a.cell 2
    have s0 := S.l.cell 0
    have s1 := S.l.cell 1
    (try simp only [Nat.zero_add] at a0 a1 a2 s0 s1)
    have k0 := K9.cell 0
    have k1 := K9.cell 1
    have j0 := K15.cell 0
    have j1 := K15.cell 1
    have c18 := K18.cell 0
    gi_wp2_with (first | (refine ⟨trivial, ?_⟩; gi_at_call 13; refine (callsIn_wide.2 (z_put (none) x.k x.v _ (zN _))).mono ?_; rintro e w7 ⟨rfl, hb⟩; replace S := S.below hb; replace K9 := K9.below hb; replace K15 := K15.below hb; replace K18 := K18.below hb; clear hb a0 a1 a2 s0 s1 k0 k1 j0 j1 c18; have a0 := S.a.cell 0; have a1 := S.a.cell 1; have a2 := S.a.cell 2; have s0 := S.l.cell 0; have s1 := S.l.cell 1; (try simp only [Nat.zero_add] at a0 a1 a2 s0 s1); have k0 := K9.cell 0; have k1 := K9.cell 1; have j0 := K15.cell 0; have j1 := K15.cell 1; have c18 := K18.cell 0) | (refine ⟨trivial, ?_⟩; gi_at_call 14; refine (callsIn_wide.2 (z_drop (none) x.k _ (zN _))).mono ?_; rintro e w7 ⟨rfl, hb⟩; replace S := S.below hb; replace K9 := K9.below hb; replace K15 := K15.below hb; replace K18 := K18.below hb; clear hb a0 a1 a2 s0 s1 k0 k1 j0 j1 c18; have a0 := S.a.cell 0; have a1 := S.a.cell 1; have a2 := S.a.cell 2; have s0 := S.l.cell 0; have s1 := S.l.cell 1; (try simp only [Nat.zero_add] at a0 a1 a2 s0 s1); have k0 := K9.cell 0; have k1 := K9.cell 1; have j0 := K15.cell 0; have j1 := K15.cell 1; have c18 := K18.cell 0) | (refine ⟨trivial, ?_⟩; gi_at_call 27; refine (callsIn_wide.2 (z_len (none) _ (zN _))).mono ?_; rintro e w7 ⟨rfl, rfl⟩) | (refine ⟨trivial, ?_⟩; gi_at_call 28; refine (callsIn_wide.2 (z_height (none) _ (zN _))).mono ?_; rintro e w7 ⟨rfl, hb⟩; replace S := S.below hb; replace K9 := K9.below hb; replace K15 := K15.below hb; replace K18 := K18.below hb; clear hb a0 a1 a2 s0 s1 k0 k1 j0 j1 c18; have a0 := S.a.cell 0; have a1 := S.a.cell 1; have a2 := S.a.cell 2; have s0 := S.l.cell 0; have s1 := S.l.cell 1; (try simp only [Nat.zero_add] at a0 a1 a2 s0 s1); have k0 := K9.cell 0; have k1 := K9.cell 1; have j0 := K15.cell 0; have j1 := K15.cell 1; have c18 := K18.cell 0) | (refine ⟨trivial, ?_⟩; gi_at_call 29; refine (callsIn_wide.2 (z_well (none) _ (zN _))).mono ?_; rintro e w7 ⟨rfl, hb⟩; replace S := S.below hb; replace K9 := K9.below hb; replace K15 := K15.below hb; replace K18 := K18.below hb; clear hb a0 a1 a2 s0 s1 k0 k1 j0 j1 c18; have a0 := S.a.cell 0; have a1 := S.a.cell 1; have a2 := S.a.cell 2; have s0 := S.l.cell 0; have s1 := S.l.cell 1; (try simp only [Nat.zero_add] at a0 a1 a2 s0 s1); have k0 := K9.cell 0; have k1 := K9.cell 1; have j0 := K15.cell 0; have j1 := K15.cell 1; have c18 := K18.cell 0))
    clear K9 K15 K18 k0 k1 j0 j1 c18 a0 a1 a2 s0 s1 e2 hw2
    replace hs3 : w.heap.size + 3 ≤ _ := Nat.succ_le_of_lt S.l.lt
    rw [roundsIn_succ]
    have a0 := S.a.cell 0
    have a1 := S.a.cell 1
    have a2 := S.a.cell 2
    have s0 := S.l.cell 0
    have s1 := S.l.cell 1
    (try simp only [Nat.zero_add] at a0 a1 a2 s0 s1)
    gi_wp2_with (first | (refine ⟨trivial, ?_⟩; gi_at_call 17; refine (callsIn_wide.2 (z_get (some ⟨w.heap.size + 1, 0, none⟩) x.k _ (S.zt))).mono ?_; rintro e w1 ⟨rfl, hb⟩; replace S := S.below hb; replace hs3 := Nat.le_trans hs3 hb.size; clear hb; clear a0 a1 a2 s0 s1; have a0 := S.a.cell 0; have a1 := S.a.cell 1; have a2 := S.a.cell 2; have s0 := S.l.cell 0; have s1 := S.l.cell 1; (try simp only [Nat.zero_add] at a0 a1 a2 s0 s1)) | (refine ⟨trivial, ?_⟩; gi_at_call 25; refine (callsIn_wide.2 (z_first (some ⟨w.heap.size + 1, 0, none⟩) _ (S.zt))).mono ?_; rintro e w2 ⟨rfl, hb⟩; replace S := (S.below hb).below (up1 w2 (.cells #[.int .u64 0, .int .i64 0] 32)); replace hs3 := Nat.le_trans hs3 hb.size; have K9 := Box.new w2 32 #[eU 0, eI 0]; have hk9 := hs3; clear hb; clear a0 a1 a2 s0 s1; have a0 := S.a.cell 0; have a1 := S.a.cell 1; have a2 := S.a.cell 2; have s0 := S.l.cell 0; have s1 := S.l.cell 1; (try simp only [Nat.zero_add] at a0 a1 a2 s0 s1)) | (refine ⟨trivial, ?_⟩; gi_at_call 21; refine (callsIn_wide.2 (z_all (some ⟨w.heap.size + 1, 0, none⟩) _ (S.zt))).mono ?_; rintro e w3 ⟨rfl, rfl⟩) | (refine ⟨trivial, ?_⟩; gi_at_call 19; refine (callsIn_wide.2 (z_upto (some ⟨w.heap.size + 1, 0, none⟩) x.v _ (S.zt))).mono ?_; rintro e w4 ⟨rfl, hb⟩; replace S := S.below hb; replace K9 := K9.below hb; clear hb; clear a0 a1 a2 s0 s1; have a0 := S.a.cell 0; have a1 := S.a.cell 1; have a2 := S.a.cell 2; have s0 := S.l.cell 0; have s1 := S.l.cell 1; (try simp only [Nat.zero_add] at a0 a1 a2 s0 s1)) | (refine ⟨trivial, ?_⟩; gi_at_call 22; refine (callsIn_wide.2 (z_find (some ⟨w.heap.size + 1, 0, none⟩) x.v _ (S.zt))).mono ?_; rintro e w5 ⟨rfl, hb⟩; replace S := (S.below hb).below (up1 w5 (.cells #[.int .u64 0, .int .i64 0] 32)); replace K9 := (K9.below hb).alloc (.cells #[.int .u64 0, .int .i64 0] 32); have K15 := Box.new w5 32 #[eU 0, eI 0]; clear hb; clear a0 a1 a2 s0 s1; have a0 := S.a.cell 0; have a1 := S.a.cell 1; have a2 := S.a.cell 2; have s0 := S.l.cell 0; have s1 := S.l.cell 1; (try simp only [Nat.zero_add] at a0 a1 a2 s0 s1)) | (refine ⟨trivial, ?_⟩; gi_at_call 26; refine (callsIn_wide.2 (eachT_any (some ⟨w.heap.size + 1, 0, none⟩) _)).mono ?_; rintro e w6 ⟨rfl, rfl⟩))
    clear a0 a1 a2 s0 s1
    replace S := (S.below (up1 _ (.cells #[.pointer (some ⟨w.heap.size + 1, 0, none⟩)] 23))).below (up1 _ (.cells #[.int .i64 0] 3))
    replace K9 := (K9.alloc (.cells #[.pointer (some ⟨w.heap.size + 1, 0, none⟩)] 23)).alloc (.cells #[.int .i64 0] 3)
    replace K15 := (K15.alloc (.cells #[.pointer (some ⟨w.heap.size + 1, 0, none⟩)] 23)).alloc (.cells #[.int .i64 0] 3)
    have KC := (Box.new (w5.alloc (.cells #[.int .u64 0, .int .i64 0] 32)) 23 #[.pointer (some ⟨w.heap.size + 1, 0, none⟩)]).alloc (.cells #[.int .i64 0] 3)
    have K18 := Box.new ((w5.alloc (.cells #[.int .u64 0, .int .i64 0] 32)).alloc (.cells #[.pointer (some ⟨w.heap.size + 1, 0, none⟩)] 23)) 3 #[.int .i64 0]
    have e2 : (((w5.alloc (.cells #[.int .u64 0, .int .i64 0] 32)).alloc (.cells #[.pointer (some ⟨w.heap.size + 1, 0, none⟩)] 23)).alloc (.cells #[.int .i64 0] 3)).heap.size = w5.heap.size + 3 := by simp
    simp only [World.size_alloc] at K18 KC
    obtain ⟨W2, hW2⟩ : ∃ W2, (((w5.alloc (.cells #[.int .u64 0, .int .i64 0] 32)).alloc (.cells #[.pointer (some ⟨w.heap.size + 1, 0, none⟩)] 23)).alloc (.cells #[.int .i64 0] 3)) = W2 := ⟨_, rfl⟩
    rw [hW2] at S K9 K15 KC K18 e2 ⊢
    clear hW2
    have hseq := z_each (some ⟨w.heap.size + 1, 0, none⟩) 11 (w5.heap.size + 1) w.heap.size W2 (S.zt) S.b.size (by omega) KC
    have hw2 : w2.heap.size < W2.heap.size := K9.lt
    have hDlt := S.lt
    refine loopC (by omega) (gf := 52) (lb := #[.pointer (some ⟨w5.heap.size + 1, 0, none⟩)]) rfl (enters_of Try.func52 (by kernel_rfl) rfl) (n₀ := w.heap.size) (by omega) hseq (fun _ => rfl)
      (NI w x [D0] w2.heap.size w5.heap.size (w5.heap.size + 1 + 1)) (fun _ _ _ => False) (NI.own w x [D0] _ _ _ _ (by omega) hw2 (by omega) (by omega) hDlt) (fun c _ _ _ _ h => h.elim) ⟨rfl, S, K9, K15, K18⟩
      (fun _ _ _ => True) (fun _ _ _ _ _ _ _ _ _ => trivial) ?assign1 ?body1 ?done1 ?stop1
    case assign1 =>
      rintro l0 pre x0 W K hzW hI hK
      gi_wp2
      exact hK _ _ (Mid.refl _ _ _) hI trivial
    case body1 =>
      rintro l0 pre x0 a' W hzW _ _ hpx
      simp at hpx
    case stop1 =>
      rintro D c pre W hD _ h hK
      exact h.elim
    case done1 =>
      rintro D1 xs W hD rfl ⟨_, S, K9, K15, K18⟩ hK
      replace S := S.more (d := D1) (by omega) hK
      have hne : D0 ≠ D1 := by have := hDlt D0 (by simp); omega
      clear hseq hK hDlt
      have a0 := S.a.cell 0
      have a1 := S.a.cell 1
      have a2 := S.a.cell 2
      have s0 := S.l.cell 0
      have s1 := S.l.cell 1
      (try simp only [Nat.zero_add] at a0 a1 a2 s0 s1)
      have k0 := K9.cell 0
      have k1 := K9.cell 1
      have j0 := K15.cell 0
      have j1 := K15.cell 1
      have c18 := K18.cell 0
      gi_wp2_with (first | (refine ⟨trivial, ?_⟩; gi_at_call 13; refine (callsIn_wide.2 (z_put (some ⟨w.heap.size + 1, 0, none⟩) x.k x.v _ (S.zt))).mono ?_; rintro e w7 ⟨rfl, hb⟩; replace S := S.below hb; replace K9 := K9.below hb; replace K15 := K15.below hb; replace K18 := K18.below hb; clear hb a0 a1 a2 s0 s1 k0 k1 j0 j1 c18; have a0 := S.a.cell 0; have a1 := S.a.cell 1; have a2 := S.a.cell 2; have s0 := S.l.cell 0; have s1 := S.l.cell 1; (try simp only [Nat.zero_add] at a0 a1 a2 s0 s1); have k0 := K9.cell 0; have k1 := K9.cell 1; have j0 := K15.cell 0; have j1 := K15.cell 1; have c18 := K18.cell 0) | (refine ⟨trivial, ?_⟩; gi_at_call 14; refine (callsIn_wide.2 (z_drop (some ⟨w.heap.size + 1, 0, none⟩) x.k _ (S.zt))).mono ?_; rintro e w7 ⟨rfl, hb⟩; replace S := S.below hb; replace K9 := K9.below hb; replace K15 := K15.below hb; replace K18 := K18.below hb; clear hb a0 a1 a2 s0 s1 k0 k1 j0 j1 c18; have a0 := S.a.cell 0; have a1 := S.a.cell 1; have a2 := S.a.cell 2; have s0 := S.l.cell 0; have s1 := S.l.cell 1; (try simp only [Nat.zero_add] at a0 a1 a2 s0 s1); have k0 := K9.cell 0; have k1 := K9.cell 1; have j0 := K15.cell 0; have j1 := K15.cell 1; have c18 := K18.cell 0) | (refine ⟨trivial, ?_⟩; gi_at_call 27; refine (callsIn_wide.2 (z_len (some ⟨w.heap.size + 1, 0, none⟩) _ (S.zt))).mono ?_; rintro e w7 ⟨rfl, rfl⟩) | (refine ⟨trivial, ?_⟩; gi_at_call 28; refine (callsIn_wide.2 (z_height (some ⟨w.heap.size + 1, 0, none⟩) _ (S.zt))).mono ?_; rintro e w7 ⟨rfl, hb⟩; replace S := S.below hb; replace K9 := K9.below hb; replace K15 := K15.below hb; replace K18 := K18.below hb; clear hb a0 a1 a2 s0 s1 k0 k1 j0 j1 c18; have a0 := S.a.cell 0; have a1 := S.a.cell 1; have a2 := S.a.cell 2; have s0 := S.l.cell 0; have s1 := S.l.cell 1; (try simp only [Nat.zero_add] at a0 a1 a2 s0 s1); have k0 := K9.cell 0; have k1 := K9.cell 1; have j0 := K15.cell 0; have j1 := K15.cell 1; have c18 := K18.cell 0) | (refine ⟨trivial, ?_⟩; gi_at_call 29; refine (callsIn_wide.2 (z_well (some ⟨w.heap.size + 1, 0, none⟩) _ (S.zt))).mono ?_; rintro e w7 ⟨rfl, hb⟩; replace S := S.below hb; replace K9 := K9.below hb; replace K15 := K15.below hb; replace K18 := K18.below hb; clear hb a0 a1 a2 s0 s1 k0 k1 j0 j1 c18; have a0 := S.a.cell 0; have a1 := S.a.cell 1; have a2 := S.a.cell 2; have s0 := S.l.cell 0; have s1 := S.l.cell 1; (try simp only [Nat.zero_add] at a0 a1 a2 s0 s1); have k0 := K9.cell 0; have k1 := K9.cell 1; have j0 := K15.cell 0; have j1 := K15.cell 1; have c18 := K18.cell 0))
      rw [roundsIn_succ]
      gi_wp2_with (first | (refine ⟨trivial, ?_⟩; gi_at_call 12; refine (callsIn_wide.2 (z_copy none _ (zN _))).mono ?_; rintro e w8 ⟨rfl, rfl⟩) | (refine ⟨trivial, ?_⟩; gi_at_call 31; (with_reducible refine (callsIn_wide.2 (new_no1 _)).mono ?_); rintro e w9 ⟨rfl, rfl⟩) | (refine ⟨trivial, ?_⟩; gi_at_call 31; (with_reducible refine (callsIn_wide.2 (new_no2 _)).mono ?_); rintro e w10 ⟨rfl, rfl⟩))
      have d1 := S.d D1 (by simp)
      have d0 := S.d D0 (by simp)
      have d0' := (World.putObj_heap_other (o := .deferred none) hne).trans d0.2
      refine ⟨by simp, .inl ⟨_, _, rfl, run_takeDeferred d1.2, ?_⟩⟩
      refine ⟨by simp, .inl ⟨_, _, rfl, run_takeDeferred d0', ?_⟩⟩
      exact ⟨.bool true, by simp [results, Try.results5, go_sem], rfl, (S.b.trans (belowK_b (w := w) (Nat.le_refl _) _ D1 _ _ d1.1 d1.2 rfl rfl)).trans (belowK_b (w := w) (Nat.le_refl _) _ D0 _ _ d0.1 d0' rfl rfl)⟩
end Go.Proofs.Ytjfpemkdidoacaa
