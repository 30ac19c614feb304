/- Each value as it is told: the call become of a table. No condition but that it isn't long. -/
import Derived.Test.YtenghpgnhmglpaaDoorTbR
import Derived.Test.YtenghpgnhmglpaaDoorCoE
namespace Go.Proofs.YtenghpgnhmglpaaDoor
open Go.RowKit Go.Shelf
set_option linter.unusedVariables false
set_option linter.unusedSimpArgs false
attribute [local go_sem] Oper.semAt_some
def incI (z : Im) : Im := ⟨z.id, IntKind.u64.wrap (z.v + 1)⟩
/-- Each value as a copy's own tells it. -/
def oneMore (L : List Im) : List Im := L.map fun z => ⟨z.id, IntKind.u64.wrap (z.v + 1)⟩
/-- The first k have been told. -/
def mixI (k : Nat) (L : List Im) : List Im := (L.take k).map incI ++ L.drop k
theorem mix_ids (k : Nat) (L : List Im) : (mixI k L).map (·.id) = L.map (·.id) := by
  unfold mixI
  rw [List.map_append, List.map_map]
  have : (L.take k).map ((·.id) ∘ incI) = (L.take k).map (·.id) := rfl
  rw [this, ← List.map_append, List.take_append_drop]
theorem mix_len (k : Nat) (L : List Im) : (mixI k L).length = L.length := by
  have := congrArg List.length (mix_ids k L)
  simpa using this
theorem mix_all (L : List Im) : mixI L.length L = oneMore L := by unfold mixI oneMore; simp; exact fun a _ => rfl
theorem mix_none (L : List Im) : mixI 0 L = L := by unfold mixI; simp
theorem mix_at {k : Nat} {L : List Im} : (mixI k L)[k]? = L[k]? := by
  unfold mixI
  by_cases h : k ≤ L.length
  · rw [List.getElem?_append_right (by simp; omega)]
    simp [Nat.min_eq_left h]
  · rw [List.getElem?_eq_none (by simp; omega), List.getElem?_eq_none (by omega)]
theorem rise_ids {L M : List Im} (h : Rise L) (e : M.map (·.id) = L.map (·.id)) : Rise M := by
  have h1 : (L.map (·.id)).Pairwise (· < ·) := List.pairwise_map.2 h
  rw [← e] at h1
  exact List.pairwise_map.1 h1
theorem next_ids {k : Int} : ∀ {L M : List Im}, M.map (·.id) = L.map (·.id) → nextI k M = nextI k L
  | [], [], _ => rfl
  | [], b :: M, e => by simp at e
  | a :: L, [], e => by simp at e
  | a :: L, b :: M, e => by
    simp only [List.map_cons, List.cons.injEq] at e
    have ih := next_ids (k := k) e.2
    unfold nextI at *
    rw [List.find?_cons, List.find?_cons, e.1]
    split
    · simp [e.1]
    · exact ih
theorem inc_word (z : Im) : 0 ≤ IntKind.u64.wrap (z.v + 1) ∧ IntKind.u64.wrap (z.v + 1) < 18446744073709551616 := by
  simp [IntKind.wrap, IntKind.bits, IntKind.signed]; omega
theorem mix_good {L : List Im} (h : Good L) (k : Nat) : Good (mixI k L) := by
  refine ⟨rise_ids h.rise (mix_ids k L), fun a ha => ?_⟩
  unfold mixI at ha
  rcases List.mem_append.1 ha with ha | ha
  · obtain ⟨b, hb, rfl⟩ := List.mem_map.1 ha
    exact ⟨(h.each b (List.mem_of_mem_take hb)).1, inc_word b⟩
  · exact h.each a (List.mem_of_mem_drop ha)
theorem set_mix {L : List Im} (h : Good L) {k : Nat} {z : Im} (hz : L[k]? = some z) : setT z.id (IntKind.u64.wrap (z.v + 1)) (mixI k L) = mixI (k + 1) L := by
  have hg := mix_good h k
  have hk : k < L.length := (List.getElem?_eq_some_iff.1 hz).1
  have hm := mix_at (k := k) (L := L)
  rw [hz] at hm
  obtain ⟨hk2, e2⟩ := List.getElem?_eq_some_iff.1 hm
  have hh : hasI z.id (mixI k L) = true := hasI_iff.2 ⟨z, List.mem_of_getElem? hm, rfl⟩
  have hmay : mayI z.id = true := mayI_iff.2 (hg.each z (List.mem_of_getElem? hm)).1
  rw [setT_ok (askE_ok hmay hh), set_at hg.rise hk2 (by rw [e2])]
  unfold mixI
  have hd : L.drop k = z :: L.drop (k + 1) := by rw [List.drop_eq_getElem_cons hk]; congr 1; exact (List.getElem?_eq_some_iff.1 hz).2
  rw [List.set_append_right _ _ (by simp; omega), hd]
  have hl : ((L.take k).map incI).length = k := by simp; omega
  rw [hl, Nat.sub_self, List.set_cons_zero, List.take_succ_eq_append_getElem hk, List.map_append, List.append_assoc]
  congr 2
  rw [(List.getElem?_eq_some_iff.1 hz).2]; rfl
theorem more_any (v : Int) (w : World) : Calls Tryd.prog 11 #[eU v] w fun e w' => e = .returned (eU (IntKind.u64.wrap (v + 1))) ∧ w = w' := by
  go_enter Tryd.func11, Tryd.ntmps11
  go_wp2
  go_ret
  exact ⟨rfl, rfl⟩
section
variable {w w' : World} {χ χ' : Nat → Nat} {c d B Bm m : Nat} {N : List Int} {F : Int → Option Nat} {G : Int → Value} {vn : Value} {L : List Im}
theorem Tb.off {S : Nat → Prop} (h : Tb w χ c B L) (ho : Off S w w') (hn : ∀ k, χ k = c → ¬ S k) (h0 : ¬ S 0) : Tb w' χ c B L := by
  obtain ⟨Bm, N, F, G, vn, h, hf⟩ := h
  exact ⟨Bm, N, F, G, vn, h.off ho hn h0 (fun _ _ => rfl), hf⟩
theorem Tb.repaint (h : Tb w χ c B L) (hc : ∀ k, k < w.heap.size → χ' k = χ k) : Tb w χ' c B L := by
  obtain ⟨Bm, N, F, G, vn, h, hf⟩ := h
  exact ⟨Bm, N, F, G, vn, h.off (S := fun _ => False) (Off.of (Below.refl _ w)) (fun _ _ h => h) (fun h => h) hc, hf⟩
theorem Tb.col0 (h : Tb w χ c B L) : χ 0 = 0 ∧ c ≠ 0 := by obtain ⟨Bm, N, F, G, vn, h, _⟩ := h; exact ⟨h.col0, h.cne⟩
theorem step_mix {k : Nat} (hg : Good L) (h : Tb w χ c B (mixI k L)) {pre : List Im} (hp : pre <+: L) (hk : pre.length = k) : StepT (.pointer (some ⟨B, 0, none⟩)) L pre w := fun X hX => by
  obtain ⟨Bm, N, F, G, vn, h, hf⟩ := h
  have hx := h.below hX
  refine ⟨?_, fun z hz => ?_⟩
  · have := next_any hx hf (lastI pre) (lastI_word hg hp)
    rw [next_ids (mix_ids k L), next_pre hg hp, nextV_n] at this
    exact this
  · have := get_any hx z.id
    have hm := mix_at (k := k) (L := L)
    rw [← hk, hz] at hm
    rw [hk] at hm
    rw [(getI_at (mix_good hg k) hm).1, (getI_at (mix_good hg k) hm).2] at this
    exact this
/-- Between two rounds. -/
def BeI (w : World) (χ : Nat → Nat) (c D b b2 b3 B : Nat) (own : Value) (L pre : List Im) (X : World) : Prop :=
  ∃ χ1, Col χ χ1 c w X ∧ Tb X χ1 c B (mixI pre.length L) ∧ Bx X χ1 (c + 1) b #[.pointer (some ⟨B, 0, none⟩)] 23 ∧ Bx X χ1 (c + 1) b2 #[.pointer (some ⟨B, 0, none⟩)] 23 ∧ Bx X χ1 (c + 1) b3 #[own] 33 ∧ χ1 D = c + 1 ∧ χ1 (D + 1) = c + 1
theorem BeI.turn {D b b2 b3 : Nat} {own : Value} {pre : List Im} {X Y : World} {row : Option Nat} (h : BeI w χ c D b b2 b3 B own L pre X) (hg : X.grownBy Y row) (hr : ∀ r, row = some r → r = D ∨ r = D + 1) (hw : w.heap.size ≤ D) (h1 : b < D) (h2 : b2 < D) (h3 : b3 < D) : BeI w χ c D b b2 b3 B own L pre Y := by
  obtain ⟨χ1, k1, k2, k3, k4, k5, k6, k7⟩ := h
  have ho : Off (fun k => k = D ∨ k = D + 1) X Y := ⟨hg.os, hg.tape, hg.output, hg.size, fun k hk hn => hg.block k hk (fun e => hn (hr k e.symm))⟩
  have hc0 := k2.col0
  have hS : ∀ k, χ1 k = c → ¬ (k = D ∨ k = D + 1) := fun k hk e => by
    rcases e with rfl | rfl <;> omega
  refine ⟨χ1, ⟨ho.os.trans k1.os, ho.tape.trans k1.tape, ho.output.trans k1.output, Nat.le_trans k1.size ho.size, k1.col, fun k hk hn => (ho.block k (Nat.lt_of_lt_of_le hk k1.size) (by omega)).trans (k1.block k hk hn)⟩, k2.off ho hS ?_, ⟨ho.box k3.1 (by omega), k3.2⟩, ⟨ho.box k4.1 (by omega), k4.2⟩, ⟨ho.box k5.1 (by omega), k5.2⟩, k6, k7⟩
  rintro (e | e)
  · rw [← e] at k6; omega
  · rw [← e] at k7; omega
theorem BeI.below {D b b2 b3 : Nat} {own : Value} {pre : List Im} {X Y : World} (h : BeI w χ c D b b2 b3 B own L pre X) (hb : Below X.heap.size X Y) : BeI w χ c D b b2 b3 B own L pre Y := by
  obtain ⟨χ1, k1, k2, k3, k4, k5, k6, k7⟩ := h
  exact ⟨χ1, k1.trans (Col.of hb), k2.below hb, k3.below hb, k4.below hb, k5.below hb, k6, k7⟩
theorem be_set {D b b2 b3 : Nat} {own : Value} {pre : List Im} {X : World} {z : Im} (hg : Good L) (h : BeI w χ c D b b2 b3 B own L pre X) (hz : L[pre.length]? = some z) (hD : D + 2 ≤ X.heap.size) :
    Calls Tryd.prog 18 #[.pointer (some ⟨B, 0, none⟩), eI z.id, eU (IntKind.u64.wrap (z.v + 1))] X fun e w' => (∃ u, e = .returned (eI u)) ∧ BeI w χ c D b b2 b3 B own L (pre ++ [z]) w' ∧ MidD 0 D X w' := by
  obtain ⟨χ1, k1, k2, k3, k4, k5, k6, k7⟩ := h
  refine (tb_set z.id (IntKind.u64.wrap (z.v + 1)) k2 (inc_word z)).mono fun e w' ⟨h1, χ2, h2, h3⟩ => ⟨⟨_, h1⟩, ⟨χ2, k1.trans h2, ?_, k3.other h2 (by omega), k4.other h2 (by omega), k5.other h2 (by omega), (h2.col D (by omega)).trans k6, (h2.col (D + 1) (by omega)).trans k7⟩, ⟨⟨h2.os, h2.tape, h2.output, h2.size, fun k hk => by omega⟩, h2.block D (by omega) (by omega), h2.block (D + 1) (by omega) (by omega)⟩⟩
  rw [set_mix hg hz] at h3
  simpa using h3
set_option maxHeartbeats 4000000 in
theorem become_any (h : Tb w χ c B L) : Calls Tryd.prog 29 #[.pointer (some ⟨B, 0, none⟩), .func (.func 11) #[] #[]] w fun e w' => e = .returned (.tuple #[]) ∧ ∃ χ', Col χ χ' c w w' ∧ Tb w' χ' c B (oneMore L) := by
  have hg := h.good
  have hMore := fun v w => more_any v w
  have hmf : ∀ (fn : Fn) (first cap : Array Value) (w : World), (Instr.makeFunc fn first cap).run Tryd.prog w = .ok (.func fn first cap) w := fun _ _ _ _ => rfl
  have bt := (Box.new w 23 #[.pointer (some ⟨B, 0, none⟩)]).alloc (.cells #[.func (.func 11) #[] #[]] 33)
  have bo := Box.new (w.alloc (.cells #[.pointer (some ⟨B, 0, none⟩)] 23)) 33 #[.func (.func 11) #[] #[]]
  have T3 := up2 w (.cells #[.pointer (some ⟨B, 0, none⟩)] 23) (.cells #[.func (.func 11) #[] #[]] 33)
  have hz3 : ((w.alloc (.cells #[.pointer (some ⟨B, 0, none⟩)] 23)).alloc (.cells #[.func (.func 11) #[] #[]] 33)).heap.size = w.heap.size + 2 := by simp
  simp only [World.size_alloc] at bo
  have hE := each_any (some ⟨B, 0, none⟩) ((w.alloc (.cells #[.pointer (some ⟨B, 0, none⟩)] 23)).alloc (.cells #[.func (.func 11) #[] #[]] 33))
  have ct := bt.cell 0
  refine (callsIn_wide (n := 14)).1 ?_
  refine callsIn_of_wp_marks Tryd.func29 rfl trivial ?_ rfl
  simp only [Tryd.ntmps29, List.size_toArray, List.length_cons, List.length_nil, Nat.reduceAdd, Nat.reduceSub, Array.replicate_succ, Array.replicate_zero, List.push_toArray, List.append_toArray, List.nil_append, List.cons_append]
  have hz6 : (((w.alloc (.cells #[.pointer (some ⟨B, 0, none⟩)] 23)).alloc (.cells #[.func (.func 11) #[] #[]] 33)).alloc (.cells #[.pointer (some ⟨B, 0, none⟩)] 23)).heap.size = w.heap.size + 3 := by simp
  have T6 := ups T3 (up1 _ (.cells #[.pointer (some ⟨B, 0, none⟩)] 23)) T3.size
  have bb := Box.new ((w.alloc (.cells #[.pointer (some ⟨B, 0, none⟩)] 23)).alloc (.cells #[.func (.func 11) #[] #[]] 33)) 23 #[.pointer (some ⟨B, 0, none⟩)]
  have bt6 := bt.alloc (.cells #[.pointer (some ⟨B, 0, none⟩)] 23)
  have bo6 := bo.alloc (.cells #[.pointer (some ⟨B, 0, none⟩)] 23)
  gi_wp2_with (refine ⟨trivial, ?_⟩; gi_at_call 14; (with_reducible refine (callsIn_wide.2 hE).mono ?_); rintro e w6 ⟨rfl, hw6⟩)
  rw [← hw6] at hz6 T6 bb bt6 bo6 ⊢
  rw [hz3] at bb
  clear hw6 hE bt bo ct hz3 T3
  have hcol := h.col0
  have h0w := h.tab.1
  have hst : BeI w χ c (w.heap.size + 3) (w.heap.size + 2) w.heap.size (w.heap.size + 1) B (.func (.func 11) #[] #[]) L [] w6 := by
    refine ⟨recol χ w.heap.size (c + 1), Col.new T6 (c + 1), ?_, ⟨bb, recol_ge (by omega)⟩, ⟨bt6, recol_ge (by omega)⟩, ⟨bo6, recol_ge (by omega)⟩, recol_ge (by omega), recol_ge (by omega)⟩
    rw [show ([] : List Im).length = 0 from rfl, mix_none]
    exact (h.repaint (fun k hk => recol_lt hk)).below T6
  have hsq := each1_seq 13 (w.heap.size + 2) 0 (some ⟨B, 0, none⟩) L (fun pre Y => Box Y (w.heap.size + 2) #[.pointer (some ⟨B, 0, none⟩)] 23 ∧ ∃ χ1, Tb Y χ1 c B (mixI pre.length L)) w6 (Nat.zero_le _) (by omega) hg.rise (fun pre Y hp _ hq => ⟨hq.1, by obtain ⟨χ1, hq2⟩ := hq.2; exact step_mix hg hq2 hp rfl⟩)
  clear h bb bt6 bo6
  refine loopD (by omega) (gf := 32) (lb := #[.pointer (some ⟨w.heap.size + 2, 0, none⟩)]) rfl (enters_of Tryd.func32 (by kernel_rfl) rfl) (n₀ := 0) (Nat.zero_le _) hsq (fun _ => rfl)
    (fun pre X => BeI w χ c (w.heap.size + 3) (w.heap.size + 2) w.heap.size (w.heap.size + 1) B (.func (.func 11) #[] #[]) L pre X) (fun _ _ _ => False)
    (fun _ X Y row hI hg hr => hI.turn hg (fun r e => by have := hr r e; omega) (by omega) (by omega) (by omega) (by omega)) (fun c _ _ _ _ h => h.elim)
    (fun pre X hI => by obtain ⟨χ1, k1, k2, k3, _⟩ := hI; exact ⟨k3.1, χ1, k2⟩) hst
    (fun z a' X => a' = { tmps := #[.pointer (some ⟨B, 0, none⟩), .func (.func 11) #[] #[], .pointer (some ⟨w.heap.size, 0, none⟩), .pointer (some ⟨w.heap.size + 1, 0, none⟩), eI z.id, eU z.v, .pointer (some ⟨B, 0, none⟩), .func (.func 32) #[] #[.pointer (some ⟨w.heap.size + 2, 0, none⟩)], eI z.id, eU z.v, undef, undef, undef, undef, undef, undef], defers := [] })
    (fun x a' _ X Y row hs hg hr => hs)
    ?assign ?body ?done ?stop
  case assign =>
    rintro l0 pre z X K hzX hI hK
    simp only [imE]
    gi_wp2
    exact hK _ _ (MidD.refl _ _ X) hI rfl
  case stop =>
    rintro D c pre X hD _ h hK
    exact h.elim
  case body =>
    rintro l0 pre z a' X hzX hI rfl hpx
    obtain ⟨hk, hz⟩ := pre_at hpx
    have hzs : L[pre.length]? = some z := by rw [List.getElem?_eq_getElem hk, hz]
    have hI0 : BeI w χ c (w.heap.size + 3) (w.heap.size + 2) w.heap.size (w.heap.size + 1) B (.func (.func 11) #[] #[]) L pre X.drew := hI.below (Below.refl _ X).drew
    have hSet := be_set hg hI0 hzs (by show w.heap.size + 3 + 2 ≤ X.heap.size; omega)
    have hM0 : MidD 0 (w.heap.size + 3) X X.drew := ⟨(Below.refl 0 X).drew, rfl, rfl⟩
    obtain ⟨χ1, k1, k2, k3, k4, k5, k6, k7⟩ := hI
    have c2 := k4.1.cell 0
    have c3 := k5.1.cell 0
    have hmix := mixed
    clear k1 k2 k3 k4 k5 k6 k7 hI0 hsq hst
    rw [hz6]
    gi_upto_region 4 with fail
    refine round_any hmix (by kernel_rfl) ?_
    refine wpAnyIn_take (i := 1) (v := ?_) rfl rfl (by kernel_rfl) (by kernel_rfl) (by kernel_rfl) (fun _ _ _ h => h) ⟨Or.inl ⟨by rfl, ?_⟩, fun _ => rfl⟩ ?_
    rotate_left
    · (intro w; go_simp; (try with_reducible rfl))
    try simp only [Act.put, List.setIfInBounds_toArray, List.set_cons_zero, List.set_cons_succ]
    refine wpAnyIn_take (i := 3) (v := ?_) rfl rfl (by kernel_rfl) (by kernel_rfl) (by kernel_rfl) (fun _ _ _ h => h) ⟨Or.inl ⟨by rfl, ?_⟩, fun _ => rfl⟩ ?_
    rotate_left
    · (intro w; go_simp; (try with_reducible rfl))
    try simp only [Act.put, List.setIfInBounds_toArray, List.set_cons_zero, List.set_cons_succ]
    refine wpAnyIn_ready (rs := [0, 2]) (by kernel_rfl) (by simp) ?_
    refine AllReadyIn.cons rfl (fun K hK => ?_) ?_
    · go_simp
      refine hK _ _ ?_
      clear hK K
      refine wpAnyIn_ready (rs := [2]) (by kernel_rfl) (by simp) ?_
      refine AllReadyIn.cons rfl (fun K hK => ?_) AllReadyIn.nil
      go_simp
      refine hK _ _ ?_
      clear hK K
      refine wpAnyIn_ready (rs := [4]) (by kernel_rfl) (by simp) ?_
      refine AllReadyIn.cons rfl (fun K hK => ?_) AllReadyIn.nil
      go_simp
      refine ⟨trivial, ?_⟩; gi_at_call 11; (with_reducible refine (callsIn_wide.2 (hMore z.v _)).mono ?_); rintro e w7 ⟨rfl, rfl⟩
      refine hK _ _ ?_
      clear hK K
      refine wpAnyIn_ready (rs := [5]) (by kernel_rfl) (by simp) ?_
      refine AllReadyIn.cons rfl (fun K hK => ?_) AllReadyIn.nil
      go_simp
      refine ⟨trivial, ?_⟩; gi_at_call 18; (with_reducible refine (callsIn_wide.2 hSet).mono ?_); rintro e w8 ⟨⟨u8, rfl⟩, hI8, hM8⟩
      refine hK _ _ ?_
      clear hK K
      refine wpAnyIn_done (by kernel_rfl) ?_ _
      gi_wp2
      exact ⟨hM0.trans hM8, hI8⟩
    refine AllReadyIn.cons rfl (fun K hK => ?_) AllReadyIn.nil
    go_simp
    refine hK _ _ ?_
    clear hK K
    refine wpAnyIn_ready (rs := [0, 4]) (by kernel_rfl) (by simp) ?_
    refine AllReadyIn.cons rfl (fun K hK => ?_) ?_
    · go_simp
      refine hK _ _ ?_
      clear hK K
      refine wpAnyIn_ready (rs := [4]) (by kernel_rfl) (by simp) ?_
      refine AllReadyIn.cons rfl (fun K hK => ?_) AllReadyIn.nil
      go_simp
      refine ⟨trivial, ?_⟩; gi_at_call 11; (with_reducible refine (callsIn_wide.2 (hMore z.v _)).mono ?_); rintro e w7 ⟨rfl, rfl⟩
      refine hK _ _ ?_
      clear hK K
      refine wpAnyIn_ready (rs := [5]) (by kernel_rfl) (by simp) ?_
      refine AllReadyIn.cons rfl (fun K hK => ?_) AllReadyIn.nil
      go_simp
      refine ⟨trivial, ?_⟩; gi_at_call 18; (with_reducible refine (callsIn_wide.2 hSet).mono ?_); rintro e w8 ⟨⟨u8, rfl⟩, hI8, hM8⟩
      refine hK _ _ ?_
      clear hK K
      refine wpAnyIn_done (by kernel_rfl) ?_ _
      gi_wp2
      exact ⟨hM0.trans hM8, hI8⟩
    refine AllReadyIn.cons rfl (fun K hK => ?_) AllReadyIn.nil
    go_simp
    refine ⟨trivial, ?_⟩; gi_at_call 11; (with_reducible refine (callsIn_wide.2 (hMore z.v _)).mono ?_); rintro e w7 ⟨rfl, rfl⟩
    refine hK _ _ ?_
    clear hK K
    refine wpAnyIn_ready (rs := [0]) (by kernel_rfl) (by simp) ?_
    refine AllReadyIn.cons rfl (fun K hK => ?_) AllReadyIn.nil
    go_simp
    refine hK _ _ ?_
    clear hK K
    refine wpAnyIn_ready (rs := [5]) (by kernel_rfl) (by simp) ?_
    refine AllReadyIn.cons rfl (fun K hK => ?_) AllReadyIn.nil
    go_simp
    refine ⟨trivial, ?_⟩; gi_at_call 18; (with_reducible refine (callsIn_wide.2 hSet).mono ?_); rintro e w8 ⟨⟨u8, rfl⟩, hI8, hM8⟩
    refine hK _ _ ?_
    clear hK K
    refine wpAnyIn_done (by kernel_rfl) ?_ _
    gi_wp2
    exact ⟨hM0.trans hM8, hI8⟩
  case done =>
    rintro D0 ys X hD rfl hI hKd
    rw [hz6] at hD
    subst hD
    have hI2 := hI.turn (grownBy_putObj' X (w.heap.size + 3) (.deferred none)) (fun r e => by cases e; exact .inl rfl) (by omega) (by omega) (by omega) (by omega)
    obtain ⟨χ1, k1, k2, _⟩ := hI2
    rw [mix_all] at k2
    have kk := Lib.hid k1
    have kt := Lib.hid k2
    clear k1 k2 hI hsq hst
    gi_wp2
    refine ⟨by simp, .inl ⟨_, _, rfl, run_takeDeferred hKd, ?_⟩⟩
    exact ⟨_, results_none rfl _ _ _, rfl, χ1, kk.out, kt.out⟩
end
end Go.Proofs.YtenghpgnhmglpaaDoor
