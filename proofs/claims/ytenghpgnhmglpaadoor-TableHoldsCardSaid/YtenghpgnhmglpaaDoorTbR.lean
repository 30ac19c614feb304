/- A table that tells its row. No condition but that it isn't long. -/
import Derived.Test.YtenghpgnhmglpaaDoorTbS
import Derived.Test.YtenghpgnhmglpaaDoorTbY
import Derived.Test.YtenghpgnhmglpaaDoorTbV
namespace Go.Proofs.YtenghpgnhmglpaaDoor
open Go.RowKit Go.Shelf
set_option linter.unusedVariables false
/-- A table that holds the row L, in blocks of the colour c. -/
def Tb (w : World) (χ : Nat → Nat) (c B : Nat) (L : List Im) : Prop :=
  ∃ Bm N F G vn, TbX w χ c B Bm N F G vn L.length L ∧ ∀ p ∈ N, pgI p L ≠ []
theorem next_pre {L pre : List Im} (hg : Good L) (h : pre <+: L) : nextI (lastI pre) L = L[pre.length]?.map (·.id) := by
  obtain ⟨s, hs⟩ := h
  have hle : ∀ a ∈ pre, a.id ≤ lastI pre := fun a ha => by
    unfold lastI
    cases e : pre.getLast? with
    | none => rw [List.getLast?_eq_none_iff] at e; rw [e] at ha; cases ha
    | some z =>
      obtain ⟨q, rfl⟩ := List.getLast?_eq_some_iff.1 e
      rcases List.mem_append.1 ha with ha | ha
      · have hr := hg.rise
        unfold Rise at hr
        rw [← hs, List.pairwise_append] at hr
        have h2 := hr.1
        rw [List.pairwise_append] at h2
        exact Int.le_of_lt (h2.2.2 a ha z (by simp))
      · simp at ha; subst ha; exact Int.le_refl _
  have hlt : ∀ a ∈ s, lastI pre < a.id := fun a ha => by
    unfold lastI
    cases e : pre.getLast? with
    | none =>
      have := (hg.each a (by rw [← hs]; exact List.mem_append_right _ ha)).1
      show 0 < a.id
      omega
    | some z =>
      obtain ⟨q, rfl⟩ := List.getLast?_eq_some_iff.1 e
      have hr := hg.rise
      unfold Rise at hr
      rw [← hs, List.pairwise_append] at hr
      exact hr.2.2 z (by simp) a ha
  have he : L[pre.length]? = s[0]? := by rw [← hs, List.getElem?_append_right (Nat.le_refl _), Nat.sub_self]
  rw [he]
  cases s with
  | nil =>
    refine nextI_no (fun a ha => ?_)
    rw [← hs, List.append_nil] at ha
    exact hle a ha
  | cons z s =>
    refine nextI_of hg.rise (hasI_iff.2 ⟨z, by rw [← hs]; simp, rfl⟩) (hlt z (by simp)) (fun a ha hk => ?_)
    rw [← hs] at ha
    rcases List.mem_append.1 ha with ha | ha
    · have := hle a ha; omega
    · rcases List.mem_cons.1 ha with rfl | ha
      · exact Int.le_refl _
      · have hr := hg.rise
        unfold Rise at hr
        rw [← hs, List.pairwise_append, List.pairwise_cons] at hr
        exact Int.le_of_lt (hr.2.1.1 a ha)
theorem lastI_word {L pre : List Im} (hg : Good L) (h : pre <+: L) : Inte (lastI pre) := by
  unfold lastI Inte
  cases e : pre.getLast? with
  | none => exact ⟨by decide, by decide⟩
  | some z =>
    obtain ⟨q, rfl⟩ := List.getLast?_eq_some_iff.1 e
    have := (hg.each z (h.subset (by simp))).1
    show _ ≤ z.id ∧ z.id < _
    omega
theorem getI_at {L : List Im} (hg : Good L) {k : Nat} {z : Im} (h : L[k]? = some z) : getI z.id L = some z.v ∧ hasI z.id L = true := by
  have hm := List.mem_of_getElem? h
  exact ⟨mem_getI hg.rise hm, hasI_iff.2 ⟨z, hm, rfl⟩⟩
section
variable {w w' : World} {χ χ' : Nat → Nat} {c d B Bm m : Nat} {N : List Int} {F : Int → Option Nat} {G : Int → Value} {vn : Value} {L : List Im}
/-- What it tells between two rounds, whatever world that is. -/
theorem step_of (h : TbX w χ c B Bm N F G vn m L) (hfull : ∀ p ∈ N, pgI p L ≠ []) {pre : List Im} (hp : pre <+: L) : StepT (.pointer (some ⟨B, 0, none⟩)) L pre w := fun X hX => by
  have hx := h.below hX
  refine ⟨?_, fun z hz => ?_⟩
  · have := next_any hx hfull (lastI pre) (lastI_word h.good hp)
    rw [next_pre h.good hp, nextV_n] at this
    exact this
  · have := get_any hx z.id
    rw [(getI_at h.good hz).1, (getI_at h.good hz).2] at this
    exact this
theorem each_of (h : TbX w χ c B Bm N F G vn m L) (hfull : ∀ p ∈ N, pgI p L ≠ []) : ∀ X, Below w.heap.size w X → Calls Tryd.prog 14 #[.pointer (some ⟨B, 0, none⟩)] X fun e w' => ∃ b, e = .returned (.func (.func 32) #[] #[.pointer (some ⟨b, 0, none⟩)]) ∧ Below X.heap.size X w' ∧ X.heap.size ≤ b ∧ Box w' b #[.pointer (some ⟨B, 0, none⟩)] 23 ∧ ∀ n n₀, 8 ≤ n → w.heap.size ≤ n₀ → n₀ ≤ w'.heap.size → SeqD n 32 #[.pointer (some ⟨b, 0, none⟩)] imE n₀ (fun _ Y => Box Y b #[.pointer (some ⟨B, 0, none⟩)] 23) (fun xs => xs = L) (fun pre => pre <+: L) (fun pre z => pre ++ [z] <+: L) w' := fun X hX =>
  (each_any _ X).mono fun e w' ⟨e1, e2⟩ => by
    have hb : Below X.heap.size X w' := by rw [e2]; exact up1 X _
    refine ⟨X.heap.size, e1, hb, Nat.le_refl _, by rw [e2]; exact Box.new X 23 _, fun n n₀ h8 h1 h2 => each1_seq n _ n₀ _ L _ w' h2 h8 h.good.rise (fun pre Y hp hY hB => ⟨hB, ?_⟩)⟩
    have T : Below w.heap.size w Y := (upp hX hb).trans (hY.mono h1)
    exact step_of (h.below T) hfull hp
theorem Tb.tells (h : Tb w χ c B L) (hl : L.length ≤ 1000) : Tells w (.pointer (some ⟨B, 0, none⟩)) L := by
  obtain ⟨Bm, N, F, G, vn, h, hfull⟩ := h
  have hlen : ∀ X, Below w.heap.size w X → Calls Tryd.prog 13 #[.pointer (some ⟨B, 0, none⟩)] X fun e w' => e = .returned (eI (L.length : Int)) ∧ X = w' := fun X hX => len_any (h.below hX).box
  refine ⟨each_of h hfull, fun X hX => ?_, fun k X hk hX => ?_, fun k X hk hX => next_any (h.below hX) hfull k hk, hlen⟩
  · exact ids_any _ L X hl (fun Y hY => hlen Y (upp hX hY)) (each_of (h.below hX) hfull)
  · exact get_any (h.below hX) k
theorem Tb.good (h : Tb w χ c B L) : Good L := by obtain ⟨Bm, N, F, G, vn, h, _⟩ := h; exact h.good
theorem Tb.tab (h : Tb w χ c B L) : Tab w := by obtain ⟨Bm, N, F, G, vn, h, _⟩ := h; exact h.tab
theorem Tb.other (h : Tb w χ c B L) (k : Col χ χ' d w w') (hd : c ≠ d) (h0 : d ≠ 0) : Tb w' χ' c B L := by
  obtain ⟨Bm, N, F, G, vn, h, hf⟩ := h
  exact ⟨Bm, N, F, G, vn, h.other k hd h0, hf⟩
theorem Tb.below (h : Tb w χ c B L) (k : Below w.heap.size w w') : Tb w' χ c B L := by
  obtain ⟨Bm, N, F, G, vn, h, hf⟩ := h
  exact ⟨Bm, N, F, G, vn, h.below k, hf⟩
theorem Tb.left {M : List Im} (h : Left w w' χ c B Bm M) : ∃ χ', Col χ χ' c w w' ∧ Tb w' χ' c B M := by
  obtain ⟨χ', N', F', G', vn', h1, h2, h3⟩ := h
  exact ⟨χ', h1, Bm, N', F', G', vn', h2, h3⟩
theorem tb_put (k x : Int) (h : Tb w χ c B L) (hx : Wo x) (hl : L.length ≤ 1000) : Calls Tryd.prog 16 #[.pointer (some ⟨B, 0, none⟩), eI k, eU x] w fun e w' => e = .returned (eI (putE k L)) ∧ ∃ χ', Col χ χ' c w w' ∧ Tb w' χ' c B (putI k x L) := by
  obtain ⟨Bm, N, F, G, vn, h, hf⟩ := h
  exact (putx_any h hf (by omega) k x hx).mono fun e w' ⟨h1, h2⟩ => ⟨h1, Tb.left h2⟩
theorem tb_drop (k : Int) (h : Tb w χ c B L) (hl : L.length ≤ 1000) : Calls Tryd.prog 17 #[.pointer (some ⟨B, 0, none⟩), eI k] w fun e w' => e = .returned (eI (askE k L)) ∧ ∃ χ', Col χ χ' c w w' ∧ Tb w' χ' c B (dropT k L) := by
  obtain ⟨Bm, N, F, G, vn, h, hf⟩ := h
  exact (dropx_any h hf (by omega) k).mono fun e w' ⟨h1, h2⟩ => ⟨h1, Tb.left h2⟩
theorem setT_pg (k x : Int) (L : List Im) : ∀ p, pgI p L ≠ [] → pgI p (setT k x L) ≠ [] := fun p hp e => by
  unfold setT at e
  split at e
  · rw [pg_set] at e
    unfold setI at e
    rw [List.map_eq_nil_iff] at e
    exact hp e
  · exact hp e
theorem tb_set (k x : Int) (h : Tb w χ c B L) (hx : Wo x) : Calls Tryd.prog 18 #[.pointer (some ⟨B, 0, none⟩), eI k, eU x] w fun e w' => e = .returned (eI (askE k L)) ∧ ∃ χ', Col χ χ' c w w' ∧ Tb w' χ' c B (setT k x L) := by
  obtain ⟨Bm, N, F, G, vn, h, hf⟩ := h
  exact (setx_any h k x hx).mono fun e w' ⟨h1, χ', h2, h3⟩ => ⟨h1, χ', h2, Bm, N, F, G, vn, by rw [set_len]; exact h3, fun p hp => setT_pg k x L p (hf p hp)⟩
theorem tb_new (w : World) (χ : Nat → Nat) (c : Nat) (ht : Tab w) (h0 : χ 0 = 0) (hc : c ≠ 0) : Calls Tryd.prog 9 #[] w fun e w' => ∃ B, e = .returned (.pointer (some ⟨B, 0, none⟩)) ∧ Tb w' (recol χ w.heap.size c) c B [] ∧ Below w.heap.size w w' :=
  (new_any w χ c ht h0 hc).mono fun e w' ⟨B, Bm, h1, h2, h3⟩ => ⟨B, h1, ⟨Bm, _, _, _, _, h2, fun p hp => by cases hp⟩, h3⟩
end
end Go.Proofs.YtenghpgnhmglpaaDoor
