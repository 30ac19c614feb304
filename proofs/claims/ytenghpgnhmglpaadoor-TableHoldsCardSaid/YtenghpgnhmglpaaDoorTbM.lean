/- Plain facts of pages: a row of items cut by their ids' pages, words of bits, rising rows of numbers. No condition. -/
import Derived.Test.YtenghpgnhmglpaaDoorRtM
import Derived.Test.YtenghpgnhmglpaaDoorTbO
namespace Go.Proofs.YtenghpgnhmglpaaDoor
set_option linter.unusedVariables false

def pgI (p : Int) (L : List Im) : List Im := L.filter fun a => decide (a.id / 64 = p)
/-- How many ids are less. -/
def lowN (k : Int) (Q : List Im) : Nat := Q.countP fun a => decide (a.id < k)
theorem mem_pg {p : Int} {L : List Im} {a : Im} : a ∈ pgI p L ↔ a ∈ L ∧ a.id / 64 = p := by unfold pgI; simp
theorem rise_pg {p : Int} {L : List Im} (h : Rise L) : Rise (pgI p L) := List.Pairwise.filter _ h
theorem hasI_iff {k : Int} {L : List Im} : hasI k L = true ↔ ∃ a ∈ L, a.id = k := by unfold hasI; simp
theorem hasI_no {k : Int} {L : List Im} : hasI k L = false ↔ ∀ a ∈ L, a.id ≠ k := by unfold hasI; simp
theorem has_pg {k : Int} {L : List Im} : hasI k (pgI (k / 64) L) = hasI k L := by
  rw [Bool.eq_iff_iff, hasI_iff, hasI_iff]
  constructor
  · rintro ⟨a, h1, h2⟩; exact ⟨a, (mem_pg.1 h1).1, h2⟩
  · rintro ⟨a, h1, h2⟩; exact ⟨a, mem_pg.2 ⟨h1, by rw [h2]⟩, h2⟩
theorem getI_mem {k x : Int} {L : List Im} (h : getI k L = some x) : (⟨k, x⟩ : Im) ∈ L := by
  unfold getI at h
  rw [Option.map_eq_some_iff] at h
  obtain ⟨a, h1, h2⟩ := h
  have h3 := List.find?_some h1
  have h4 := List.mem_of_find?_eq_some h1
  simp at h3
  have : a = ⟨k, x⟩ := by cases a; simp_all
  rw [← this]; exact h4
theorem mem_getI {k x : Int} : ∀ {L : List Im}, Rise L → (⟨k, x⟩ : Im) ∈ L → getI k L = some x
  | [], _, h => by cases h
  | b :: L, hr, h => by
    unfold Rise at hr
    rw [List.pairwise_cons] at hr
    unfold getI
    rw [List.find?_cons]
    rcases List.mem_cons.1 h with h | h
    · subst h; simp
    · have h1 := hr.1 _ h
      have : decide (b.id = k) = false := by simp at h1 ⊢; omega
      rw [this]
      exact mem_getI (L := L) hr.2 h
theorem getI_none {k : Int} {L : List Im} (h : hasI k L = false) : getI k L = none := by
  unfold getI
  rw [List.find?_eq_none.2 (fun a ha => by have := hasI_no.1 h a ha; simpa using this)]
  rfl
theorem getI_some {k : Int} {L : List Im} (h : hasI k L = true) : ∃ x, getI k L = some x := by
  cases e : getI k L with
  | some x => exact ⟨x, rfl⟩
  | none =>
    unfold getI at e
    rw [Option.map_eq_none_iff, List.find?_eq_none] at e
    obtain ⟨a, h1, h2⟩ := hasI_iff.1 h
    have := e a h1
    simp at this
    exact absurd h2 this
/-- A rising row, cut at an id. -/
theorem low_take : ∀ {Q : List Im} (k : Int), Rise Q → (∀ a ∈ Q.take (lowN k Q), a.id < k) ∧ (∀ a ∈ Q.drop (lowN k Q), k ≤ a.id) ∧ lowN k Q ≤ Q.length
  | [], k, _ => by simp [lowN]
  | b :: Q, k, h => by
    unfold Rise at h
    rw [List.pairwise_cons] at h
    obtain ⟨h1, h2, h3⟩ := low_take (Q := Q) k h.2
    unfold lowN at *
    rw [List.countP_cons]
    by_cases hb : b.id < k
    · simp only [hb, decide_true, if_true]
      refine ⟨fun a ha => ?_, fun a ha => ?_, by simp; omega⟩
      · rw [List.take_succ_cons] at ha
        rcases List.mem_cons.1 ha with rfl | ha
        · exact hb
        · exact h1 a ha
      · rw [List.drop_succ_cons] at ha; exact h2 a ha
    · have h0 : Q.countP (fun a => decide (a.id < k)) = 0 := by
        rw [List.countP_eq_zero]
        intro a ha
        have := h.1 a ha
        simp; omega
      simp only [hb, decide_false, h0]
      refine ⟨fun a ha => by simp at ha, fun a ha => ?_, by simp⟩
      simp at ha
      rcases ha with rfl | ha
      · omega
      · have := h.1 a ha; omega
theorem low_at {Q : List Im} {k : Int} (h : Rise Q) (hk : hasI k Q = true) : ∃ hi : lowN k Q < Q.length, Q[lowN k Q].id = k := by
  obtain ⟨h1, h2, h3⟩ := low_take k h
  obtain ⟨a, ha, e⟩ := hasI_iff.1 hk
  have ha' : a ∈ Q.take (lowN k Q) ++ Q.drop (lowN k Q) := by rw [List.take_append_drop]; exact ha
  rcases List.mem_append.1 ha' with g | g
  · have := h1 a g; omega
  · have hlt : lowN k Q < Q.length := by
      rcases Nat.lt_or_ge (lowN k Q) Q.length with q | q
      · exact q
      · rw [List.drop_eq_nil_of_le q] at g; cases g
    refine ⟨hlt, ?_⟩
    rw [List.drop_eq_getElem_cons hlt] at g
    rcases List.mem_cons.1 g with g | g
    · rw [← g]; exact e
    · have h4 := h2 Q[lowN k Q] (by rw [List.drop_eq_getElem_cons hlt]; exact List.mem_cons_self)
      have h5 := (rise_split h _ hlt).2 a g
      omega
theorem ins_low {Q : List Im} {k v : Int} (h : Rise Q) (hk : hasI k Q = false) : insI ⟨k, v⟩ Q = Q.take (lowN k Q) ++ ⟨k, v⟩ :: Q.drop (lowN k Q) := by
  obtain ⟨h1, h2, h3⟩ := low_take k h
  have := ins_at (x := ⟨k, v⟩) (A := Q.take (lowN k Q)) (C := Q.drop (lowN k Q)) h1 (fun a ha => by
    have q := h2 a ha
    have := hasI_no.1 hk a (List.mem_of_mem_drop ha)
    show k < a.id
    omega)
  rw [List.take_append_drop] at this
  exact this
theorem low_succ {Q : List Im} (h : Rise Q) (k : Int) : lowN (k + 1) Q = lowN k Q + (if hasI k Q = true then 1 else 0) := by
  induction Q with
  | nil => simp [lowN, hasI]
  | cons b Q ih =>
    unfold Rise at h
    rw [List.pairwise_cons] at h
    have ih := ih h.2
    have e : hasI k (b :: Q) = (decide (b.id = k) || hasI k Q) := rfl
    unfold lowN at *
    rw [List.countP_cons, List.countP_cons, ih, e]
    by_cases hb : b.id = k
    · have hn : hasI k Q = false := hasI_no.2 (fun a ha => by have := h.1 a ha; omega)
      simp [hn, hb]
      omega
    · by_cases hlt : b.id < k
      · have h2 : b.id < k + 1 := by omega
        simp [hb, hlt, h2]; omega
      · have h2 : ¬ b.id < k + 1 := by omega
        simp [hb, hlt, h2]
theorem low_zero {Q : List Im} {k : Int} (h : ∀ a ∈ Q, k ≤ a.id) : lowN k Q = 0 := by
  unfold lowN
  rw [List.countP_eq_zero]
  intro a ha
  have := h a ha
  simp; omega
/-! ### Words of bits -/
theorem bit_iff (x j : Nat) : x.testBit j = decide (x / 2 ^ j % 2 = 1) := by rw [Nat.testBit_eq_decide_div_mod_eq]
theorem popN_succ (x k : Nat) : popN x (k + 1) = popN x k + (if x.testBit k = true then 1 else 0) := by
  show popN x k + x / 2 ^ k % 2 = _
  rw [bit_iff]
  have : x / 2 ^ k % 2 < 2 := Nat.mod_lt _ (by omega)
  by_cases h : x / 2 ^ k % 2 = 1
  · simp [h]
  · have : x / 2 ^ k % 2 = 0 := by omega
    simp [this]
theorem popN_mask (x one : Nat) : ∀ k, one ≤ k → popN (x &&& (2 ^ one - 1)) k = popN x one := by
  have key : ∀ k, k ≤ one → popN (x &&& (2 ^ one - 1)) k = popN x k := by
    intro k
    induction k with
    | zero => intro _; rfl
    | succ k ih =>
      intro h
      rw [popN_succ, popN_succ, ih (by omega), Nat.testBit_and, Nat.testBit_two_pow_sub_one]
      simp [show k < one by omega]
  intro k hk
  induction k with
  | zero => obtain rfl : one = 0 := by omega
            rfl
  | succ k ih =>
    by_cases e : one = k + 1
    · subst e; exact key _ (Nat.le_refl _)
    · rw [popN_succ, ih (by omega), Nat.testBit_and, Nat.testBit_two_pow_sub_one]
      simp [show ¬ k < one by omega]
/-- The word tells which ids of the page are there. -/
def BitsP (x : Nat) (p : Int) (L : List Im) : Prop := x < 18446744073709551616 ∧ ∀ j : Nat, j < 64 → x.testBit j = hasI (64 * p + (j : Int)) L
theorem bits_low {x : Nat} {p : Int} {L : List Im} (h : BitsP x p L) (hr : Rise L) : ∀ j : Nat, j ≤ 64 → popN x j = lowN (64 * p + (j : Int)) (pgI p L)
  | 0, _ => by
    rw [low_zero (fun a ha => by have := (mem_pg.1 ha).2; omega)]
    rfl
  | j + 1, hj => by
    have e : 64 * p + ((j + 1 : Nat) : Int) = (64 * p + (j : Int)) + 1 := by omega
    rw [popN_succ, bits_low h hr j (by omega), e, low_succ (rise_pg hr), h.2 j (by omega)]
    have e2 : (64 * p + (j : Int)) / 64 = p := by omega
    have := has_pg (k := 64 * p + (j : Int)) (L := L)
    rw [e2] at this
    rw [this]
theorem bits_ext {x y : Nat} (hx : x < 18446744073709551616) (hy : y < 18446744073709551616) (h : ∀ j, j < 64 → x.testBit j = y.testBit j) : x = y := by
  apply Nat.eq_of_testBit_eq
  intro i
  by_cases hi : i < 64
  · exact h i hi
  · rw [Nat.testBit_lt_two_pow (Nat.lt_of_lt_of_le hx (show 2 ^ 64 ≤ 2 ^ i from Nat.pow_le_pow_right (by omega) (by omega))), Nat.testBit_lt_two_pow (Nat.lt_of_lt_of_le hy (show 2 ^ 64 ≤ 2 ^ i from Nat.pow_le_pow_right (by omega) (by omega)))]
theorem bits_zero {x : Nat} {p : Int} {L : List Im} (h : BitsP x p L) : x = 0 ↔ pgI p L = [] := by
  constructor
  · intro e
    subst e
    rw [List.eq_nil_iff_forall_not_mem]
    intro a ha
    obtain ⟨h1, h2⟩ := mem_pg.1 ha
    have h3 := h.2 (a.id % 64).toNat (by omega)
    rw [Nat.zero_testBit] at h3
    exact hasI_no.1 h3.symm a h1 (by omega)
  · intro e
    refine bits_ext h.1 (by decide) (fun j hj => ?_)
    rw [h.2 j hj, Nat.zero_testBit, hasI_no]
    intro a ha hid
    have : a ∈ pgI p L := mem_pg.2 ⟨ha, by omega⟩
    rw [e] at this; cases this
theorem bits_put {x : Nat} {L : List Im} {k v : Int} (h : BitsP x (k / 64) L) : BitsP (x ||| 2 ^ (k % 64).toNat) (k / 64) (insI ⟨k, v⟩ L) := by
  refine ⟨Nat.or_lt_two_pow (n := 64) h.1 (Nat.pow_lt_pow_right (by omega) (by omega)), fun j hj => ?_⟩
  rw [Nat.testBit_or, h.2 j hj, Nat.testBit_two_pow, Bool.eq_iff_iff, Bool.or_eq_true, hasI_iff, hasI_iff, decide_eq_true_iff]
  constructor
  · rintro (⟨a, h1, h2⟩ | h1)
    · exact ⟨a, ins_mem.2 (.inr h1), h2⟩
    · exact ⟨⟨k, v⟩, ins_mem.2 (.inl rfl), by show k = _; omega⟩
  · rintro ⟨a, h1, h2⟩
    rcases ins_mem.1 h1 with rfl | h1
    · right
      have h2 : k = 64 * (k / 64) + (j : Int) := h2
      omega
    · exact .inl ⟨a, h1, h2⟩
theorem bits_put_other {x : Nat} {p : Int} {L : List Im} {k v : Int} (h : BitsP x p L) (hp : p ≠ k / 64) : BitsP x p (insI ⟨k, v⟩ L) := by
  refine ⟨h.1, fun j hj => ?_⟩
  rw [h.2 j hj, Bool.eq_iff_iff, hasI_iff, hasI_iff]
  constructor
  · rintro ⟨a, h1, h2⟩; exact ⟨a, ins_mem.2 (.inr h1), h2⟩
  · rintro ⟨a, h1, h2⟩
    rcases ins_mem.1 h1 with rfl | h1
    · have h2 : k = 64 * p + (j : Int) := h2
      omega
    · exact ⟨a, h1, h2⟩
theorem bits_drop {x : Nat} {L : List Im} {k : Int} (h : BitsP x (k / 64) L) : BitsP (x &&& (18446744073709551615 - 2 ^ (k % 64).toNat)) (k / 64) (delI k L) := by
  refine ⟨Nat.lt_of_le_of_lt Nat.and_le_left h.1, fun j hj => ?_⟩
  have hpw : 2 ^ (k % 64).toNat < 2 ^ 64 := Nat.pow_lt_pow_right (by omega) (by omega)
  have e : 18446744073709551615 - 2 ^ (k % 64).toNat = 2 ^ 64 - (2 ^ (k % 64).toNat + 1) := by omega
  rw [Nat.testBit_and, h.2 j hj, e, Nat.testBit_two_pow_sub_succ hpw, Nat.testBit_two_pow, Bool.eq_iff_iff, Bool.and_eq_true, hasI_iff, hasI_iff]
  unfold delI
  constructor
  · rintro ⟨⟨a, h1, h2⟩, h3⟩
    simp [hj] at h3
    exact ⟨a, List.mem_filter.2 ⟨h1, by simp; omega⟩, h2⟩
  · rintro ⟨a, h1, h2⟩
    rw [List.mem_filter] at h1
    refine ⟨⟨a, h1.1, h2⟩, ?_⟩
    have h3 := h1.2
    simp at h3
    simp [hj]
    omega
theorem bits_drop_other {x : Nat} {p : Int} {L : List Im} {k : Int} (h : BitsP x p L) (hp : p ≠ k / 64) : BitsP x p (delI k L) := by
  refine ⟨h.1, fun j hj => ?_⟩
  rw [h.2 j hj, Bool.eq_iff_iff, hasI_iff, hasI_iff]
  unfold delI
  constructor
  · rintro ⟨a, h1, h2⟩; exact ⟨a, List.mem_filter.2 ⟨h1, by simp; omega⟩, h2⟩
  · rintro ⟨a, h1, h2⟩; exact ⟨a, (List.mem_filter.1 h1).1, h2⟩
theorem setI_has {j k v : Int} {L : List Im} : hasI j (setI k v L) = hasI j L := by
  unfold hasI setI
  rw [List.any_map]
  congr 1
  funext a
  simp only [Function.comp]
  split
  · rename_i h; rw [h]
  · rfl
theorem bits_set {x : Nat} {p : Int} {L : List Im} {k v : Int} (h : BitsP x p L) : BitsP x p (setI k v L) := ⟨h.1, fun j hj => by rw [h.2 j hj, setI_has]⟩
theorem bits_nil (p : Int) : BitsP 0 p [] := ⟨by decide, fun j _ => by rw [Nat.zero_testBit]; rfl⟩
theorem bits_none {p : Int} {L : List Im} (h : pgI p L = []) : BitsP 0 p L := ⟨by decide, fun j hj => by
  rw [Nat.zero_testBit, eq_comm, hasI_no]
  intro a ha e
  have : a ∈ pgI p L := mem_pg.2 ⟨ha, by omega⟩
  rw [h] at this; cases this⟩
/-! ### Pages behind a put, a drop, a set -/
theorem pg_ins {p k v : Int} : ∀ {L : List Im}, Rise L → hasI k L = false → pgI p (insI ⟨k, v⟩ L) = if k / 64 = p then insI ⟨k, v⟩ (pgI p L) else pgI p L
  | [], _, _ => by
    unfold insI pgI
    by_cases h : k / 64 = p
    · simp [h]
    · simp [h]
  | b :: L, hr, hn => by
    have hr' := hr
    unfold Rise at hr'
    rw [List.pairwise_cons] at hr'
    have hn' : hasI k L = false := hasI_no.2 (fun a ha => hasI_no.1 hn a (List.mem_cons_of_mem _ ha))
    have ih := pg_ins (p := p) (v := v) hr'.2 hn'
    show pgI p (if k < b.id then _ else _) = _
    by_cases hlt : k < b.id
    · rw [if_pos hlt]
      by_cases hp : k / 64 = p
      · rw [if_pos hp]
        have e : pgI p ((⟨k, v⟩ : Im) :: b :: L) = ⟨k, v⟩ :: pgI p (b :: L) := by unfold pgI; rw [List.filter_cons]; simp [hp]
        rw [e]
        exact (ins_at (x := ⟨k, v⟩) (A := []) (C := pgI p (b :: L)) (fun a ha => by cases ha) (fun a ha => by
          rcases List.mem_cons.1 (mem_pg.1 ha).1 with rfl | h
          · exact hlt
          · have := hr'.1 a h; show k < a.id; omega)).symm
      · rw [if_neg hp]
        unfold pgI; rw [List.filter_cons]; simp [hp]
    · rw [if_neg hlt]
      by_cases hb : b.id / 64 = p
      · have e1 : pgI p (b :: insI ⟨k, v⟩ L) = b :: pgI p (insI ⟨k, v⟩ L) := by unfold pgI; rw [List.filter_cons]; simp [hb]
        have e2 : pgI p (b :: L) = b :: pgI p L := by unfold pgI; rw [List.filter_cons]; simp [hb]
        rw [e1, ih, e2]
        by_cases hp : k / 64 = p
        · rw [if_pos hp, if_pos hp]
          show _ = if k < b.id then _ else _
          rw [if_neg hlt]
        · rw [if_neg hp, if_neg hp]
      · have e1 : pgI p (b :: insI ⟨k, v⟩ L) = pgI p (insI ⟨k, v⟩ L) := by unfold pgI; rw [List.filter_cons]; simp [hb]
        have e2 : pgI p (b :: L) = pgI p L := by unfold pgI; rw [List.filter_cons]; simp [hb]
        rw [e1, ih, e2]
theorem pg_del {p k : Int} {L : List Im} : pgI p (delI k L) = delI k (pgI p L) := by
  unfold pgI delI
  rw [List.filter_filter, List.filter_filter]
  congr 1; funext a; rw [Bool.and_comm]
theorem del_none {k : Int} {Q : List Im} (h : hasI k Q = false) : delI k Q = Q := by
  unfold delI
  rw [List.filter_eq_self]
  intro a ha
  simpa using hasI_no.1 h a ha
theorem pg_not {p k : Int} {L : List Im} (hp : k / 64 ≠ p) : hasI k (pgI p L) = false := hasI_no.2 (fun a ha e => hp (by rw [← e]; exact (mem_pg.1 ha).2))
theorem pg_del_other {p k : Int} {L : List Im} (hp : k / 64 ≠ p) : pgI p (delI k L) = pgI p L := by rw [pg_del, del_none (pg_not hp)]
theorem set_none {k v : Int} {Q : List Im} (h : hasI k Q = false) : setI k v Q = Q := by
  unfold setI
  have : Q.map (fun a => if a.id = k then (⟨k, v⟩ : Im) else a) = Q.map id := by
    apply List.map_congr_left
    intro a ha
    rw [if_neg (hasI_no.1 h a ha)]; rfl
  rw [this, List.map_id]
theorem pg_set {p k v : Int} {L : List Im} : pgI p (setI k v L) = setI k v (pgI p L) := by
  unfold pgI setI
  rw [List.filter_map]
  congr 1
  apply List.filter_congr
  intro a _
  simp only [Function.comp]
  split
  · rename_i h; rw [h]
  · rfl
theorem pg_set_other {p k v : Int} {L : List Im} (hp : k / 64 ≠ p) : pgI p (setI k v L) = pgI p L := by rw [pg_set, set_none (pg_not hp)]
theorem pg_nil_ins {p k v : Int} {L : List Im} (hr : Rise L) (hn : hasI k L = false) (h : k / 64 = p) : pgI p (insI ⟨k, v⟩ L) ≠ [] := by
  rw [pg_ins hr hn, if_pos h]
  intro e
  have := ins_len ⟨k, v⟩ (pgI p L)
  rw [e] at this; simp at this
/-- Values, one by one. -/
def valsI (Q : List Im) : List Value := Q.map fun a => eU a.v
theorem vals_len (Q : List Im) : (valsI Q).length = Q.length := by unfold valsI; simp
theorem vals_one (Q : List Im) : ∀ u ∈ valsI Q, u.oneCell' = true := by
  intro u hu
  unfold valsI at hu
  obtain ⟨a, _, rfl⟩ := List.mem_map.1 hu
  rfl
theorem vals_ins {Q : List Im} {k v : Int} (h : Rise Q) (hk : hasI k Q = false) : (valsI Q).take (lowN k Q) ++ eU v :: (valsI Q).drop (lowN k Q) = valsI (insI ⟨k, v⟩ Q) := by
  rw [ins_low h hk]
  unfold valsI
  rw [← List.map_take, ← List.map_drop, List.map_append, List.map_cons]
theorem vals_del {Q : List Im} {k : Int} (h : Rise Q) (hk : hasI k Q = true) : (valsI Q).take (lowN k Q) ++ (valsI Q).drop (lowN k Q + 1) = valsI (delI k Q) := by
  obtain ⟨hi, e⟩ := low_at h hk
  rw [del_at h hi e]
  unfold valsI
  rw [← List.map_take, ← List.map_drop, List.map_append]
theorem vals_set {Q : List Im} {k v : Int} (h : Rise Q) (hk : hasI k Q = true) : (valsI Q).set (lowN k Q) (eU v) = valsI (setI k v Q) := by
  obtain ⟨hi, e⟩ := low_at h hk
  rw [set_at h hi e]
  unfold valsI
  rw [List.map_set]
theorem vals_at {Q : List Im} {k x : Int} (h : Rise Q) (hk : getI k Q = some x) : (valsI Q)[lowN k Q]? = some (eU x) := by
  have hm := getI_mem hk
  have hh : hasI k Q = true := hasI_iff.2 ⟨_, hm, rfl⟩
  obtain ⟨hi, e⟩ := low_at h hh
  have hmem := List.getElem_mem hi
  have hat : Q[lowN k Q]? = some Q[lowN k Q] := List.getElem?_eq_getElem hi
  generalize Q[lowN k Q] = z at *
  have h2 : getI k Q = some z.v := mem_getI h (by subst e; exact hmem)
  rw [hk] at h2
  injection h2 with h2
  unfold valsI
  rw [List.getElem?_map, hat, h2]
  rfl
theorem get_pg {k : Int} {L : List Im} (hr : Rise L) : getI k (pgI (k / 64) L) = getI k L := by
  cases h : hasI k L with
  | false => rw [getI_none h, getI_none (by rw [has_pg]; exact h)]
  | true =>
    obtain ⟨x, hx⟩ := getI_some h
    rw [hx]
    exact mem_getI (rise_pg hr) (mem_pg.2 ⟨getI_mem hx, rfl⟩)
theorem del_length' {k : Int} {L : List Im} (hr : Rise L) (h : hasI k L = true) : (delI k L).length + 1 = L.length := by
  obtain ⟨hi, e⟩ := low_at hr h
  rw [del_at hr hi e, List.length_append, List.length_take, List.length_drop]
  omega
end Go.Proofs.YtenghpgnhmglpaaDoor
