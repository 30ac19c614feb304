/- Plain rows of items by ids, rising: one put in, set, dropped, asked for. No condition. -/
import Derived.Test.YtenghpgnhmglpaaDoorCoB
namespace Go.Proofs.YtenghpgnhmglpaaDoor
open Go.RowKit
set_option linter.unusedVariables false
/-- A value by its id. -/
structure Im where
  id : Int
  v : Int
def imC (x : Im) : List Value := [.int .i64 x.id, .int .u64 x.v]
theorem imCells : Cells imC 2 := ⟨fun _ => rfl, fun x u hu => by
  simp only [imC, List.mem_cons, List.not_mem_nil, or_false] at hu
  rcases hu with rfl | rfl <;> rfl⟩
/-- Rising ids. -/
def Rise (L : List Im) : Prop := L.Pairwise fun a b => a.id < b.id
/-- An id that may be. -/
def mayI (k : Int) : Bool := decide (1 ≤ k ∧ k ≤ 65535)
def Im.ok (x : Im) : Prop := (1 ≤ x.id ∧ x.id ≤ 65535) ∧ 0 ≤ x.v ∧ x.v < 18446744073709551616
def hasI (k : Int) (L : List Im) : Bool := L.any fun a => decide (a.id = k)
def insI (x : Im) : List Im → List Im
  | [] => [x]
  | a :: L => if x.id < a.id then x :: a :: L else a :: insI x L
def delI (k : Int) (L : List Im) : List Im := L.filter fun a => decide (a.id ≠ k)
def setI (k v : Int) (L : List Im) : List Im := L.map fun a => if a.id = k then ⟨k, v⟩ else a
def getI (k : Int) (L : List Im) : Option Int := (L.find? fun a => decide (a.id = k)).map (·.v)
def nextI (k : Int) (L : List Im) : Option Int := (L.find? fun a => decide (k < a.id)).map (·.id)
/-- What Put, Set, Drop tell, and leave. -/
def putE (k : Int) (L : List Im) : Int := if mayI k then (if hasI k L then 80 else 0) else 2
def askE (k : Int) (L : List Im) : Int := if mayI k then (if hasI k L then 0 else 81) else 2
def putI (k v : Int) (L : List Im) : List Im := if putE k L = 0 then insI ⟨k, v⟩ L else L
def setT (k v : Int) (L : List Im) : List Im := if askE k L = 0 then setI k v L else L
def dropT (k : Int) (L : List Im) : List Im := if askE k L = 0 then delI k L else L
/-- Where an id stands. -/
def atI (k : Int) (L : List Im) : Option Nat := L.findIdx? fun a => decide (a.id = k)
def atV : Option Nat → Int
  | none => -1
  | some i => (i : Int)
theorem at_has {k : Int} {L : List Im} : (atI k L).isSome = hasI k L := by
  unfold atI hasI
  exact List.findIdx?_isSome
theorem at_some {k : Int} {L : List Im} {i : Nat} (h : atI k L = some i) : ∃ hi : i < L.length, L[i].id = k := by
  obtain ⟨hi, h1, _⟩ := List.findIdx?_eq_some_iff_getElem.1 h
  exact ⟨hi, by simpa using h1⟩
theorem at_none {k : Int} {L : List Im} (h : hasI k L = false) : atI k L = none := by
  have := at_has (k := k) (L := L)
  rw [h] at this
  simpa using this
theorem at_is {k : Int} {L : List Im} (h : hasI k L = true) : ∃ i, atI k L = some i := by
  have := at_has (k := k) (L := L)
  rw [h] at this
  exact Option.isSome_iff_exists.1 this
theorem atV_neg {o : Option Nat} : decide (atV o < 0) = !o.isSome := by
  cases o with
  | none => rfl
  | some i => exact decide_eq_false (by show ¬ (i : Int) < 0; omega)
theorem at_drop {k : Int} {L : List Im} {j : Nat} (h : j < L.length) : (atI k (L.drop j)).map (· + j) = if L[j].id = k then some j else (atI k (L.drop (j + 1))).map (· + (j + 1)) := by
  rw [List.drop_eq_getElem_cons h]
  unfold atI
  rw [List.findIdx?_cons]
  by_cases e : L[j].id = k
  · simp [e]
  · simp only [e, decide_false, Bool.false_eq_true, if_false]
    rw [Option.map_map]
    congr 1
    funext x; simp; omega
theorem rise_split {L : List Im} (h : Rise L) (i : Nat) (hi : i < L.length) : (∀ a ∈ L.take i, a.id < L[i].id) ∧ (∀ a ∈ L.drop (i + 1), L[i].id < a.id) := by
  have e : L = L.take i ++ L[i] :: L.drop (i + 1) := by rw [← List.drop_eq_getElem_cons hi, List.take_append_drop]
  have h' := h
  unfold Rise at h'
  rw [e, List.pairwise_append] at h'
  obtain ⟨_, h2, h3⟩ := h'
  rw [List.pairwise_cons] at h2
  exact ⟨fun a ha => h3 a ha _ List.mem_cons_self, h2.1⟩
theorem del_at {k : Int} {L : List Im} {i : Nat} (h : Rise L) (hi : i < L.length) (e : L[i].id = k) : delI k L = L.take i ++ L.drop (i + 1) := by
  obtain ⟨h1, h2⟩ := rise_split h i hi
  have e' : L = L.take i ++ L[i] :: L.drop (i + 1) := by rw [← List.drop_eq_getElem_cons hi, List.take_append_drop]
  unfold delI
  conv => lhs; rw [e']
  rw [List.filter_append, List.filter_cons]
  simp only [e, ne_eq, not_true_eq_false, decide_false, Bool.false_eq_true, if_false]
  rw [List.filter_eq_self.2 (fun a ha => by have := h1 a ha; simp; omega), List.filter_eq_self.2 (fun a ha => by have := h2 a ha; simp; omega)]
theorem set_at {k v : Int} {L : List Im} {i : Nat} (h : Rise L) (hi : i < L.length) (e : L[i].id = k) : setI k v L = L.set i ⟨k, v⟩ := by
  obtain ⟨h1, h2⟩ := rise_split h i hi
  have e' : L = L.take i ++ L[i] :: L.drop (i + 1) := by rw [← List.drop_eq_getElem_cons hi, List.take_append_drop]
  unfold setI
  rw [List.set_eq_take_append_cons_drop, if_pos hi]
  conv => lhs; rw [e']
  rw [List.map_append, List.map_cons, if_pos e, List.map_congr_left (g := id) (fun a ha => by have := h1 a ha; simp; omega), List.map_congr_left (l := L.drop (i + 1)) (g := id) (fun a ha => by have := h2 a ha; simp; omega), List.map_id, List.map_id]
theorem ins_at {x : Im} : ∀ {A C : List Im}, (∀ a ∈ A, a.id < x.id) → (∀ a ∈ C, x.id < a.id) → insI x (A ++ C) = A ++ x :: C
  | [], [], _, _ => rfl
  | [], c :: C, _, h => if_pos (h c (by simp))
  | a :: A, C, h1, h2 => by
    show (if x.id < a.id then _ else _) = _
    have := h1 a (by simp)
    rw [if_neg (by omega)]
    exact congrArg (a :: ·) (ins_at (A := A) (C := C) (fun z hz => h1 z (by simp [hz])) h2)
theorem ins_mem {x : Im} : ∀ {L : List Im} {a : Im}, a ∈ insI x L ↔ a = x ∨ a ∈ L
  | [], a => by simp [insI]
  | b :: L, a => by
    unfold insI
    split
    · simp
    · rw [List.mem_cons, ins_mem, List.mem_cons]
      constructor
      · rintro (h | h | h)
        · exact .inr (.inl h)
        · exact .inl h
        · exact .inr (.inr h)
      · rintro (h | h | h)
        · exact .inr (.inl h)
        · exact .inl h
        · exact .inr (.inr h)
theorem rise_ins {x : Im} : ∀ {L : List Im}, Rise L → hasI x.id L = false → Rise (insI x L)
  | [], _, _ => by unfold insI Rise; simp
  | b :: L, h, hn => by
    unfold Rise at h
    rw [List.pairwise_cons] at h
    simp only [hasI, List.any_cons, Bool.or_eq_false_iff, decide_eq_false_iff_not] at hn
    unfold insI
    split
    · rename_i hlt
      unfold Rise
      rw [List.pairwise_cons, List.pairwise_cons]
      refine ⟨fun a ha => ?_, h⟩
      rcases List.mem_cons.1 ha with rfl | ha
      · exact hlt
      · have := h.1 a ha; omega
    · rename_i hlt
      unfold Rise
      rw [List.pairwise_cons]
      refine ⟨fun a ha => ?_, rise_ins h.2 (by simpa [hasI] using hn.2)⟩
      rcases ins_mem.1 ha with rfl | ha
      · have := hn.1; omega
      · exact h.1 a ha
theorem rise_del {k : Int} {L : List Im} (h : Rise L) : Rise (delI k L) := List.Pairwise.filter _ h
theorem rise_set {k v : Int} {L : List Im} (h : Rise L) : Rise (setI k v L) := by
  unfold setI Rise
  rw [List.pairwise_map]
  refine List.Pairwise.imp (fun {a b} hab => ?_) h
  have e : ∀ c : Im, (if c.id = k then (⟨k, v⟩ : Im) else c).id = c.id := fun c => by split <;> simp_all
  rw [e, e]; exact hab
theorem ins_len (x : Im) : ∀ L : List Im, (insI x L).length = L.length + 1
  | [] => rfl
  | b :: L => by
    unfold insI
    split
    · rfl
    · rw [List.length_cons, ins_len x L, List.length_cons]
/-- What a table may hold. -/
structure Good (L : List Im) : Prop where
  rise : Rise L
  each : ∀ a ∈ L, a.ok
theorem Good.nil : Good [] := ⟨List.Pairwise.nil, fun a h => by cases h⟩
theorem mayI_iff {k : Int} : mayI k = true ↔ 1 ≤ k ∧ k ≤ 65535 := by unfold mayI; simp
theorem putE_arg {k : Int} {L : List Im} (h : mayI k = false) : putE k L = 2 := by unfold putE; rw [h]; rfl
theorem putE_twice {k : Int} {L : List Im} (h : mayI k = true) (g : hasI k L = true) : putE k L = 80 := by unfold putE; rw [h, g]; rfl
theorem putE_ok {k : Int} {L : List Im} (h : mayI k = true) (g : hasI k L = false) : putE k L = 0 := by unfold putE; rw [h, g]; rfl
theorem askE_arg {k : Int} {L : List Im} (h : mayI k = false) : askE k L = 2 := by unfold askE; rw [h]; rfl
theorem askE_no {k : Int} {L : List Im} (h : mayI k = true) (g : hasI k L = false) : askE k L = 81 := by unfold askE; rw [h, g]; rfl
theorem askE_ok {k : Int} {L : List Im} (h : mayI k = true) (g : hasI k L = true) : askE k L = 0 := by unfold askE; rw [h, g]; rfl
theorem putI_no {k v : Int} {L : List Im} (h : putE k L ≠ 0) : putI k v L = L := by unfold putI; rw [if_neg h]
theorem putI_ok {k v : Int} {L : List Im} (h : putE k L = 0) : putI k v L = insI ⟨k, v⟩ L := by unfold putI; rw [if_pos h]
theorem setT_no {k v : Int} {L : List Im} (h : askE k L ≠ 0) : setT k v L = L := by unfold setT; rw [if_neg h]
theorem setT_ok {k v : Int} {L : List Im} (h : askE k L = 0) : setT k v L = setI k v L := by unfold setT; rw [if_pos h]
theorem dropT_no {k : Int} {L : List Im} (h : askE k L ≠ 0) : dropT k L = L := by unfold dropT; rw [if_neg h]
theorem dropT_ok {k : Int} {L : List Im} (h : askE k L = 0) : dropT k L = delI k L := by unfold dropT; rw [if_pos h]
theorem Good.put {k v : Int} {L : List Im} (h : Good L) (hv : 0 ≤ v ∧ v < 18446744073709551616) : Good (putI k v L) := by
  by_cases e : putE k L = 0
  · rw [putI_ok e]
    have hm : mayI k = true := by
      cases hm : mayI k with
      | true => rfl
      | false => rw [putE_arg hm] at e; cases e
    have hh : hasI k L = false := by
      cases hh : hasI k L with
      | false => rfl
      | true => rw [putE_twice hm hh] at e; cases e
    refine ⟨rise_ins h.rise hh, fun a ha => ?_⟩
    rcases ins_mem.1 ha with rfl | ha
    · exact ⟨mayI_iff.1 hm, hv⟩
    · exact h.each a ha
  · rw [putI_no e]; exact h
theorem Good.set {k v : Int} {L : List Im} (h : Good L) (hv : 0 ≤ v ∧ v < 18446744073709551616) : Good (setT k v L) := by
  by_cases e : askE k L = 0
  · rw [setT_ok e]
    have hm : mayI k = true := by
      cases hm : mayI k with
      | true => rfl
      | false => rw [askE_arg hm] at e; cases e
    refine ⟨rise_set h.rise, fun a ha => ?_⟩
    unfold setI at ha
    obtain ⟨b, hb, rfl⟩ := List.mem_map.1 ha
    split
    · exact ⟨mayI_iff.1 hm, hv⟩
    · exact h.each b hb
  · rw [setT_no e]; exact h
theorem Good.drop {k : Int} {L : List Im} (h : Good L) : Good (dropT k L) := by
  by_cases e : askE k L = 0
  · rw [dropT_ok e]
    exact ⟨rise_del h.rise, fun a ha => h.each a (List.mem_filter.1 ha).1⟩
  · rw [dropT_no e]; exact h
theorem put_len (k v : Int) (L : List Im) : (putI k v L).length ≤ L.length + 1 := by
  unfold putI; split
  · rw [ins_len]; exact Nat.le_refl _
  · omega
theorem set_len (k v : Int) (L : List Im) : (setT k v L).length = L.length := by
  unfold setT; split
  · simp [setI]
  · rfl
theorem drop_len (k : Int) (L : List Im) : (dropT k L).length ≤ L.length := by
  unfold dropT; split
  · exact List.length_filter_le _ _
  · exact Nat.le_refl _
end Go.Proofs.YtenghpgnhmglpaaDoor
