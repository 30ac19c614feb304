/- Plain: what stands at an id behind an act. -/
import Derived.Test.YtenghpgnhmglpaaDoorRtV
namespace Go.Proofs.YtenghpgnhmglpaaDoor
open Go.RowKit
set_option linter.unusedVariables false
theorem has_mem {k : Int} {L : List Im} {a : Im} (h : a ∈ L) (e : a.id = k) : hasI k L = true := by
  unfold hasI
  rw [List.any_eq_true]
  exact ⟨a, h, by simpa using e⟩
theorem get_mem {k x : Int} : ∀ {L : List Im}, Rise L → (⟨k, x⟩ : Im) ∈ L → getI k L = some x
  | [], _, h => by cases h
  | a :: L, hr, h => by
    obtain ⟨h1, h2⟩ := List.pairwise_cons.1 hr
    unfold getI
    rw [List.find?_cons]
    by_cases e : a.id = k
    · rcases List.mem_cons.1 h with h | h
      · subst h; simp
      · have := h1 _ h
        have : a.id < k := this
        omega
    · have e' : decide (a.id = k) = false := by simpa using e
      rw [e']
      rcases List.mem_cons.1 h with h | h
      · subst h; exact absurd rfl e
      · exact get_mem h2 h
theorem has_ins (k x : Int) (L : List Im) : hasI k (insI ⟨k, x⟩ L) = true := has_mem (ins_mem.2 (.inl rfl)) rfl
theorem get_ins {k x : Int} {L : List Im} (hr : Rise L) (h : hasI k L = false) : getI k (insI ⟨k, x⟩ L) = some x := get_mem (rise_ins hr h) (ins_mem.2 (.inl rfl))
theorem has_mem_of {k : Int} {L : List Im} (h : hasI k L = true) : ∃ a ∈ L, a.id = k := by
  unfold hasI at h
  rw [List.any_eq_true] at h
  obtain ⟨a, h1, h2⟩ := h
  exact ⟨a, h1, by simpa using h2⟩
theorem set_memI {k x : Int} {L : List Im} (h : hasI k L = true) : (⟨k, x⟩ : Im) ∈ setI k x L := by
  obtain ⟨a, h1, h2⟩ := has_mem_of h
  unfold setI
  exact List.mem_map.2 ⟨a, h1, by rw [if_pos h2]⟩
theorem has_set {k x : Int} {L : List Im} (h : hasI k L = true) : hasI k (setI k x L) = true := has_mem (set_memI h) rfl
theorem get_set {k x : Int} {L : List Im} (hr : Rise L) (h : hasI k L = true) : getI k (setI k x L) = some x := get_mem (rise_set hr) (set_memI h)
theorem has_del (k : Int) (L : List Im) : hasI k (delI k L) = false := by
  unfold hasI delI
  rw [List.any_eq_false]
  intro a ha
  have := (List.mem_filter.1 ha).2
  simpa using this
theorem del_length {k : Int} {L : List Im} (hr : Rise L) (h : hasI k L = true) : (delI k L).length + 1 = L.length := by
  obtain ⟨i, hi⟩ := at_is h
  obtain ⟨hlt, hid⟩ := at_some hi
  rw [del_at hr hlt hid, List.length_append, List.length_take, List.length_drop]
  omega
theorem may_has {k : Int} {L : List Im} (hg : Good L) (h : mayI k = false) : hasI k L = false := by
  cases hh : hasI k L with
  | false => rfl
  | true =>
    obtain ⟨a, h1, h2⟩ := has_mem_of hh
    have := (hg.each a h1).1
    rw [h2] at this
    rw [mayI_iff.2 this] at h
    cases h
/-- What an act answers, and what stands at its id then. -/
inductive Upon (L : List Im) (x : Ac) (M : List Im) : Int → Prop
  | arg (h : mayI x.id = false) (h1 : hasI x.id L = false) (e : M = L) : Upon L x M 2
  | twice (h : mayI x.id = true) (k : x.kd % 3 = 0) (h1 : hasI x.id L = true) (e : M = L) : Upon L x M 80
  | absent (h : mayI x.id = true) (k : x.kd % 3 ≠ 0) (h1 : hasI x.id L = false) (e : M = L) : Upon L x M 81
  | put (h : mayI x.id = true) (k : x.kd % 3 = 0) (h1 : hasI x.id L = false) (h2 : hasI x.id M = true) (h3 : (getI x.id M).getD 0 = x.v) (h4 : M.length = L.length + 1) : Upon L x M 0
  | set (h : mayI x.id = true) (k : x.kd % 3 = 1) (h1 : hasI x.id L = true) (h2 : hasI x.id M = true) (h3 : (getI x.id M).getD 0 = x.v) (h4 : M.length = L.length) : Upon L x M 0
  | drop (h : mayI x.id = true) (k : x.kd % 3 = 2) (h1 : hasI x.id L = true) (h2 : hasI x.id M = false) (h4 : M.length + 1 = L.length) : Upon L x M 0
/-- What an act is told. -/
def told (L : List Im) (x : Ac) : Int := if x.kd % 3 = 0 then putE x.id L else askE x.id L
theorem upon (L : List Im) (x : Ac) (hg : Good L) : Upon L x (stepA L x) (told L x) := by
  unfold stepA told
  cases hm : mayI x.id with
  | false =>
    have hh := may_has hg hm
    split
    · rw [putE_arg hm]; exact .arg hm hh (putI_no (by rw [putE_arg hm]; decide))
    · rw [askE_arg hm]
      split
      · exact .arg hm hh (setT_no (by rw [askE_arg hm]; decide))
      · exact .arg hm hh (dropT_no (by rw [askE_arg hm]; decide))
  | true =>
    cases hh : hasI x.id L with
    | true =>
      split
      · rename_i k; rw [putE_twice hm hh]; exact .twice hm k hh (putI_no (by rw [putE_twice hm hh]; decide))
      · rename_i k
        rw [askE_ok hm hh]
        split
        · rename_i k1
          rw [setT_ok (askE_ok hm hh)]
          exact .set hm k1 hh (has_set hh) (by rw [get_set hg.rise hh]; rfl) (by unfold setI; simp)
        · rename_i k1
          rw [dropT_ok (askE_ok hm hh)]
          exact .drop hm (by omega) hh (has_del _ _) (del_length hg.rise hh)
    | false =>
      split
      · rename_i k
        rw [putE_ok hm hh, putI_ok (putE_ok hm hh)]
        exact .put hm k hh (has_ins _ _ _) (by rw [get_ins hg.rise hh]; rfl) (ins_len _ _)
      · rename_i k
        rw [askE_no hm hh]
        split
        · exact .absent hm k hh (setT_no (by rw [askE_no hm hh]; decide))
        · exact .absent hm k hh (dropT_no (by rw [askE_no hm hh]; decide))
end Go.Proofs.YtenghpgnhmglpaaDoor
