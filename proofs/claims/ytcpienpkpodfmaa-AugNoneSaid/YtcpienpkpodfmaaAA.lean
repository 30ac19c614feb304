/- A map from ids to numbers, as a call has made it: what it says at each id; the laws of its look-up, its store, its delete. Rows of items with one for each id. -/
import Derived.Test.YtcpienpkpodfmaaUE
import Derived.Maps.OwnSet
namespace Go.Proofs.Ytcpienpkpodfmaa
open Go.RowKit Go.Shelf Go.Maps
set_option linter.unusedVariables false
def uD (x : Int) : DataW Unit := .lit (.int .u64 x)
theorem uE_mk {x : Int} (h : Word x) : plainElem (H := Unit) Try.prog 29 (eU x) = some (uD x, []) := plainElem_int Try.underlying29 (by unfold Word at h; simp [Lit.wf, IntKind.min, IntKind.max, IntKind.bits, IntKind.signed]; omega)
/-- Block b is a map that says F i at each i. -/
def MapU (w : World) (b nn : Nat) (F : Int → Option Int) : Prop :=
  ∃ D, w.ownsMap Try.prog 3 (plainElem Try.prog 29) b nn D ∧ ∀ k, D.atKey (.int .i64 k) (uD 0) = uD ((F k).getD 0) ∧ Maps.has D (.int .i64 k) = (F k).isSome
theorem key_of {k : Int} (h : Inte k) : keyOf Try.prog 3 (eI k) = some (.int .i64 k) := keyOf_int_mk Try.underlying3 (by unfold Inte at h; simp [Lit.wf, IntKind.min, IntKind.max, IntKind.bits, IntKind.signed]; omega)
theorem lit_ne {j k : Int} (h : j ≠ k) : Lit.int .i64 j ≠ Lit.int .i64 k := fun e => h (by cases e; rfl)
section
variable {w w' : World} {b nn : Nat} {F : Int → Option Int}
theorem MapU.lt (h : MapU w b nn F) : b < w.heap.size := by obtain ⟨D, h1, _⟩ := h; exact h1.lt
theorem MapU.kept {row : Option Nat} (h : MapU w b nn F) (hg : w.grownBy w' row) (hne : some b ≠ row) : MapU w' b nn F := by
  obtain ⟨D, h1, h2⟩ := h; exact ⟨D, h1.kept hg hne, h2⟩
theorem MapU.alloc (h : MapU w b nn F) (o : Obj) : MapU (w.alloc o) b nn F := h.kept (World.grownBy_alloc w o none) (by simp)
theorem MapU.below (h : MapU w b nn F) (hb : Below w.heap.size w w') : MapU w' b nn F :=
  h.kept (row := none) ⟨hb.os, hb.tape, hb.output, hb.size, fun k hk _ => hb.block k hk⟩ (by simp)
theorem MapU.but {B : Nat} (h : MapU w b nn F) (hb : But B w w') (hne : b ≠ B) : MapU w' b nn F :=
  h.kept (row := some B) ⟨hb.os, hb.tape, hb.output, hb.size, fun k hk hn => hb.block k hk (fun e => hn (by rw [e]))⟩ (fun e => hne (by cases e; rfl))
theorem MapU.made (w : World) : MapU (w.alloc (.map #[] 0)) w.heap.size 0 (fun _ => none) :=
  ⟨_, World.ownsMap_made w Try.prog 3 (plainElem Try.prog 29), fun k => ⟨rfl, by simp [Maps.has]⟩⟩
end
section
variable {w : World} {ops : Array Oper} {rest : List Oper} {o : Oper} {a : Act} {Q : Exit → Act → World → Prop} {b nn : Nat} {F : Int → Option Int}
theorem look_u (hg : o.guard = none) (m x : Operand) (hop : o.op = Op.lookup 36 m x true) (h : MapU w b nn F) (hm : a.eval m = .map (some b)) (k : Int) (hx : a.eval x = eI k) (hk : Inte k)
    (hK : wpList Try.prog ops Q rest (a.put o.dst (.tuple #[eU ((F k).getD 0), .bool (F k).isSome])) w) : wpList Try.prog ops Q (o :: rest) a w := by
  obtain ⟨D, h1, h2⟩ := h
  refine wpList_lookup_own_ok_int w hg m x 36 hop 3 29 .u64 (int_keyed Try.underlying3) Try.underlying36 Try.underlying29 (Try.zeroValue29 w) b nn D hm h1 (eI k) _ hx (key_of hk) fun c hc _ => ?_
  have e1 := (h2 k).1
  have e2 := (h2 k).2
  have e3 : uD c = uD ((F k).getD 0) := by rw [← e1]; exact hc.symm
  have e4 : c = (F k).getD 0 := by unfold uD at e3; injection e3 with e3; injection e3
  rw [e2, e4]
  exact hK
theorem upd_u (hg : o.guard = none) (m x v : Operand) (hop : o.op = Op.mapUpdate 36 m x v) (h : MapU w b nn F) (hn : nn ≤ 5000) (hm : a.eval m = .map (some b)) (k p : Int) (hx : a.eval x = eI k) (hk : Inte k) (hv : a.eval v = eU p) (hp : Word p)
    (hK : ∀ w', MapU w' b (nn + 1) (fun j => if j = k then some p else F j) → w.grownBy w' (some b) → wpList Try.prog ops Q rest (a.put o.dst undef) w') : wpList Try.prog ops Q (o :: rest) a w := by
  obtain ⟨D, h1, h2⟩ := h
  have hm1 := h1.isMap
  have hkl : WideAt.IsKeyLit (.int .i64 k) := by trivial
  refine wpList_mapUpdate_own w hg m x v 36 hop 3 29 (int_keyed Try.underlying3) Try.underlying36 (plainElem Try.prog 29) b nn D hm h1 (Nat.lt_of_le_of_lt hn (by decide)) (eI k) (eU p) _ hx hv (key_of hk) (uD p) [] (uE_mk hp) fun w' ho hgr => hK w' ⟨_, ho, fun j => ?_⟩ hgr
  by_cases hj : j = k
  · subst hj; simp [atKey_put_same hm1 hkl, has_put_same hm1 hkl]
  · simp [atKey_put_other (lit_ne hj), has_put_other (lit_ne hj), hj, h2 j]
theorem del_u (hg : o.guard = none) (m x : Operand) (hop : o.op = Op.call { callee := Callee.builtin Builtin.delete, args := #[m, x], argTypes := #[36, 3] }) (h : MapU w b nn F) (hm : a.eval m = .map (some b)) (k : Int) (hx : a.eval x = eI k) (hk : Inte k)
    (hK : ∀ w', MapU w' b nn (fun j => if j = k then none else F j) → w.grownBy w' (some b) → wpList Try.prog ops Q rest (a.put o.dst (.tuple #[])) w') : wpList Try.prog ops Q (o :: rest) a w := by
  obtain ⟨D, h1, h2⟩ := h
  refine wpList_delete_own w hg m x 36 3 hop 29 (int_keyed Try.underlying3) Try.underlying36 (plainElem Try.prog 29) b nn D hm h1 (eI k) _ hx (key_of hk) fun w' ho ht => hK w' ⟨_, ho, fun j => ?_⟩ ht.grown
  by_cases hj : j = k
  · subst hj; simp [atKey_del_same, has_del_same]
  · simp [atKey_del_other (lit_ne hj), has_del_other (lit_ne hj), hj, h2 j]
end
/-- Items in words, one for each id. -/
def Fine (L : List It) : Prop := (∀ a ∈ L, Word a.1.1 ∧ Inte a.1.2 ∧ Word a.2) ∧ ∀ a ∈ L, ∀ b ∈ L, a.1.2 = b.1.2 → a = b
def getA (i : Int) (L : List It) : Option It := L.find? fun a => decide (a.1.2 = i)
def numL (L : List It) (i : Int) : Option Int := (getA i L).map fun a => a.1.1
def dropA (i : Int) (L : List It) : List It := L.filter fun a => decide (a.1.2 ≠ i)
def putA (x : It) (L : List It) : List It := ins x (dropA x.1.2 L)
theorem getA_some {i : Int} {L : List It} {a : It} (hF : Fine L) : getA i L = some a ↔ a ∈ L ∧ a.1.2 = i := by
  unfold getA
  constructor
  · intro h
    exact ⟨List.mem_of_find?_eq_some h, by have := List.find?_some h; simpa using this⟩
  · rintro ⟨h1, h2⟩
    cases h : L.find? (fun a => decide (a.1.2 = i)) with
    | none => have := List.find?_eq_none.1 h a h1; simp [h2] at this
    | some b =>
      have hb := List.mem_of_find?_eq_some h
      have hi : b.1.2 = i := by have := List.find?_some h; simpa using this
      rw [hF.2 a h1 b hb (by rw [h2, hi])]
theorem getA_none {i : Int} {L : List It} : getA i L = none ↔ ∀ a ∈ L, a.1.2 ≠ i := by
  unfold getA
  rw [List.find?_eq_none]
  simp
theorem mem_dropA {i : Int} {L : List It} {a : It} : a ∈ dropA i L ↔ a ∈ L ∧ a.1.2 ≠ i := by unfold dropA; simp
theorem rise_dropA {i : Int} {L : List It} (h : Rise L) : Rise (dropA i L) := List.Pairwise.filter _ h
theorem dropA_len {i : Int} {L : List It} : (dropA i L).length ≤ L.length := List.length_filter_le _ _
theorem dropA_none {i : Int} {L : List It} (h : getA i L = none) : dropA i L = L := by
  unfold dropA
  rw [List.filter_eq_self]
  intro a ha
  simpa using getA_none.1 h a ha
theorem dropA_del {i : Int} {L : List It} {a : It} (hF : Fine L) (h : getA i L = some a) : del (a.1.1, i) L = dropA i L := by
  obtain ⟨h1, h2⟩ := (getA_some hF).1 h
  unfold del dropA
  apply List.filter_congr
  intro b hb
  by_cases hi : b.1.2 = i
  · have : b = a := hF.2 b hb a h1 (by rw [hi, h2])
    subst this
    simp [← h2]
  · have : ¬ b.1 = (a.1.1, i) := fun e => hi (by rw [e])
    simp [hi, this]
theorem fine_dropA {i : Int} {L : List It} (hF : Fine L) : Fine (dropA i L) :=
  ⟨fun a ha => hF.1 a (mem_dropA.1 ha).1, fun a ha b hb => hF.2 a (mem_dropA.1 ha).1 b (mem_dropA.1 hb).1⟩
theorem fine_putA {x : It} {L : List It} (hx : Word x.1.1 ∧ Inte x.1.2 ∧ Word x.2) (hF : Fine L) : Fine (putA x L) := by
  unfold putA
  refine ⟨fun a ha => ?_, fun a ha b hb e => ?_⟩
  · rcases mem_ins.1 ha with rfl | ha
    · exact hx
    · exact hF.1 a (mem_dropA.1 ha).1
  · rcases mem_ins.1 ha with rfl | ha <;> rcases mem_ins.1 hb with rfl | hb
    · rfl
    · exact absurd e.symm (mem_dropA.1 hb).2
    · exact absurd e (mem_dropA.1 ha).2
    · exact hF.2 a (mem_dropA.1 ha).1 b (mem_dropA.1 hb).1 e
theorem not_mem_dropA {x : It} {L : List It} : ∀ a ∈ dropA x.1.2 L, a.1 ≠ x.1 := fun a ha e => (mem_dropA.1 ha).2 (by rw [e])
theorem rise_putA {x : It} {L : List It} (h : Rise L) : Rise (putA x L) := rise_ins (rise_dropA h) not_mem_dropA
theorem putA_len {x : It} {L : List It} : (putA x L).length ≤ L.length + 1 := by
  unfold putA; rw [ins_len]; have := dropA_len (i := x.1.2) (L := L); omega
theorem putA_same {x : It} {L : List It} (h : Rise L) (hF : Fine L) (hx : x ∈ L) : putA x L = L := by
  refine rise_ext (rise_putA h) h fun a => ?_
  unfold putA
  rw [mem_ins, mem_dropA]
  constructor
  · rintro (rfl | ⟨h1, _⟩)
    · exact hx
    · exact h1
  · intro ha
    by_cases e : a.1.2 = x.1.2
    · exact .inl (hF.2 a ha x hx e)
    · exact .inr ⟨ha, e⟩
theorem num_drop {i : Int} {L : List It} (hF : Fine L) : numL (dropA i L) = fun j => if j = i then none else numL L j := by
  funext j
  unfold numL
  by_cases hj : j = i
  · subst hj
    rw [if_pos rfl, getA_none.2 fun a ha => (mem_dropA.1 ha).2]
    rfl
  · rw [if_neg hj]
    cases h : getA j L with
    | none => rw [getA_none.2 fun a ha => getA_none.1 h a (mem_dropA.1 ha).1]
    | some a =>
      obtain ⟨h1, h2⟩ := (getA_some hF).1 h
      rw [(getA_some (fine_dropA hF)).2 ⟨mem_dropA.2 ⟨h1, by rw [h2]; exact hj⟩, h2⟩]
theorem num_put {x : It} {L : List It} (hx : Word x.1.1 ∧ Inte x.1.2 ∧ Word x.2) (hF : Fine L) : numL (putA x L) = fun j => if j = x.1.2 then some x.1.1 else numL (dropA x.1.2 L) j := by
  funext j
  have hP := fine_putA hx hF
  unfold numL
  by_cases hj : j = x.1.2
  · subst hj
    rw [if_pos rfl, (getA_some hP).2 ⟨mem_ins.2 (.inl rfl), rfl⟩]
    rfl
  · rw [if_neg hj]
    cases h : getA j (dropA x.1.2 L) with
    | none =>
      rw [getA_none.2 fun a ha => ?_]
      rcases mem_ins.1 ha with rfl | ha
      · exact fun e => hj e.symm
      · exact getA_none.1 h a ha
    | some a =>
      obtain ⟨h1, h2⟩ := (getA_some (fine_dropA hF)).1 h
      rw [(getA_some hP).2 ⟨mem_ins.2 (.inr h1), h2⟩]
end Go.Proofs.Ytcpienpkpodfmaa
