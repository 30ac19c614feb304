/- A map from numbers to pages, as a call has made it: what it says at each number; its look-up, store, delete. Whether a table was made; which ids may be; the place of a value on its page. No condition but words. -/
import Derived.Test.YtenghpgnhmglpaaDoorRtS
import Derived.Test.YtenghpgnhmglpaaDoorTbN
import Derived.Test.YtenghpgnhmglpaaDoorTbQ
import Derived.Maps.OwnSet
import Derived.BigCall
import Derived.BigGuard
namespace Go.Proofs.YtenghpgnhmglpaaDoor
open Go.RowKit Go.Maps
set_option linter.unusedVariables false
/-- A page's address, or none. -/
def pV : Option Nat → Value
  | none => .pointer none
  | some b => .pointer (some ⟨b, 0, none⟩)
def pD : Option Nat → DataW Unit
  | none => .lit (.int .i64 (-1))
  | some b => .lit (.int .i64 b)
def pE : Value → Option (DataW Unit × List MemPlace) := fun v => match v with
  | .pointer none => some (pD none, [])
  | .pointer (some ⟨b, 0, none⟩) => some (pD (some b), [])
  | _ => none
theorem pE_mk (q : Option Nat) : pE (pV q) = some (pD q, []) := by cases q <;> rfl
theorem pD_inj {a b : Option Nat} (h : pD a = pD b) : a = b := by
  cases a <;> cases b <;> simp [pD] at h
  · rfl
  · exact congrArg some (Int.ofNat.inj h)
theorem pE_inv {v : Value} {q : Option Nat} {ps : List MemPlace} (h : pE v = some (pD q, ps)) : v = pV q := by
  unfold pE at h
  split at h
  · simp only [Option.some.injEq, Prod.mk.injEq] at h
    rw [← pD_inj h.1]; rfl
  · simp only [Option.some.injEq, Prod.mk.injEq] at h
    rw [← pD_inj h.1]; rfl
  · cases h
/-- Block b is a map of c entries that says F k at each k. -/
def MapP (w : World) (b c : Nat) (F : Int → Option Nat) : Prop :=
  ∃ D, w.ownsMap Tryd.prog 3 pE b c D ∧ Maps.size D = c ∧ ∀ k, D.atKey (.int .i64 k) (pD none) = pD (F k) ∧ Maps.has D (.int .i64 k) = (F k).isSome
theorem key_of {k : Int} (h : Inte k) : keyOf Tryd.prog 3 (eI k) = some (.int .i64 k) := keyOf_int_mk Tryd.underlying3 (by unfold Inte at h; simp [Lit.wf, IntKind.min, IntKind.max, IntKind.bits, IntKind.signed]; omega)
theorem lit_ne {j k : Int} (h : j ≠ k) : Lit.int .i64 j ≠ Lit.int .i64 k := fun e => h (by cases e; rfl)
section
variable {w w' : World} {b c : Nat} {F : Int → Option Nat}
theorem ownsMap_tight {D : DataW Unit} {n : Nat} (h : w.ownsMap Tryd.prog 3 pE b n D) : w.ownsMap Tryd.prog 3 pE b (Maps.size D) D := by
  obtain ⟨es, clock, hb, F, hs, rfl⟩ := h
  refine ⟨es, clock, hb, F, ?_, rfl⟩
  rw [Maps.size_eq, length_sorted]
  simp
theorem MapP.lt (h : MapP w b c F) : b < w.heap.size := by obtain ⟨D, h1, _⟩ := h; exact h1.lt
theorem MapP.kept {row : Option Nat} (h : MapP w b c F) (hg : w.grownBy w' row) (hne : some b ≠ row) : MapP w' b c F := by
  obtain ⟨D, h1, h2⟩ := h; exact ⟨D, h1.kept hg hne, h2⟩
theorem MapP.below (h : MapP w b c F) (hb : Below w.heap.size w w') : MapP w' b c F :=
  h.kept (row := none) ⟨hb.os, hb.tape, hb.output, hb.size, fun k hk _ => hb.block k hk⟩ (by simp)
theorem MapP.off {S : Nat → Prop} (h : MapP w b c F) (ho : Off S w w') (hn : ¬ S b) : MapP w' b c F := by
  obtain ⟨D, ⟨es, clock, hb, h1⟩, h2⟩ := h
  exact ⟨D, ⟨es, clock, (ho.block b (Array.getElem?_eq_some_iff.1 hb).1 hn).trans hb, h1⟩, h2⟩
theorem MapP.unbox (h : MapP w b c F) (vs : Array Value) (t : TypeId) : ¬ Box w b vs t := fun hb => by
  obtain ⟨D, ⟨es, clock, hb', _⟩, _⟩ := h
  have : w.heap[b]? = some (.cells vs t (0, 0)) := hb
  rw [hb'] at this
  cases this
theorem MapP.made (w : World) : MapP (w.alloc (.map #[] 0)) w.heap.size 0 (fun _ => none) :=
  ⟨_, World.ownsMap_made w Tryd.prog 3 pE, rfl, fun k => ⟨rfl, by simp [Maps.has]⟩⟩
theorem MapP.look (h : MapP w b c F) {k : Int} (hk : Inte k) : (Instr.lookup 47 (.map (some b)) (eI k) false).run Tryd.prog w = .ok (pV (F k)) w := by
  obtain ⟨D, h1, _, h2⟩ := h
  obtain ⟨x, ps, hr, hx⟩ := h1.lookup (int_keyed Tryd.underlying3) Tryd.underlying47 (e := 67) (z := .pointer none) (Tryd.zeroValue67 w) (zd := pD none) (zp := []) rfl (key_of hk)
  rw [(h2 k).1] at hx
  rw [hr, pE_inv hx]
theorem MapP.upd (h : MapP w b c F) (hc : c ≤ 5000) {k : Int} (q : Nat) (hk : Inte k) (hn : F k = none) :
    ∃ w', (Instr.mapUpdate 47 (.map (some b)) (eI k) (pV (some q))).run Tryd.prog w = .ok () w' ∧ MapP w' b (c + 1) (fun j => if j = k then some q else F j) ∧ w.grownBy w' (some b) := by
  obtain ⟨D, h1, h0, h2⟩ := h
  have hm1 := h1.isMap
  have ht := h1.tidy (int_keyed Tryd.underlying3)
  have hkl : WideAt.IsKeyLit (.int .i64 k) := by trivial
  obtain ⟨w', hr, ho, hg⟩ := h1.update (int_keyed Tryd.underlying3) Tryd.underlying47 (Nat.lt_of_le_of_lt hc (by decide)) (key_of hk) (pE_mk (some q))
  have hsz : Maps.size (D.put (.int .i64 k) (pD (some q))) = c + 1 := by
    rw [size_put ht, (h2 k).2, hn, h0]; rfl
  refine ⟨w', hr, ⟨_, ho, hsz, fun j => ?_⟩, hg⟩
  by_cases hj : j = k
  · subst hj; simp [atKey_put_same hm1 hkl, has_put_same hm1 hkl]
  · simp [atKey_put_other (lit_ne hj), has_put_other (lit_ne hj), hj, h2 j]
end
section
variable {w : World} {ops : Array Oper} {rest : List Oper} {o : Oper} {a : Act} {Q : Exit → Act → World → Prop} {b c : Nat} {F : Int → Option Nat}
theorem upd_p (hg : o.guard = none) (m x v : Operand) (hop : o.op = Op.mapUpdate 47 m x v) (h : MapP w b c F) (hc : c ≤ 5000) (hm : a.eval m = .map (some b)) (k : Int) (q : Nat) (hx : a.eval x = eI k) (hk : Inte k) (hn : F k = none) (hv : a.eval v = pV (some q))
    (hK : ∀ w', MapP w' b (c + 1) (fun j => if j = k then some q else F j) → w.grownBy w' (some b) → wpList Tryd.prog ops Q rest (a.put o.dst undef) w') : wpList Tryd.prog ops Q (o :: rest) a w := by
  refine wpList_plain hg fun K' hK' => ?_
  obtain ⟨w', hrun, r1, r2⟩ := h.upd hc q hk hn
  unfold Oper.wp
  simp [execOp, hop, hm, hx, hv, hrun, Result.andThen]
  exact hK' _ _ (hK w' r1 r2)
theorem del_p (hg : o.guard = none) (m x : Operand) (hop : o.op = Op.call { callee := Callee.builtin Builtin.delete, args := #[m, x], argTypes := #[47, 3] }) (h : MapP w b c F) (hm : a.eval m = .map (some b)) (k : Int) (hx : a.eval x = eI k) (hk : Inte k) (hs : (F k).isSome = true)
    (hK : ∀ w', MapP w' b (c - 1) (fun j => if j = k then none else F j) → w.grownBy w' (some b) → wpList Tryd.prog ops Q rest (a.put o.dst (.tuple #[])) w') : wpList Tryd.prog ops Q (o :: rest) a w := by
  obtain ⟨D, h1, h0, h2⟩ := h
  have ht := h1.tidy (int_keyed Tryd.underlying3)
  refine wpList_delete_own w hg m x 47 3 hop 67 (int_keyed Tryd.underlying3) Tryd.underlying47 pE b c D hm h1 (eI k) _ hx (key_of hk) fun w' ho hg' => hK w' ?_ hg'.grown
  have hsz : Maps.size (D.del (.int .i64 k)) = c - 1 := by
    have := size_del (k := .int .i64 k) ht
    rw [(h2 k).2, hs, h0] at this
    simp at this
    omega
  refine ⟨_, by have := ownsMap_tight ho; rw [hsz] at this; exact this, hsz, fun j => ?_⟩
  by_cases hj : j = k
  · subst hj; simp [atKey_del_same, has_del_same]
  · simp [atKey_del_other (lit_ne hj), has_del_other (lit_ne hj), hj, h2 j]
end
/-! ### Whether it was made; what is wrong with an id -/
theorem undef_ne (b : Bool) : ¬ undef = Value.bool b := fun h => by cases h
theorem map_ne (Bm : Nat) (W : World) : (binOp .neq 47 (.map (some Bm)) (.map none)).run Tryd.prog W = .ok (.bool true) W := by kernel_rfl
theorem map_ne0 (W : World) : (binOp .neq 47 (.map none) (.map none)).run Tryd.prog W = .ok (.bool false) W := by kernel_rfl
theorem made_yes {w : World} {B Bm : Nat} {v n : Value} (h : Box w B #[.map (some Bm), v, n] 50) : Calls Tryd.prog 26 #[.pointer (some ⟨B, 0, none⟩)] w fun e w' => e = .returned (.bool true) ∧ w = w' := by
  have c0 := h.cell 0
  have hm := map_ne Bm
  go_enter Tryd.func26, Tryd.ntmps26
  go_wp2
  go_ret
  exact ⟨rfl, rfl⟩
theorem made_zero {w : World} {B : Nat} {v n : Value} (h : Box w B #[.map none, v, n] 50) : Calls Tryd.prog 26 #[.pointer (some ⟨B, 0, none⟩)] w fun e w' => e = .returned (.bool false) ∧ w = w' := by
  have c0 := h.cell 0
  have hm := map_ne0
  go_enter Tryd.func26, Tryd.ntmps26
  go_wp2
  go_ret
  exact ⟨rfl, rfl⟩
theorem made_nil (w : World) : Calls Tryd.prog 26 #[.pointer none] w fun e w' => e = .returned (.bool false) ∧ w = w' := by
  have hu := undef_ne
  go_enter Tryd.func26, Tryd.ntmps26
  go_wp2
  go_ret
  exact ⟨rfl, rfl⟩
theorem wrong_may {w : World} {B Bm : Nat} {v n : Value} (h : Box w B #[.map (some Bm), v, n] 50) (k : Int) : Calls Tryd.prog 34 #[.pointer (some ⟨B, 0, none⟩), eI k] w fun e w' => e = .returned (eI (if mayI k = true then 0 else 2)) ∧ w = w' := by
  have hM := made_yes h
  have hu := undef_ne
  by_cases h1 : k < 1
  · have e : mayI k = false := by unfold mayI; simp; omega
    rw [e]
    go_enter Tryd.func34, Tryd.ntmps34
    go_wp2_with (go_at_call 26; (with_reducible refine hM.mono ?_); rintro e w1 ⟨rfl, rfl⟩)
    go_ret
    exact ⟨rfl, rfl⟩
  · by_cases h2 : 65535 < k
    · have e : mayI k = false := by unfold mayI; simp; omega
      rw [e]
      go_enter Tryd.func34, Tryd.ntmps34
      go_wp2_with (go_at_call 26; (with_reducible refine hM.mono ?_); rintro e w1 ⟨rfl, rfl⟩)
      go_ret
      exact ⟨rfl, rfl⟩
    · have e : mayI k = true := by unfold mayI; simp; omega
      rw [e]
      go_enter Tryd.func34, Tryd.ntmps34
      go_wp2_with (go_at_call 26; (with_reducible refine hM.mono ?_); rintro e w1 ⟨rfl, rfl⟩)
      go_ret
      exact ⟨rfl, rfl⟩
theorem shl_one {one : Nat} (ho : one < 64) : IntKind.u64.wrap ((2 : Int) ^ one) = ((2 ^ one : Nat) : Int) ∧ 0 < 2 ^ one ∧ 2 ^ one ≤ 9223372036854775808 := by
  have hp : 2 ^ one ≤ 2 ^ 63 := Nat.pow_le_pow_right (by omega) (by omega)
  have hp0 : 0 < 2 ^ one := Nat.two_pow_pos one
  have e : (2 : Int) ^ one = ((2 ^ one : Nat) : Int) := by simp
  refine ⟨?_, hp0, hp⟩
  rw [e, wrap_id (by omega) (by omega)]
theorem place_any {w : World} {q : Nat} {vv : Value} (x one : Nat) (hx : x < 18446744073709551616) (ho : one < 64) (h : Box w q #[eU (x : Int), vv] 72) : Calls Tryd.prog 37 #[.pointer (some ⟨q, 0, none⟩), eI (one : Int)] w fun e w' => e = .returned (eI (popN x one : Int)) ∧ ∃ k, w' = w.drewN k := by
  have c0 := h.cell 0
  obtain ⟨a1, b1, b2⟩ := shl_one ho
  have hO := ones_any (x &&& (2 ^ one - 1)) (Nat.lt_of_le_of_lt Nat.and_le_left hx)
  rw [popN_mask x one 64 (by omega)] at hO
  generalize popN x one = r at *
  generalize 2 ^ one = P at *
  obtain ⟨M, hM⟩ : ∃ M, P - 1 = M := ⟨_, rfl⟩
  rw [hM] at hO
  have a2 : IntKind.u64.wrap ((P : Int) - 1) = (M : Int) := by rw [wrap_id (by omega) (by omega)]; omega
  have a3 := and_u64 x M (M : Int) hx rfl (by omega)
  generalize (x &&& M) = y at *
  have q4 : ∀ k, Calls Tryd.prog 47 #[eU (y : Int)] (w.drewN k) fun e w' => e = .returned (eI (r : Int)) ∧ w' = w.drewN k := fun k => (hO _).mono fun e w' ⟨x, y⟩ => ⟨x, y.symm⟩
  have o1 : (one : Int) ≤ 64 := by omega
  have o2 : one ≤ 64 := by omega
  have o3 : ¬ (one : Int) < 0 := by omega
  have o4 : min one 64 = one := by omega
  clear b1 b2 hM hx ho hO
  go_enter Tryd.func37, Tryd.ntmps37
  go_upto_region 1 with fail
  go_quiet (first | (go_at_call 47; refine Calls.quiet_of_same (q4 _)))
  go_wp2
  go_ret
  exact ⟨rfl, _, rfl⟩
end Go.Proofs.YtenghpgnhmglpaaDoor
