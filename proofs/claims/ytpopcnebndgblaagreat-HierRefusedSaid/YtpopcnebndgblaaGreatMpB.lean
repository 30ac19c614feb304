/- A map from ticks to two words, as a call has made it: what it says at each key; the laws of its look-up, its store, its delete. -/
import Derived.Test.YtpopcnebndgblaaGreatAtP
namespace Go.Proofs.YtpopcnebndgblaaGreat
open Go.RowKit Go.Shelf Go.Maps W
set_option linter.unusedVariables false
def bD (x y : Int) : DataW Unit := .agg [.lit (.int .u64 x), .lit (.int .u64 y)]
def bE : Rel := fun v => match v with
  | .agg cs => (match cs.toList with
    | [.int .u64 x, .int .u64 y] => some (bD x y, [])
    | _ => none)
  | _ => none
theorem bE_inv {v : Value} {x y : Int} {ps : List MemPlace} (h : bE v = some (bD x y, ps)) : v = .agg #[eU x, eU y] := by
  unfold bE at h
  split at h
  · rename_i cs
    split at h
    · rename_i a b e
      simp [bD] at h
      obtain ⟨⟨rfl, rfl⟩, _⟩ := h
      congr 1
      exact Array.toList_inj.1 e
    · cases h
  · cases h
/-- Block b is a map that says U k, V k at each k (0 where there is nothing), and has just the keys of K. -/
def MapB (w : World) (b nn : Nat) (U V : Int → Int) (K : Int → Prop) : Prop :=
  ∃ D, w.ownsMap Tryz.prog 30 bE b nn D ∧ (∀ k, D.atKey (.int .u64 k) (bD 0 0) = bD (U k) (V k)) ∧ ∀ k, has D (.int .u64 k) = true ↔ K k
theorem key_of {k : Int} (h : Word k) : keyOf Tryz.prog 30 (eU k) = some (.int .u64 k) := keyOf_int_mk Tryz.underlying30 (by unfold Word at h; simp [Lit.wf, IntKind.min, IntKind.max, IntKind.bits, IntKind.signed]; omega)
theorem lit_ne {j k : Int} (h : j ≠ k) : Lit.int .u64 j ≠ Lit.int .u64 k := fun e => h (by cases e; rfl)
theorem MapB.lt {w : World} {b nn : Nat} {U V : Int → Int} {K : Int → Prop} (h : MapB w b nn U V K) : b < w.heap.size := by
  obtain ⟨D, h1, _⟩ := h; exact h1.lt
theorem MapB.kept {w w' : World} {b nn : Nat} {U V : Int → Int} {K : Int → Prop} {row : Option Nat} (h : MapB w b nn U V K) (hg : w.grownBy w' row) (hne : some b ≠ row) : MapB w' b nn U V K := by
  obtain ⟨D, h1, h2⟩ := h; exact ⟨D, h1.kept hg hne, h2⟩
theorem MapB.alloc {w : World} {b nn : Nat} {U V : Int → Int} {K : Int → Prop} (h : MapB w b nn U V K) (o : Obj) : MapB (w.alloc o) b nn U V K := h.kept (World.grownBy_alloc w o none) (by simp)
theorem MapB.below {w w' : World} {b nn : Nat} {U V : Int → Int} {K : Int → Prop} (h : MapB w b nn U V K) (hb : Below w.heap.size w w') : MapB w' b nn U V K :=
  h.kept (row := none) ⟨hb.os, hb.tape, hb.output, hb.size, fun k hk _ => hb.block k hk⟩ (by simp)
theorem MapB.put {w : World} {b nn : Nat} {U V : Int → Int} {K : Int → Prop} (h : MapB w b nn U V K) {c : Nat} (hne : b ≠ c) (i : Nat) (v : Value) : MapB (w.setCell ⟨c, i, none⟩ v) b nn U V K := h.kept (put_grown w c i v) (fun e => hne (by cases e; rfl))
theorem MapB.size {w : World} {b nn : Nat} {U V : Int → Int} {K : Int → Prop} (h : MapB w b nn U V K) : ∃ D, w.ownsMap Tryz.prog 30 bE b nn D ∧ Maps.size D ≤ nn ∧ ∀ k, has D (.int .u64 k) = true ↔ K k := by
  obtain ⟨D, h1, _, h3⟩ := h
  exact ⟨D, h1, h1.size_le, h3⟩
theorem MapB.made (w : World) : MapB (w.alloc (.map #[] 0)) w.heap.size 0 (fun _ => 0) (fun _ => 0) (fun _ => False) :=
  ⟨_, World.ownsMap_made w Tryz.prog 30 bE, fun k => rfl, fun k => by simp [has]⟩
theorem MapB.look {w : World} {b nn : Nat} {U V : Int → Int} {K : Int → Prop} (h : MapB w b nn U V K) {k u v : Int} (hk : Word k) (hu : U k = u) (hv : V k = v) :
    (Instr.lookup 130 (.map (some b)) (eU k) false).run Tryz.prog w = .ok (.agg #[eU u, eU v]) w := by
  obtain ⟨D, h1, h2, _⟩ := h
  obtain ⟨x, ps, hr, hx⟩ := h1.lookup (int_keyed Tryz.underlying30) Tryz.underlying130 (e := 132) (z := .agg #[eU 0, eU 0]) (Tryz.zeroValue132 w) (zd := bD 0 0) (zp := []) rfl (key_of hk)
  rw [h2, hu, hv] at hx
  rw [hr, bE_inv hx]
theorem MapB.upd {w : World} {b nn : Nat} {U V : Int → Int} {K : Int → Prop} (h : MapB w b nn U V K) (hn : nn ≤ 5000) {k : Int} (p q : Int) (hk : Word k) :
    ∃ w', (Instr.mapUpdate 130 (.map (some b)) (eU k) (.agg #[eU p, eU q])).run Tryz.prog w = .ok () w' ∧ MapB w' b (nn + 1) (fun j => if j = k then p else U j) (fun j => if j = k then q else V j) (fun j => K j ∨ j = k) ∧ w.grownBy w' (some b) := by
  obtain ⟨D, h1, h2, h3⟩ := h
  obtain ⟨w', hr, ho, hg⟩ := h1.update (int_keyed Tryz.underlying30) Tryz.underlying130 (Nat.lt_of_le_of_lt hn (by decide)) (key_of hk) (val := .agg #[eU p, eU q]) (d := bD p q) (ps := []) rfl
  have hm := h1.isMap
  have hkl : WideAt.IsKeyLit (.int .u64 k) := by trivial
  refine ⟨w', hr, ⟨_, ho, fun j => ?_, fun j => ?_⟩, hg⟩
  · by_cases hj : j = k
    · subst hj; simp [atKey_put_same hm hkl]
    · simp [atKey_put_other (lit_ne hj), hj, h2 j]
  · by_cases hj : j = k
    · subst hj; simp [has_put_same hm hkl]
    · rw [has_put_other (lit_ne hj), h3 j]; simp [hj]
theorem look_b {F : Fence} {n : Nat} {w : World} {ops : Array Oper} {rest : List Oper} {o : Oper} {a : Act} {Q : Exit → Act → World → Prop} (hg : o.guard = none) (m x : Operand) (hop : o.op = Op.lookup 130 m x false)
    {b nn : Nat} {U V : Int → Int} {K : Int → Prop} (h : MapB w b nn U V K) (hm : a.eval m = .map (some b)) (k u v : Int) (hx : a.eval x = eU k) (hk : Word k) (hu : U k = u) (hv : V k = v)
    (hK : wpListIn F n Tryz.prog ops Q rest (a.put o.dst (.agg #[eU u, eU v])) w) : wpListIn F n Tryz.prog ops Q (o :: rest) a w := by
  refine wpListIn_plain hg fun K' hK' => ?_
  have hrun := h.look hk hu hv
  unfold Oper.wpIn
  refine ⟨by simp [Oper.about, hop], ?_⟩
  rw [Oper.semAt_plain F _ _ (by rw [hop]; intro c hc'; cases hc')]
  simp [execOp, hop, hm, hx, hrun, Result.andThen]
  exact hK' _ _ hK
theorem upd_b {F : Fence} {n : Nat} {w : World} {ops : Array Oper} {rest : List Oper} {o : Oper} {a : Act} {Q : Exit → Act → World → Prop} (hg : o.guard = none) (m x v : Operand) (hop : o.op = Op.mapUpdate 130 m x v ∨ o.op = Op.insert 130 m x v)
    {b nn : Nat} {U V : Int → Int} {K : Int → Prop} (h : MapB w b nn U V K) (hn : nn ≤ 5000) (hm : a.eval m = .map (some b)) (k p q : Int) (hx : a.eval x = eU k) (hk : Word k) (hv : a.eval v = .agg #[eU p, eU q])
    (hK : ∀ w', MapB w' b (nn + 1) (fun j => if j = k then p else U j) (fun j => if j = k then q else V j) (fun j => K j ∨ j = k) → w.grownBy w' (some b) → wpListIn F n Tryz.prog ops Q rest (a.put o.dst undef) w') : wpListIn F n Tryz.prog ops Q (o :: rest) a w := by
  refine wpListIn_plain hg fun K' hK' => ?_
  obtain ⟨w', hrun, r1, r2⟩ := h.upd hn p q hk
  unfold Oper.wpIn
  rcases hop with hop | hop
  · refine ⟨by simp [Oper.about, hop], ?_⟩
    rw [Oper.semAt_plain F _ _ (by rw [hop]; intro c hc'; cases hc')]
    simp [execOp, hop, hm, hx, hv, hrun, Result.andThen]
    exact hK' _ _ (hK w' r1 r2)
  · refine ⟨by simp [Oper.about, hop], ?_⟩
    rw [Oper.semAt_plain F _ _ (by rw [hop]; intro c hc'; cases hc')]
    simp [execOp, hop, hm, hx, hv, hrun, Result.andThen]
    exact hK' _ _ (hK w' r1 r2)
theorem del_b {F : Fence} {n : Nat} {w : World} {ops : Array Oper} {rest : List Oper} {o : Oper} {a : Act} {Q : Exit → Act → World → Prop} (hg : o.guard = none) (m x : Operand) (hop : o.op = Op.call { callee := Callee.builtin Builtin.delete, args := #[m, x], argTypes := #[130, 30] })
    {b nn : Nat} {U V : Int → Int} {K : Int → Prop} (h : MapB w b nn U V K) (hm : a.eval m = .map (some b)) (k : Int) (hx : a.eval x = eU k) (hk : Word k)
    (hK : ∀ w', MapB w' b nn (fun j => if j = k then 0 else U j) (fun j => if j = k then 0 else V j) (fun j => K j ∧ j ≠ k) → w.grownBy w' (some b) → wpListIn F n Tryz.prog ops Q rest (a.put o.dst (.tuple #[])) w') : wpListIn F n Tryz.prog ops Q (o :: rest) a w := by
  obtain ⟨D, h1, h2, h3⟩ := h
  refine wpListIn_delete_own w hg m x 130 30 hop 132 (int_keyed Tryz.underlying30) Tryz.underlying130 bE b nn D hm h1 (eU k) _ hx (key_of hk) fun w' ho ht => hK w' ⟨_, ho, fun j => ?_, fun j => ?_⟩ ht.grown
  · by_cases hj : j = k
    · subst hj; simp [atKey_del_same]
    · simp [atKey_del_other (lit_ne hj), hj, h2 j]
  · by_cases hj : j = k
    · subst hj; simp [has_del_same]
    · rw [has_del_other (lit_ne hj), h3 j]; simp [hj]
end Go.Proofs.YtpopcnebndgblaaGreat
