/- Two slices of a call's own that grow side by side; where an appended slice lies. -/
import Derived.Test.YtpopcnebndgblaaGreatCou
import Derived.Deep.AppendLies
namespace Go.Proofs.YtpopcnebndgblaaGreat
open Go.RowKit Go.Shelf W
set_option linter.unusedVariables false
theorem app_lies {F : Fence} {n : Nat} {P : Program} (w : World) {ops : Array Oper} {rest : List Oper} {o : Oper} {a : Act} {Q : Exit → Act → World → Prop}
    (hg : o.guard = none) (s x : Operand) (t : TypeId) (hop : o.op = Op.call { callee := Callee.builtin Builtin.append, args := #[s, x], argTypes := #[t, t] })
    (base : Nat) (e : TypeId) (i : TypeInfo) (z : Value) (size bytes : Nat) (h1 : P.underlying t = some (.slice e)) (h2 : P.info? e = some i) (h3 : i.zero = some z) (h4 : i.size = size) (h5 : i.bytes = bytes) (h6 : z.cells.size = size) (h7 : 0 < size)
    (v : Value) (k : Nat) (xs : List Value) (hs : a.eval s = v) (hown : w.ownsRow base e size v k xs) (ad : Addr) (m c : Nat) (news : List Value) (hx : a.eval x = .slice (some ad) m c) (hn : news.length = m * size)
    (hc : ∀ j u, news[j]? = some u → w.cell? (ad.add j) = some u) (h1c : ∀ u ∈ news, u.oneCell' = true) (hm : 0 < m) (b1 : k + m ≤ maxLen) (b2 : (k + m) * bytes ≤ 140737488355328) (b3 : base ≤ w.heap.size)
    (hK : ∀ g cap w', w'.ownsRow base e size (.slice (some ⟨g, 0, none⟩) (k + m) cap) (k + m) (xs ++ news) → w.grownBy w' v.ownBlock → (v.ownBlock = some g ∨ g = w.heap.size) → wpListIn F n P ops Q rest (a.put o.dst (.slice (some ⟨g, 0, none⟩) (k + m) cap)) w') :
    wpListIn F n P ops Q (o :: rest) a w := by
  refine wpListIn_plain hg fun K hK' => ?_
  obtain ⟨g, cap, w', hrun, r1, r2, r3, r4⟩ := run_append_lies (P := P) (w := w) t o.type base e i z size bytes h1 h2 h3 h4 h5 h6 h7 v k xs hown ad m c news hn hc h1c hm b1 b2 b3 w.heap.size rfl
  unfold Oper.wpIn
  refine ⟨?_, ?_⟩
  · simp [Oper.about, hop, resolve, Target.leads, Sem.run_pure]
  · rw [Oper.semAt_plain F _ _ (by rw [hop]; intro c hc'; cases hc')]
    simp [execOp, hop, resolve, invoke, builtin, hs, hx, hrun, Result.andThen]
    exact hK' _ _ (hK g cap w' r1 r2 r3)
theorem owns_ne {W : World} {base : Nat} {v : Value} {k : Nat} {xs : List Value} (h : W.ownsRow base 30 1 v k xs) {B : Nat} {u : Array Value} {t : TypeId} (hB : Box W B u t) (ht : t ≠ 30) : v.ownBlock = none ∨ v.ownBlock ≠ some B := by
  rcases h.2 with ⟨rfl, _⟩ | ⟨g, cap, cur, rfl, _, hg, _⟩
  · exact .inl rfl
  · refine .inr fun e => ?_
    obtain rfl : g = B := by simpa [Value.ownBlock] using e
    rw [show W.heap[g]? = _ from hB] at hg
    cases hg
    exact ht rfl
theorem put_grown (W : World) (b i : Nat) (v : Value) : W.grownBy (W.setCell ⟨b, i, none⟩ v) (some b) :=
  ⟨rfl, rfl, rfl, by simp [World.setCell], fun k _ hk => Below.heap_setCell _ _ _ k (by show k ≠ b; exact fun e => hk (by rw [e]))⟩
/-- Two slices in two boxes. -/
structure Two (n m B1 B2 : Nat) (xs ys : List Int) (v u : Value) (W : World) : Prop where
  bv : Boxed W B1 86 v
  bu : Boxed W B2 86 u
  rv : W.ownsRow n 30 1 v xs.length (xs.map eU)
  ru : W.ownsRow n 30 1 u ys.length (ys.map eU)
  ne : v.ownBlock = none ∨ v.ownBlock ≠ u.ownBlock
  lv : ∀ g, v.ownBlock = some g → m ≤ g
  lu : ∀ g, u.ownBlock = some g → m ≤ g
theorem Two.flip {n m B1 B2 : Nat} {xs ys : List Int} {v u : Value} {W : World} (h : Two n m B1 B2 xs ys v u W) : Two n m B2 B1 ys xs u v W :=
  ⟨h.bu, h.bv, h.ru, h.rv, by
    rcases h.ne with e | e
    · by_cases hu : u.ownBlock = none
      · exact .inl hu
      · exact .inr (by rw [e]; exact hu)
    · exact .inr (fun e' => e e'.symm), h.lu, h.lv⟩
theorem Two.kept {n m B1 B2 : Nat} {xs ys : List Int} {v u : Value} {W W' : World} {row : Option Nat} (h : Two n m B1 B2 xs ys v u W) (hg : W.grownBy W' row) (hr : ∀ r, row = some r → ∃ o : Obj, W.heap[r]? = some o ∧ o.isCells = false) : Two n m B1 B2 xs ys v u W' := by
  have hk : ∀ {B : Nat} {x : Value}, Boxed W B 86 x → some B ≠ row := fun hb e => by
    obtain ⟨o, ho, hc⟩ := hr _ e.symm
    rw [show W.heap[_]? = _ from hb] at ho; cases ho; cases hc
  have hrow : ∀ {x : Value} {k : Nat} {zs : List Value}, W.ownsRow n 30 1 x k zs → x.ownBlock = none ∨ x.ownBlock ≠ row := fun h' => by
    rcases h'.2 with ⟨rfl, _⟩ | ⟨g, cap, cur, rfl, _, hgb, _⟩
    · exact .inl rfl
    · refine .inr fun e' => ?_
      obtain ⟨o, ho, hc⟩ := hr g (by simpa [Value.ownBlock] using e'.symm)
      rw [hgb] at ho; cases ho; cases hc
  exact ⟨h.bv.kept hg (hk h.bv), h.bu.kept hg (hk h.bu), h.rv.kept hg (hrow h.rv), h.ru.kept hg (hrow h.ru), h.ne, h.lv, h.lu⟩
theorem Two.alloc {n m B1 B2 : Nat} {xs ys : List Int} {v u : Value} {W : World} (h : Two n m B1 B2 xs ys v u W) (o : Obj) : Two n m B1 B2 xs ys v u (W.alloc o) := h.kept (World.grownBy_alloc W o none) (fun r e => by cases e)
/-- The first one has grown. -/
theorem Two.appended {n m B1 B2 g cap q : Nat} {xs ys news : List Int} {v u : Value} {W w1 : World} {tmp : Obj} (h : Two n m B1 B2 xs ys v u W) (hq : news.length = q) (hB : B1 ≠ B2) (hn : n ≤ W.heap.size) (hm : m ≤ W.heap.size) (h1 : n ≤ B1)
    (hown : w1.ownsRow n 30 1 (.slice (some ⟨g, 0, none⟩) (xs.length + q) cap) (xs.length + q) (xs.map eU ++ news.map eU)) (hgrow : (W.alloc tmp).grownBy w1 v.ownBlock) (hg : v.ownBlock = some g ∨ g = (W.alloc tmp).heap.size) :
    Two n m B1 B2 (xs ++ news) ys (.slice (some ⟨g, 0, none⟩) (xs.length + q) cap) u (w1.setCell ⟨B1, 0, none⟩ (.slice (some ⟨g, 0, none⟩) (xs.length + q) cap)) ∧
      Boxed w1 B1 86 v ∧ Boxed w1 B2 86 u ∧ KeepsOthers W (w1.setCell ⟨B1, 0, none⟩ (.slice (some ⟨g, 0, none⟩) (xs.length + q) cap)) ∧ Below n W (w1.setCell ⟨B1, 0, none⟩ (.slice (some ⟨g, 0, none⟩) (xs.length + q) cap)) := by
  subst hq
  obtain ⟨a1, a2, a3, a4, a5⟩ := h.bv.appended (by decide) h.rv hn h1 hown hgrow
  have hru1 := h.ru.alloc tmp
  have hbu1 := h.bu.alloc tmp
  have hru2 : w1.ownsRow n 30 1 u ys.length (ys.map eU) := hru1.kept hgrow (by
    rcases h.ne with e | e
    · rw [e]; by_cases hu : u.ownBlock = none
      · exact .inl hu
      · exact .inr hu
    · exact .inr (fun e' => e e'.symm))
  have hne1 := owns_ne h.rv (B := B2) (u := #[u]) (t := 86) h.bu (by decide)
  have hbu2 : Boxed w1 B2 86 u := hbu1.kept hgrow (fun e => by rcases hne1 with e1 | e1 <;> rw [← e] at e1; cases e1; exact e1 rfl)
  refine ⟨⟨a2, hbu2.other (by omega) _, by simpa using a3, hru2.kept (put_grown _ _ _ _) (owns_ne hru2 (B := B1) (u := #[v]) (t := 86) a1 (by decide)), .inr ?_, fun k e => ?_, h.lu⟩, a1, hbu2, a4, a5⟩
  rotate_left
  · obtain rfl : g = k := by simpa [Value.ownBlock] using e
    rcases hg with e1 | e1
    · exact h.lv _ e1
    · simp at e1; omega
  intro e
  have e' : u.ownBlock = some g := by simpa [Value.ownBlock] using e.symm
  rcases hg with e1 | e1
  · rcases h.ne with e2 | e2
    · rw [e2] at e1; cases e1
    · exact e2 (e1.trans e'.symm)
  · have := (h.ru.lt g e').2
    simp at e1
    omega
theorem Two.boxed {n m B1 B2 b : Nat} {xs ys : List Int} {v u x : Value} {t : TypeId} {W w1 : World} {tmp : Obj} (h : Two n m B1 B2 xs ys v u W) (hb : Boxed W b t x) (hm : b < m) (h1 : B1 ≠ b) (hgrow : (W.alloc tmp).grownBy w1 v.ownBlock) (y : Value) :
    Boxed w1 b t x ∧ Boxed (w1.setCell ⟨B1, 0, none⟩ y) b t x := by
  have h2 : Boxed w1 b t x := (hb.alloc tmp).kept hgrow (fun e => by have := h.lv b e.symm; omega)
  exact ⟨h2, h2.other (by omega) _⟩
theorem Two.box {n m B1 B2 b : Nat} {xs ys : List Int} {v u : Value} {x : Array Value} {t : TypeId} {W w1 : World} {tmp : Obj} (h : Two n m B1 B2 xs ys v u W) (hb : Box W b x t) (hm : b < m) (h1 : B1 ≠ b) (hgrow : (W.alloc tmp).grownBy w1 v.ownBlock) (y : Value) :
    Box (w1.setCell ⟨B1, 0, none⟩ y) b x t := by
  have hb' := hb.alloc tmp
  have h2 : Box w1 b x t := (hgrow.block b hb'.lt (fun e => by have := h.lv b e.symm; omega)).trans hb'
  exact h2.other (by omega) _
theorem Two.far {n m B1 B2 b : Nat} {xs ys : List Int} {v u : Value} {x : Array Value} {t : TypeId} {W w1 : World} {tmp : Obj} (h : Two n m B1 B2 xs ys v u W) (hb : Box W b x t) (ht : t ≠ 30) (h1 : B1 ≠ b) (hgrow : (W.alloc tmp).grownBy w1 v.ownBlock) (y : Value) :
    Box (w1.setCell ⟨B1, 0, none⟩ y) b x t := by
  have hb' := hb.alloc tmp
  have hne := owns_ne h.rv hb ht
  have h2 : Box w1 b x t := (hgrow.block b hb'.lt (fun e => by rcases hne with e1 | e1 <;> rw [← e] at e1; cases e1; exact e1 rfl)).trans hb'
  exact h2.other (by omega) _
end Go.Proofs.YtpopcnebndgblaaGreat
