/- When the document's curves are late first: found by halves. Conditions: words; at most 1000 curves. Whether the document's curves are kept. Conditions: words; at most 1000 curves. What the document's curves have to spare. Conditions: words; at most 999 curves. A slice of curves that came in: its cells, as curves. No condition. -/
import Derived.Test.YtpopcnebndgblaaGreatGJ
import Derived.IntWalk
import Derived.Test.YtpopcnebndgblaaGreatGI
import Derived.Deep.Slices
import Derived.Deep.Fields
import Derived.ChangeSame
import Derived.OpenShut
namespace Go.Proofs.YtpopcnebndgblaaGreat
open Go.RowKit W
set_option linter.unusedVariables false
/-- Between low and high they are late first: not up to low; at high, and from the first one on. -/
def LI (xs : List Cv) (rate lo hi a b : Int) : Prop := a ≤ lo ∧ lo < hi ∧ hi ≤ b ∧ (∀ t, 0 ≤ t → t ≤ lo → ¬ lateAt xs rate t) ∧ lateAt xs rate hi
theorem LI.late {xs : List Cv} {rate lo hi a b : Int} (h : LI xs rate lo hi a b) (ha : 0 ≤ a) (hb : b ≤ 9223372036854775807) (he : hi = lo + 1) : IsLate xs rate hi := by
  obtain ⟨h1, h2, h3, h4, h5⟩ := h
  exact .inr ⟨by omega, by omega, h5, fun t t0 t1 => h4 t t0 (by omega)⟩
theorem LI.high {xs : List Cv} {rate lo hi a b m : Int} (h : LI xs rate lo hi a b) (h1 : lo < m) (h2 : m < hi) (hl : lateAt xs rate m) : LI xs rate lo m a b := by
  obtain ⟨g1, g2, g3, g4, g5⟩ := h
  exact ⟨g1, h1, by omega, g4, hl⟩
theorem LI.low {xs : List Cv} {rate lo hi a b m : Int} (h : LI xs rate lo hi a b) (hs : ∀ c ∈ xs, ¬ inside c a b) (ha : 0 ≤ a) (h1 : lo < m) (h2 : m < hi) (hl : ¬ lateAt xs rate m) : LI xs rate m hi a b := by
  obtain ⟨g1, g2, g3, g4, g5⟩ := h
  refine ⟨by omega, h2, g3, fun t t0 t1 => ?_, g5⟩
  by_cases q : t ≤ lo
  · exact g4 t t0 q
  · intro l
    exact hl (late_on hs ha (g4 a ha g1) t m (by omega) t1 (by omega) l)
/-- Not late up to the corner before i. -/
def LJ (xs : List Cv) (rate : Int) (i : Nat) : Prop := ∀ h : i - 1 < (dF xs).length, ∀ t, 0 ≤ t → t ≤ (dF xs)[i - 1] → ¬ lateAt xs rate t
theorem LJ.next {xs : List Cv} {rate : Int} {i : Nat} (hw : ∀ c ∈ xs, c.word) (h : LJ xs rate i) (hi : 1 ≤ i) (hl : i < (dF xs).length) (hn : ¬ lateAt xs rate (dF xs)[i]) : LJ xs rate (i + 1) := by
  obtain ⟨f1, f2, f3, f4, f5⟩ := dF_facts hw
  intro hk t t0 t1
  have e : i + 1 - 1 = i := by omega
  have t1' : t ≤ (dF xs)[i] := by simpa only [e] using t1
  by_cases q : t ≤ (dF xs)[i - 1]'(by omega)
  · exact h (by omega) t t0 q
  · have hh := f4 (i - 1) (by omega)
    have e2 : i - 1 + 1 = i := by omega
    simp only [e2] at hh
    exact late_between hh.2 (f2 (i - 1) (by omega)).1 (h (by omega) _ (f2 (i - 1) (by omega)).1 (Int.le_refl _)) hn t (by omega) t1'
theorem LJ.start {xs : List Cv} {rate : Int} (hw : ∀ c ∈ xs, c.word) : LJ xs rate 1 := by
  obtain ⟨f1, f2, f3, f4, f5⟩ := dF_facts hw
  intro hk t t0 t1
  have : t = 0 := by have := f3 hk; simp only [Nat.sub_self] at t1; omega
  subst this
  exact not_late_zero hw rate
theorem LJ.done {xs : List Cv} {rate : Int} (hw : ∀ c ∈ xs, c.word) (h : LJ xs rate (dF xs).length) : IsLate xs rate 9223372036854775808 := by
  obtain ⟨f1, f2, f3, f4, f5⟩ := dF_facts hw
  refine .inl ⟨rfl, fun t t0 t1 => ?_⟩
  have e : (dF xs).length - 1 = (corF xs).length := by omega
  refine h (by omega) t t0 ?_
  simp only [e]
  rw [f5 (by omega)]; omega
theorem LJ.in {xs : List Cv} {rate : Int} {i : Nat} (hw : ∀ c ∈ xs, c.word) (h : LJ xs rate i) (hi : 1 ≤ i) (hl : i < (dF xs).length) (hn : lateAt xs rate (dF xs)[i]) :
    LI xs rate ((dF xs)[i - 1]'(by omega)) (dF xs)[i] ((dF xs)[i - 1]'(by omega)) (dF xs)[i] ∧ (∀ c ∈ xs, ¬ inside c ((dF xs)[i - 1]'(by omega)) (dF xs)[i]) ∧ 0 ≤ (dF xs)[i - 1]'(by omega) ∧ (dF xs)[i] ≤ 9223372036854775807 := by
  obtain ⟨f1, f2, f3, f4, f5⟩ := dF_facts hw
  have hh := f4 (i - 1) (by omega)
  have e2 : i - 1 + 1 = i := by omega
  simp only [e2] at hh
  exact ⟨⟨Int.le_refl _, hh.1, Int.le_refl _, fun t t0 t1 => h (by omega) t t0 t1, hn⟩, hh.2, (f2 _ (by omega)).1, (f2 _ hl).2⟩
theorem new_one (w1 : World) : ∀ j u, [eU 9223372036854775807][j]? = some u → (w1.alloc (.cells #[eU 9223372036854775807] 30)).cell? ((⟨w1.heap.size, 0, none⟩ : Addr).add j) = some u := by
  intro j u hj
  match j, hj with
  | 0, hj => simp at hj; subst hj; simp [Addr.add]
theorem row_cell {w : World} {base : Nat} {g n cap : Nat} {ds : List Int} {l : List Value} (h : w.ownsRow base 30 1 (.slice (some ⟨g, 0, none⟩) n cap) n l) (e : ds.map eU = l) {j : Nat} (hj : j < ds.length) :
    w.cell? ⟨g, j, none⟩ = some (.int .u64 ds[j]) := by
  subst e
  have := h.cells (g := g) rfl j (eU ds[j]) (by simp [List.getElem?_eq_getElem hj])
  rw [show (⟨g, 0, none⟩ : Addr).add j = ⟨g, j, none⟩ by unfold Addr.add; split <;> simp_all] at this
  exact this
/-- A row that is not empty is there. -/
theorem owns_slice {w : World} {base n : Nat} {v : Value} {cs : List Value} (h : w.ownsRow base 30 1 v n cs) (hn : 0 < n) : ∃ g cap, v = .slice (some ⟨g, 0, none⟩) n cap ∧ base ≤ g ∧ n ≤ cap ∧ cap ≤ maxLen := by
  rcases h.2 with ⟨h1, h2⟩ | ⟨g, cap, cur, h1, h2, h3, h4, h5, _⟩
  · omega
  · exact ⟨g, cap, h1, h2, h4, h5⟩
end Go.Proofs.YtpopcnebndgblaaGreat
namespace Go.Proofs.YtpopcnebndgblaaGreat
open Go.RowKit W
set_option linter.unusedVariables false
end Go.Proofs.YtpopcnebndgblaaGreat
namespace Go.Proofs.YtpopcnebndgblaaGreat
open Go.RowKit W
set_option linter.unusedVariables false
/-- Bit by bit: K holds at n; not at n and D. -/
def SI (K : Int → Prop) (n bit : Int) : Prop :=
  0 ≤ n ∧ n ≤ 1048576 ∧ K n ∧ ∃ D, (1048576 < n + D ∨ ¬ K (n + D)) ∧ ((bit = 0 ∧ D = 1) ∨ ∃ e : Nat, e ≤ 20 ∧ bit = 2 ^ e ∧ D = 2 * 2 ^ e)
theorem SI.start {K : Int → Prop} (h : K 0) : SI K 0 1048576 := ⟨by omega, by omega, h, 2097152, .inl (by omega), .inr ⟨20, by omega, by decide, by decide⟩⟩
theorem SI.half {bit D : Int} (h : (bit = 0 ∧ D = 1) ∨ ∃ e : Nat, e ≤ 20 ∧ bit = 2 ^ e ∧ D = 2 * 2 ^ e) (hb : 0 < bit) : D = bit + bit ∧ ((bit / 2 = 0 ∧ bit = 1) ∨ ∃ e : Nat, e ≤ 20 ∧ bit / 2 = 2 ^ e ∧ bit = 2 * 2 ^ e) := by
  rcases h with ⟨h, _⟩ | ⟨e, he, rfl, rfl⟩
  · omega
  · refine ⟨by omega, ?_⟩
    cases e with
    | zero => exact .inl ⟨by decide, by decide⟩
    | succ e =>
      refine .inr ⟨e, by omega, ?_, ?_⟩
      · rw [Int.pow_succ]; omega
      · rw [Int.pow_succ]; omega
theorem SI.skip {K : Int → Prop} {n bit : Int} (h : SI K n bit) (hb : 0 < bit) (hn : 1048576 < n + bit ∨ ¬ K (n + bit)) : SI K n (bit / 2) := by
  obtain ⟨h1, h2, h3, D, h4, h5⟩ := h
  obtain ⟨e, h6⟩ := SI.half h5 hb
  exact ⟨h1, h2, h3, bit, hn, h6⟩
theorem SI.take {K : Int → Prop} {n bit : Int} (h : SI K n bit) (hb : 0 < bit) (hn : n + bit ≤ 1048576) (hk : K (n + bit)) : SI K (n + bit) (bit / 2) := by
  obtain ⟨h1, h2, h3, D, h4, h5⟩ := h
  obtain ⟨e, h6⟩ := SI.half h5 hb
  subst e
  exact ⟨by omega, hn, hk, bit, by rw [← Int.add_assoc] at h4; exact h4, h6⟩
theorem SI.done {K : Int → Prop} {n : Int} (h : SI K n 0) : 0 ≤ n ∧ n ≤ 1048576 ∧ K n ∧ (n = 1048576 ∨ ¬ K (n + 1)) := by
  obtain ⟨h1, h2, h3, D, h4, h5⟩ := h
  have e : D = 1 := by
    rcases h5 with ⟨_, h⟩ | ⟨e, _, h, _⟩
    · exact h
    · have : (0 : Int) < 2 ^ e := Int.pow_pos (by decide)
      omega
  subst e
  exact ⟨h1, h2, h3, by rcases h4 with h | h
                        · left; omega
                        · exact .inr h⟩
theorem SI.bit {K : Int → Prop} {n bit : Int} (h : SI K n bit) : 0 ≤ bit ∧ bit ≤ 1048576 := by
  obtain ⟨h1, h2, h3, D, h4, h5⟩ := h
  rcases h5 with ⟨h, _⟩ | ⟨e, he, h, _⟩
  · omega
  · have h0 : (0 : Int) < 2 ^ e := Int.pow_pos (by decide)
    have h1 : (2 : Int) ^ e ≤ 2 ^ 20 := by
      have : (2 : Nat) ^ e ≤ 2 ^ 20 := Nat.pow_le_pow_right (by decide) he
      exact_mod_cast this
    have h2 : (2 : Int) ^ 20 = 1048576 := by decide
    omega
/-- Curves, cell by cell. -/
def cvC : List Cv → List Value
  | [] => []
  | c :: l => eU c.f :: eU c.l :: eU c.r :: cvC l
theorem cvC_length (xs : List Cv) : (cvC xs).length = xs.length * 3 := by
  induction xs with
  | nil => rfl
  | cons c l ih => simp [cvC, ih]; omega
theorem cvC_append (a b : List Cv) : cvC (a ++ b) = cvC a ++ cvC b := by
  induction a with
  | nil => rfl
  | cons c l ih => simp [cvC, ih]
theorem cvC_get (xs : List Cv) (i : Nat) (h : i < xs.length) : (cvC xs)[i * 3]? = some (eU xs[i].f) ∧ (cvC xs)[i * 3 + 1]? = some (eU xs[i].l) ∧ (cvC xs)[i * 3 + 2]? = some (eU xs[i].r) := by
  induction xs generalizing i with
  | nil => simp at h
  | cons c l ih =>
    cases i with
    | zero => simp [cvC]
    | succ i =>
      have hi : i < l.length := by simpa using h
      have e0 : (i + 1) * 3 = i * 3 + 1 + 1 + 1 := by omega
      have e2 : i * 3 + 1 + 1 + 1 + 2 = i * 3 + 2 + 1 + 1 + 1 := by omega
      rw [e0, e2]
      simpa [cvC] using ih i hi
theorem cvC_cells {w : World} {b o : Nat} {xs : List Cv} (h : CvRow w b o xs) (j : Nat) (u : Value) (hj : (cvC xs)[j]? = some u) : w.cell? ((⟨b, o, none⟩ : Addr).add j) = some u := by
  have hlt : j < xs.length * 3 := by
    rw [← cvC_length]
    rcases Nat.lt_or_ge j (cvC xs).length with g | g
    · exact g
    · rw [List.getElem?_eq_none g] at hj; cases hj
  have hadd : (⟨b, o, none⟩ : Addr).add j = ⟨b, o + j, none⟩ := by unfold Addr.add; split <;> simp_all
  rw [hadd]
  have hi : j / 3 < xs.length := by omega
  obtain ⟨g0, g1, g2⟩ := cvC_get xs (j / 3) hi
  obtain ⟨k0, k1, k2⟩ := h.2 (j / 3) hi
  rcases (show j % 3 = 0 ∨ j % 3 = 1 ∨ j % 3 = 2 by omega) with r | r | r
  · have e : j / 3 * 3 = j := by omega
    rw [e] at g0 k0
    rw [hj] at g0; cases g0; exact k0
  · have e : j / 3 * 3 + 1 = j := by omega
    rw [e] at g1; rw [Nat.add_assoc, e] at k1
    rw [hj] at g1; cases g1; exact k1
  · have e : j / 3 * 3 + 2 = j := by omega
    rw [e] at g2; rw [Nat.add_assoc, e] at k2
    rw [hj] at g2; cases g2; exact k2
theorem cvC_one (xs : List Cv) : ∀ u ∈ cvC xs, u.oneCell' = true := by
  induction xs with
  | nil => simp [cvC]
  | cons c l ih =>
    intro u hu
    simp only [cvC, List.mem_cons] at hu
    rcases hu with rfl | rfl | rfl | hu
    · rfl
    · rfl
    · rfl
    · exact ih u hu
/-- A row of curves that a call made. -/
theorem cvC_row {w : World} {base g n cap : Nat} {xs : List Cv} (h : w.ownsRow base 32 3 (.slice (some ⟨g, 0, none⟩) n cap) n (cvC xs)) : CvRow w g 0 xs := by
  have hg : g < w.heap.size := by
    rcases h.2 with ⟨e, _⟩ | ⟨g', cap', cur, e, hb, hg, _⟩
    · cases e
    · cases e; exact (Array.getElem?_eq_some_iff.1 hg).1
  refine ⟨hg, fun i hi => ?_⟩
  obtain ⟨g0, g1, g2⟩ := cvC_get xs i hi
  have hadd : ∀ j, (⟨g, 0, none⟩ : Addr).add j = ⟨g, 0 + j, none⟩ := fun j => by unfold Addr.add; split <;> simp_all
  have c0 := h.cells (g := g) rfl _ _ g0
  have c1 := h.cells (g := g) rfl _ _ g1
  have c2 := h.cells (g := g) rfl _ _ g2
  rw [hadd] at c0 c1 c2
  exact ⟨c0, c1, c2⟩
theorem infoC : (Tryz.prog.info? 32).map (fun i => (i.zero, i.size, i.bytes)) = some (some (.agg #[.int .u64 0, .int .u64 0, .int .u64 0]), 3, 24) := by kernel_rfl
theorem three_one (x : Int) : ∀ u ∈ [eU 0, eU 0, eU x], u.oneCell' = true := by
  intro u hu
  simp only [List.mem_cons, List.not_mem_nil, or_false] at hu
  rcases hu with rfl | rfl | rfl <;> rfl
theorem three_new (w : World) (x : Int) : ∀ j u, [eU 0, eU 0, eU x][j]? = some u → (w.alloc (.cells #[eU 0, eU 0, eU x] 32)).cell? ((⟨w.heap.size, 0, none⟩ : Addr).add j) = some u := by
  intro j u hj
  match j, hj with
  | 0, hj => simp at hj; subst hj; simp [Addr.add]
  | 1, hj => simp at hj; subst hj; simp [Addr.add]
  | 2, hj => simp at hj; subst hj; simp [Addr.add]
theorem row_line (xs : List Cv) (x : Int) {w : World} {base : Nat} {v : Value} (h : w.ownsRow base 32 3 v (0 + xs.length + 1) ([] ++ cvC xs ++ [eU 0, eU 0, eU x])) :
    ∃ g cap, v = .slice (some ⟨g, 0, none⟩) (xs.length + 1) cap ∧ IsCvs w (some ⟨g, 0, none⟩) (xs.length + 1) cap (xs ++ [⟨0, 0, x⟩]) := by
  rw [Nat.zero_add] at h
  rcases h.2 with ⟨e, h2⟩ | ⟨g, cap, cur, e, h2, h3, h4, h5, _⟩
  · omega
  · subst e
    refine ⟨g, cap, rfl, by simp, h4, .inr ⟨g, 0, rfl, ?_⟩⟩
    refine cvC_row (n := xs.length + 1) (cap := cap) (base := base) ?_
    rw [cvC_append]
    exact h
theorem line_words {xs : List Cv} {x : Int} (h : ∀ c ∈ xs, c.word) (hx : Word x) : ∀ c ∈ xs ++ [⟨0, 0, x⟩], c.word := by
  intro c hc
  rcases List.mem_append.1 hc with q | q
  · exact h c q
  · rw [List.mem_singleton.1 q]; exact ⟨⟨Int.le_refl 0, by show (0 : Int) < _; omega⟩, ⟨Int.le_refl 0, by show (0 : Int) < _; omega⟩, hx⟩
theorem row_line_nil (xs : List Cv) (ex : xs = []) (x : Int) {w : World} {base : Nat} {v : Value} (h : w.ownsRow base 32 3 v (0 + 1) ([] ++ [eU 0, eU 0, eU x])) :
    ∃ g cap, v = .slice (some ⟨g, 0, none⟩) 1 cap ∧ IsCvs w (some ⟨g, 0, none⟩) 1 cap (xs ++ [⟨0, 0, x⟩]) := by
  subst ex
  exact row_line [] x h
end Go.Proofs.YtpopcnebndgblaaGreat
namespace Go.Proofs.YtpopcnebndgblaaGreat
open Go.ChangeShapes Go.WideShapes Go.Deep Go.RowKit W
set_option linter.unusedVariables false
section
variable {H : Type} {enc : TypeId × Value → H} {P : Program} {w : World} {base : Nat} {spare : Nat → Bool} {held : Bool}
/-- One element: three cells that are words. -/
theorem open_cv {e : TypeId} {f0 f1 f2 : Field} {n : Nat} {a : Addr} {cs : List Value} {x : DataW H × List MemPlace} (he : P.underlying e = some (.struct #[f0, f1, f2])) (u0 : P.underlying f0.type = some (.int .u64)) (u1 : P.underlying f1.type = some (.int .u64)) (u2 : P.underlying f2.type = some (.int .u64))
    (o0 : f0.offset = 0 ∧ P.cellsOf f0.type = 1) (o1 : f1.offset = 1 ∧ P.cellsOf f1.type = 1) (o2 : f2.offset = 2 ∧ P.cellsOf f2.type = 1)
    (hc : w.cells? base a 3 = some cs) (h : DataW.trod enc P w base spare held n e cs = some x) :
    ∃ v : Cv, v.word ∧ w.cell? (a.add 0) = some (.int .u64 v.f) ∧ w.cell? (a.add 1) = some (.int .u64 v.l) ∧ w.cell? (a.add 2) = some (.int .u64 v.r) := by
  obtain ⟨_, hl, hat⟩ := World.cells?_some hc
  obtain ⟨ys, m, _, _, _, hys, hf⟩ := DataW.trod_struct he h
  match cs, hl with
  | [c0, c1, c2], _ =>
    match ys, hys with
    | [y0, y1, y2], _ =>
      have g0 := hf 0 f0 rfl
      have g1 := hf 1 f1 rfl
      have g2 := hf 2 f2 rfl
      rw [o0.1, o0.2] at g0
      rw [o1.1, o1.2] at g1
      rw [o2.1, o2.2] at g2
      obtain ⟨n0, e0, _, w0⟩ := DataW.trod_int u0 (x := y0) (by simpa using g0)
      obtain ⟨n1, e1, _, w1⟩ := DataW.trod_int u1 (x := y1) (by simpa using g1)
      obtain ⟨n2, e2, _, w2⟩ := DataW.trod_int u2 (x := y2) (by simpa using g2)
      simp at e0 e1 e2
      subst e0 e1 e2
      exact ⟨⟨n0, n1, n2⟩, ⟨word_of w0, word_of w1, word_of w2⟩, hat 0 (by omega), hat 1 (by omega), hat 2 (by omega)⟩
/-- The slice: curves, all of words. -/
theorem open_cvs {t e : TypeId} {f0 f1 f2 : Field} {fuel : Nat} {cs : List Value} {x : DataW H × List MemPlace} (ht : P.underlying t = some (.slice e)) (he : P.underlying e = some (.struct #[f0, f1, f2])) (u0 : P.underlying f0.type = some (.int .u64)) (u1 : P.underlying f1.type = some (.int .u64)) (u2 : P.underlying f2.type = some (.int .u64))
    (hone : oneCellFields P #[f0, f1, f2] = true) (hC : P.cellsOf e = 3) (h : DataW.trod enc P w base spare held fuel t cs = some x) :
    ∃ (a : Option Addr) (n c : Nat) (xs : List Cv), cs = [.slice a n c] ∧ IsCvs w a n c xs ∧ (∀ v ∈ xs, v.word) ∧ c ≤ maxLen ∧ (a = none → n = 0 ∧ c = 0) := by
  rcases open_slice ht h with ⟨h0, _⟩ | ⟨a, len, cap, m, n, D, Pl, hcs, hb, hl, hm, hmm, hx, hi⟩
  · exact ⟨none, 0, 0, [], h0, ⟨rfl, Nat.le_refl _, .inl rfl⟩, by simp, by decide, fun _ => ⟨rfl, rfl⟩⟩
  · have hlm : len ≤ m := by rw [hmm]; split <;> omega
    have key : ∀ i, i < len → ∃ v : Cv, v.word ∧ w.cell? (a.add (i * 3)) = some (.int .u64 v.f) ∧ w.cell? (a.add (i * 3 + 1)) = some (.int .u64 v.l) ∧ w.cell? (a.add (i * 3 + 2)) = some (.int .u64 v.r) := by
      intro i hil
      obtain ⟨cs', hc, ht'⟩ := hi i (by omega)
      rw [hC] at hc
      obtain ⟨v, hv, g0, g1, g2⟩ := open_cv he u0 u1 u2 (hone_of hone 0 f0 rfl) (hone_of hone 1 f1 rfl) (hone_of hone 2 f2 rfl) hc ht'
      rw [add_add] at g0 g1 g2
      exact ⟨v, hv, g0, g1, g2⟩
    obtain ⟨F, hF⟩ : ∃ F : Nat → Cv, ∀ i, i < len → (F i).word ∧ w.cell? (a.add (i * 3)) = some (.int .u64 (F i).f) ∧ w.cell? (a.add (i * 3 + 1)) = some (.int .u64 (F i).l) ∧ w.cell? (a.add (i * 3 + 2)) = some (.int .u64 (F i).r) := by
      refine ⟨fun i => if q : i < len then Classical.choose (key i q) else ⟨0, 0, 0⟩, fun i hil => ?_⟩
      simp only [hil, dif_pos]
      exact Classical.choose_spec (key i hil)
    refine ⟨some a, len, cap, (List.range len).map F, hcs, ⟨by simp, hl, ?_⟩, ?_, hm, fun q => by cases q⟩
    · by_cases hz : len = 0
      · exact .inl hz
      · have c0 := (hF 0 (by omega)).2.1
        obtain ⟨b, off, spot⟩ := a
        have hspot : spot = none := by simpa [Addr.add] using World.cell?_spot c0
        subst hspot
        have hadd : ∀ j, (⟨b, off, none⟩ : Addr).add j = ⟨b, off + j, none⟩ := fun j => by unfold Addr.add; split <;> simp_all
        rw [hadd] at c0
        refine .inr ⟨b, off, rfl, World.block_lt_of_cell? w _ c0, fun i hil => ?_⟩
        have hil' : i < len := by simpa using hil
        obtain ⟨_, g0, g1, g2⟩ := hF i hil'
        rw [hadd] at g0 g1 g2
        simp only [List.getElem_map, List.getElem_range]
        exact ⟨g0, g1, g2⟩
    · intro v hv
      obtain ⟨i, hil, rfl⟩ := List.mem_map.1 hv
      exact (hF i (List.mem_range.1 hil)).1
end
end Go.Proofs.YtpopcnebndgblaaGreat
