/- Iterators, collected keys, corners of sums. No condition but how much there is. -/
import Derived.Test.YtjbpaapglamilaaGE
import Derived.Test.YtjbpaapglamilaaGJ
import Derived.Maps.OwnIn
import Derived.Maps.AppendAt
import Derived.Sort.MapsRangeIn
import Derived.Sort.KeysCollected
import Derived.Sort.Grow
import Derived.Test.YtjbpaapglamilaaGK
import Derived.Deep.AppendLies
namespace Go.Proofs.Ytjbpaapglamilaa
open Go.RowKit Go.Shelf W
set_option linter.unusedVariables false
/-- A relation that abides every turn of a block at or behind B. -/
def AbidesAll {β : Type} (B : Nat) (J : β → World → Prop) : Prop :=
  ∀ s W W' row, J s W → W.grownBy W' row → (∀ r, row = some r → B ≤ r) → J s W'
/-- Nothing that lay below n₀ has turned, nor anything that lay at or behind B. -/
def Mid (n₀ B : Nat) (W W' : World) : Prop := Below n₀ W W' ∧ ∀ k, B ≤ k → k < W.heap.size → W'.heap[k]? = W.heap[k]?
theorem Mid.refl (n₀ B : Nat) (W : World) : Mid n₀ B W W := ⟨Below.refl _ _, fun _ _ _ => rfl⟩
theorem Mid.size {n₀ B : Nat} {X Y : World} (h : Mid n₀ B X Y) : X.heap.size ≤ Y.heap.size := h.1.size
theorem Mid.trans {n₀ B : Nat} {X Y Z : World} (h : Mid n₀ B X Y) (k : Mid n₀ B Y Z) : Mid n₀ B X Z :=
  ⟨h.1.trans k.1, fun i h1 h2 => (k.2 i h1 (Nat.lt_of_lt_of_le h2 h.size)).trans (h.2 i h1 h2)⟩
theorem Mid.later {n₀ B B' : Nat} {X Y : World} (h : Mid n₀ B X Y) (hB : B ≤ B') : Mid n₀ B' X Y := ⟨h.1, fun k h1 h2 => h.2 k (Nat.le_trans hB h1) h2⟩
theorem Mid.of_below {n₀ B : Nat} {X Y : World} (h : Below X.heap.size X Y) (hn : n₀ ≤ X.heap.size) : Mid n₀ B X Y := ⟨h.mono hn, fun k _ h2 => h.block k h2⟩
theorem Mid.alloc {n₀ B : Nat} (X : World) (hn : n₀ ≤ X.heap.size) (o : Obj) : Mid n₀ B X (X.alloc o) := Mid.of_below ((Below.refl _ X).alloc (Nat.le_refl _) o) hn
theorem Mid.put {n₀ B : Nat} (X : World) {b : Nat} (hn : n₀ ≤ b) (hb : b < B) (i : Nat) (v : Value) : Mid n₀ B X (X.setCell ⟨b, i, none⟩ v) :=
  ⟨(Below.refl _ X).setCell (p := ⟨b, i, none⟩) hn v, fun k h1 h2 => Below.heap_setCell _ _ _ k (by show k ≠ b; omega)⟩
/-- What has grown at a block between both is such a step. -/
theorem Mid.grown {n₀ B b : Nat} {X Y : World} (h : X.grownBy Y (some b)) (hn : n₀ ≤ b) (hX : n₀ ≤ X.heap.size) (hb : b < B) : Mid n₀ B X Y :=
  ⟨(Below.refl _ X).grown h hX (fun k e => by cases e; exact hn), fun k h1 h2 => h.block k h2 (fun e => by cases e; omega)⟩
theorem Mid.grown0 {n₀ B : Nat} {X Y : World} (h : X.grownBy Y none) (hX : n₀ ≤ X.heap.size) : Mid n₀ B X Y :=
  ⟨(Below.refl _ X).grown h hX (fun k e => by cases e), fun k h1 h2 => h.block k h2 (fun e => by cases e)⟩
theorem AbidesAll.alloc {β : Type} {B : Nat} {I : β → World → Prop} (h : AbidesAll B I) {s : β} {W : World} (o : Obj) (hs : I s W) : I s (W.alloc o) :=
  h s W _ none hs (World.grownBy_alloc W o none) (fun r e => by cases e)
theorem AbidesAll.put {β : Type} {B : Nat} {I : β → World → Prop} (h : AbidesAll B I) {s : β} {W : World} {l : Nat} (o : Obj) (hs : I s W) (hl : B ≤ l) : I s (W.putObj l o) :=
  h s W _ (some l) hs (grownBy_putObj' W l o) (fun r e => by cases e; exact hl)
theorem AbidesAll.and {β : Type} {B : Nat} {I J : β → World → Prop} (h : AbidesAll B I) (k : AbidesAll B J) : AbidesAll B (fun s W => I s W ∧ J s W) :=
  fun s W W' row hs hg hr => ⟨h s W W' row hs.1 hg hr, k s W W' row hs.2 hg hr⟩
theorem AbidesAll.below {β : Type} {B n₀ : Nat} {w : World} (hn : n₀ ≤ B) (hw : n₀ ≤ w.heap.size) : AbidesAll B (fun (_ : β) W => Below n₀ w W) :=
  fun _ W W' row hs hg hr => hs.grown hg (Nat.le_trans hw hs.size) (fun k e => Nat.le_trans hn (hr k e))
theorem AbidesAll.pure {β : Type} {B : Nat} (p : β → Prop) : AbidesAll B (fun s _ => p s) := fun _ _ _ _ hs _ _ => hs
theorem AbidesAll.size {β : Type} {B m : Nat} : AbidesAll B (fun (_ : β) W => m ≤ W.heap.size) := fun _ _ _ _ hs hg _ => Nat.le_trans hs hg.size
theorem AbidesAll.boxed {β : Type} {B b : Nat} (hb : b < B) (t : TypeId) (f : β → Value) : AbidesAll B (fun s W => Boxed W b t (f s)) :=
  fun s X Y row hs hg hr => hs.kept hg (fun e => by have := hr b e.symm; omega)
/-- A loop that an iterator drives which keeps state of its own in cells. -/
def SeqC {α : Type} (n : Nat) (g : Nat) (lb : Array Value) (encs : α → Array Value) (n₀ : Nat) (S Sp : List α → Prop) (Nx : List α → α → Prop) (w : World) : Prop :=
  ∀ (l : Nat) (J Jx : List α → World → Prop) (W : World), Below w.heap.size w W → AbidesAll W.heap.size J → AbidesAll W.heap.size Jx →
    (∀ pre x W1, W.heap.size ≤ W1.heap.size → J pre W1 → Nx pre x → YieldAt Fence.wide (n - 1) Try.prog l (encs x) W1 fun e W' =>
      (e = .returned (.bool true) ∧ J (pre ++ [x]) W' ∧ Mid n₀ W.heap.size W1 W') ∨ (e = .returned (.bool false) ∧ Jx (pre ++ [x]) W')) →
    J [] W →
    CallsIn Fence.wide n Try.prog g (#[.func (.yield l) #[] #[]] ++ lb) W fun e W' => (∃ v, e = .returned v) ∧ ((∃ xs, S xs ∧ J xs W') ∨ (∃ pre, Sp pre ∧ Jx pre W'))
/-- What a round's body owes at each way out. -/
def postC {α : Type} (n₀ B : Nat) (I : List α → World → Prop) (Ix : Code → List α → World → Prop) (xs : List α) (W : World) : Exit → Act → World → Prop
  | .normal, _, W' => Mid n₀ B W W' ∧ I xs W'
  | .ret, _, W' => Mid n₀ B W W' ∧ Ix .ret xs W'
  | .exit id, _, W' => Mid n₀ B W W' ∧ Ix (.exit id) xs W'
  | .goto t, _, W' => Mid n₀ B W W' ∧ Ix (.goto t) xs W'
  | .panic _, _, _ => False
  | .outgrown, _, _ => False
set_option maxHeartbeats 1000000 in
theorem loopC {α : Type} {n : Nat} {g : Operand} {ps : Array Tmp} {assign body : Code} {Q : Exit → Act → World → Prop} {a : Act} {w : World}
    (h1 : 1 ≤ n) {gf : Nat} {lb : Array Value} (hg : a.eval g = .func (.func gf) #[] lb) (eg : ∀ args w, (callFunc gf args).run Try.prog w = .ok (.enter gf args) w)
    {encs : α → Array Value} {n₀ : Nat} {S Sp : List α → Prop} {Nx : List α → α → Prop} (hn₀ : n₀ ≤ w.heap.size) (hseq : SeqC (n - 1) gf lb encs n₀ S Sp Nx w) (hps : ∀ x, (encs x).size = ps.size)
    (I : List α → World → Prop) (Ix : Code → List α → World → Prop) (hI : AbidesAll w.heap.size I) (hIx : ∀ c, AbidesAll w.heap.size (Ix c)) (h0 : I [] w)
    (Ax : α → Act → World → Prop) (hAx : ∀ x a', OwnFrom w.heap.size (fun (_ : Unit) W => Ax x a' W))
    (hassign : ∀ (l : Nat) (pre : List α) (x : α) (W : World) (K : Act → World → Prop), w.heap.size ≤ W.heap.size → I pre W → (∀ a' W', Mid n₀ w.heap.size W W' → I pre W' → Ax x a' W' → K a' W') →
      assign.wpIn (Fence.wide.inRound l) (n - 1 - 1) Try.prog (Exit.then K (fun _ _ _ => False)) { tmps := (ps.zip (encs x)).foldl (fun t (p, v) => t.setIfInBounds p v) a.tmps, defers := [] } W)
    (hbody : ∀ (l : Nat) (pre : List α) (x : α) (a' : Act) (W : World), w.heap.size ≤ W.heap.size → I pre W → Ax x a' W → Nx pre x → body.wpIn (Fence.wide.inRound l) (n - 1 - 1) Try.prog (postC n₀ w.heap.size I Ix (pre ++ [x]) W) a' W)
    (hdone : ∀ (D : Nat) (xs : List α) (W : World), w.heap.size ≤ D → S xs → I xs W → W.heap[D]? = some (.deferred (some [])) → Q .normal { a with defers := { target := .collected D, args := #[] } :: a.defers } W)
    (hstop : ∀ (D : Nat) (c : Code) (pre : List α) (W : World), w.heap.size ≤ D → Sp pre → Ix c pre W → W.heap[D]? = some (.deferred (some [])) → c.wpIn Fence.wide n Try.prog Q { a with defers := { target := .collected D, args := #[] } :: a.defers } W) :
    (Code.rangeFunc g ps assign body).wpIn Fence.wide n Try.prog Q a w := by
  refine wpIn_rangeFunc ?_
  intro fn hfn
  rw [show Fence.wide.round = none from rfl]
  obtain ⟨rec, hrec⟩ : ∃ rec : LoopState → Option Code → Loop, rec = fun st pe => { state := st, pending := pe, fn, tmps := a.tmps, params := ps, assign, body, defers := w.heap.size } := ⟨_, rfl⟩
  obtain ⟨B, hB⟩ : ∃ B, w.heap.size = B := ⟨_, rfl⟩
  obtain ⟨W1, hW1⟩ : ∃ W1, (w.alloc (.deferred (some []))).alloc (.loop (rec .ready none)) = W1 := ⟨_, rfl⟩
  have hs1 : W1.heap.size = B + 2 := by rw [← hW1, ← hB]; simp
  have hL1 : W1.heap[B + 1]? = some (.loop (rec .ready none)) := by
    rw [← hW1, ← hB]; have := World.alloc_heap_new (w.alloc (.deferred (some []))) (.loop (rec .ready none)); rwa [World.size_alloc] at this
  have hK1 : W1.heap[B]? = some (.deferred (some [])) := by
    rw [← hW1, ← hB]; exact (Below.heap_alloc _ _ _ (by simp)).trans (World.alloc_heap_new w _)
  have hb1 : Below w.heap.size w W1 := by
    rw [← hW1]; exact ((Below.refl _ w).alloc (Nat.le_refl _) _).alloc (by simp) _
  have hI1 : I [] W1 := by rw [← hW1]; exact hI.alloc _ (hI.alloc _ h0)
  have hent : (Instr.enterLoop fn a.tmps ps assign body none).run Try.prog w = (Instr.enterLoop fn a.tmps ps assign body none).run Try.prog w := rfl
  clear hent
  refine ⟨w.heap.size + 1, [{ target := .collected w.heap.size, args := #[] }], W1, { target := .fn (.func gf) lb, args := #[.func (.yield (w.heap.size + 1)) #[] #[]] }, W1, gf,
    #[.func (.yield (w.heap.size + 1)) #[] #[]] ++ lb, W1, ?_, ?_, ?_, ?_, fun _ => h1, ?_⟩
  · rw [← hW1, hrec]; exact run_enterLoop_outer _ _ _ _ _
  · simp only [resolve, hg]
    simp [go_sem]
  · intro f' hf'; simp [Target.leads] at hf'; subst hf'; trivial
  · simp [invoke, go_sem, eg]
  · rw [hB] at hI hIx hAx hassign hbody hdone hstop hn₀ ⊢
    have book : ∀ {X Y : World} {row : Option Nat} {k : Nat} {o : Obj}, X.grownBy Y row → (∀ r, row = some r → W1.heap.size ≤ r) → k < B + 2 → X.heap[k]? = some o → Y.heap[k]? = some o := fun {X Y row k o} hg' hr hk ho =>
      (hg'.block k (Array.getElem?_eq_some_iff.1 ho).1 (fun e => by have := hr k e.symm; omega)).trans ho
    have le1 : ∀ {row : Option Nat}, (∀ r, row = some r → W1.heap.size ≤ r) → ∀ r, row = some r → B ≤ r := fun h r e => by have := h r e; omega
    refine (hseq (B + 1)
      (fun pre W => I pre W ∧ W.heap[B + 1]? = some (.loop (rec .ready none)) ∧ W.heap[B]? = some (.deferred (some [])))
      (fun pre W => ∃ c, Ix c pre W ∧ W.heap[B + 1]? = some (.loop (rec .done (some c))) ∧ W.heap[B]? = some (.deferred (some [])))
      W1 hb1
      (fun s X Y row hs hg' hr => ⟨hI s X Y row hs.1 hg' (le1 hr), book hg' hr (by omega) hs.2.1, book hg' hr (by omega) hs.2.2⟩)
      (fun s X Y row hs hg' hr => by
        obtain ⟨c, hc, hl, hk⟩ := hs
        exact ⟨c, hIx c s X Y row hc hg' (le1 hr), book hg' hr (by omega) hl, book hg' hr (by omega) hk⟩)
      ?_ ⟨hI1, hL1, hK1⟩).mono ?_
    · rintro pre x W hsW ⟨hi, hl, hk⟩ hlen
      have hy := run_yield (P := Try.prog) (args := encs x) hl (by rw [hrec]; exact hps x)
      rw [hrec] at hy
      refine ⟨fn, _, assign, body, hy, roundIn_of_wpIn hfn (hassign _ pre x W _ (by omega) hi ?_)⟩
      clear hy
      intro a' Wa hma hia hax
      have hla : Wa.heap[B + 1]? = some (.loop (rec .ready none)) := (hma.2 _ (by omega) (by omega)).trans hl
      have hka : Wa.heap[B]? = some (.deferred (some [])) := (hma.2 _ (by omega) (by omega)).trans hk
      have hza := hma.size
      refine ⟨_, run_beginRound hla (by rw [hrec]), ?_⟩
      obtain ⟨Wb, hWb⟩ : ∃ Wb, Wa.putObj (B + 1) (.loop { rec .ready none with state := .busy }) = Wb := ⟨_, rfl⟩
      have hgb : Wa.grownBy Wb (some (B + 1)) := by rw [← hWb]; exact grownBy_putObj' _ _ _
      have hlb : Wb.heap[B + 1]? = some (.loop { rec .ready none with state := .busy }) := by rw [← hWb]; exact World.putObj_heap_same (by omega)
      have hkb : Wb.heap[B]? = some (.deferred (some [])) := (hgb.block B (by omega) (fun e => by cases e)).trans hka
      have hib : I pre Wb := hI _ _ _ _ hia hgb (fun r e => by cases e; omega)
      have haxb : Ax x a' Wb := hAx x a' () _ _ _ hax hgb (fun r e => by cases e; exact ⟨by omega, _, hla, rfl⟩)
      have hzb := hgb.size
      rw [hWb]
      clear hWb
      have hmb : Mid n₀ W1.heap.size Wa Wb := Mid.grown hgb (by omega) (by omega) (by omega)
      refine wpIn_mono (hbody _ pre x a' Wb (by omega) hib haxb hlen) ?_
      have fin : ∀ (jump : Option Code) (W3 : World), Mid n₀ B Wb W3 →
          (Instr.endRound (B + 1) jump).run Try.prog W3 = .ok (.bool jump.isNone) (W3.putObj (B + 1) (.loop (rec (if jump.isNone then .ready else .done) jump))) ∧
          (W3.putObj (B + 1) (.loop (rec (if jump.isNone then .ready else .done) jump))).heap[B + 1]? = some (.loop (rec (if jump.isNone then .ready else .done) jump)) ∧
          (W3.putObj (B + 1) (.loop (rec (if jump.isNone then .ready else .done) jump))).heap[B]? = some (.deferred (some [])) ∧
          Mid n₀ W1.heap.size W3 (W3.putObj (B + 1) (.loop (rec (if jump.isNone then .ready else .done) jump))) := fun jump W3 hm3 => by
        have hz3 := hm3.size
        have hl3 := (hm3.2 _ (by omega) (by omega)).trans hlb
        have hk3 := (hm3.2 _ (Nat.le_refl _) (by omega)).trans hkb
        have := run_endRound (P := Try.prog) jump hl3
        rw [hrec] at this ⊢
        exact ⟨this, World.putObj_heap_same (by omega), (World.putObj_heap_other (by omega)).trans hk3, Mid.grown (grownBy_putObj' _ _ _) (by omega) (by omega) (by omega)⟩
      rintro e a3 W3 hp
      cases e with
      | normal =>
        obtain ⟨hm3, hi3⟩ := hp
        obtain ⟨hr, hl4, hk4, hm4⟩ := fin none W3 hm3
        exact ⟨_, _, hr, .inl ⟨rfl, ⟨hI.put _ hi3 (by omega), hl4, hk4⟩, (((hma.later (by omega)).trans hmb).trans (hm3.later (by omega))).trans hm4⟩⟩
      | ret =>
        obtain ⟨hm3, hi3⟩ := hp
        obtain ⟨hr, hl4, hk4, _⟩ := fin (some .ret) W3 hm3
        exact ⟨_, _, hr, .inr ⟨rfl, .ret, (hIx _).put _ hi3 (by omega), hl4, hk4⟩⟩
      | exit id =>
        obtain ⟨hm3, hi3⟩ := hp
        obtain ⟨hr, hl4, hk4, _⟩ := fin (some (.exit id)) W3 hm3
        exact ⟨_, _, hr, .inr ⟨rfl, .exit id, (hIx _).put _ hi3 (by omega), hl4, hk4⟩⟩
      | goto t =>
        obtain ⟨hm3, hi3⟩ := hp
        obtain ⟨hr, hl4, hk4, _⟩ := fin (some (.goto t)) W3 hm3
        exact ⟨_, _, hr, .inr ⟨rfl, .goto t, (hIx _).put _ hi3 (by omega), hl4, hk4⟩⟩
      | panic ch => exact hp.elim
      | outgrown => exact hp.elim
    · rintro e W2 ⟨⟨v, rfl⟩, (⟨xs, hS, hi, hl, hk⟩ | ⟨pre, hSp, c, hi, hl, hk⟩)⟩
      · exact ⟨none, _, by have := run_endLoop (P := Try.prog) hl (by rw [hrec]; simp); rw [hrec] at this; exact this, hdone _ xs _ (Nat.le_refl _) hS (hI.put _ hi (by omega)) ((World.putObj_heap_other (by omega)).trans hk)⟩
      · exact ⟨some c, _, by have := run_endLoop (P := Try.prog) hl (by rw [hrec]; simp); rw [hrec] at this; exact this, hstop _ c pre _ (Nat.le_refl _) hSp ((hIx c).put _ hi (by omega)) ((World.putObj_heap_other (by omega)).trans hk)⟩
end Go.Proofs.Ytjbpaapglamilaa

namespace Go.Proofs.Ytjbpaapglamilaa
open Go.RowKit Go.Shelf Go.Maps Go.Sort W
set_option linter.unusedVariables false
attribute [local go_sem] Oper.semAt_some
theorem key_word {P : Program} {k : TypeId} (hk : P.underlying k = some (.int .u64)) {key : Value} {kl : Lit} (h : keyOf P k key = some kl) : ∃ x : Int, key = eU x ∧ kl = .int .u64 x ∧ (Lit.int .u64 x).wf = true := by
  cases key <;> simp [keyOf, hk, mapKey] at h
  rename_i q a
  obtain ⟨⟨rfl, hw⟩, rfl⟩ := h
  exact ⟨a, rfl, rfl, hw⟩
theorem eU_inj {x y : Int} (h : eU x = eU y) : x = y := by simpa [eU] using h
/-- What has come so far: no key twice; just those that the map has and that are no longer to come. -/
def Col (D : DataW Unit) (left : Lit → Bool) (ss : List Int) : Prop := ss.Nodup ∧ ∀ x, x ∈ ss ↔ (has D (.int .u64 x) = true ∧ left (.int .u64 x) = false)
theorem Col.start (D : DataW Unit) : Col D (has D) [] := ⟨List.nodup_nil, fun x => by cases h : has D (.int .u64 x) <;> simp⟩
theorem Col.step {D : DataW Unit} {left : Lit → Bool} {ss : List Int} (h : Col D left ss) {x : Int} {y : DataW Unit} (hl : left (.int .u64 x) = true) (hat : ∀ z, D.atKey (.int .u64 x) z = y) :
    Col D (fun z => left z && !z.sameKey (.int .u64 x)) (ss ++ [x]) := by
  have hh : has D (.int .u64 x) = true := has_true_of_atKey hat
  have hn : x ∉ ss := fun hx => by have := ((h.2 x).1 hx).2; rw [hl] at this; cases this
  refine ⟨List.nodup_append.2 ⟨h.1, by simp, fun a ha b hb => by simp at hb; subst hb; exact fun e => hn (e ▸ ha)⟩, fun y => ?_⟩
  by_cases hy : y = x
  · subst hy; simp [hh, Lit.sameKey]
  · simp [h.2 y, hy, Lit.sameKey]
abbrev Rel := Value → Option (DataW Unit × List MemPlace)
theorem keys_any (mb : Option Nat) (w : World) :
    Calls Try.prog 70 #[.map mb] w fun e w' => e = .returned (.func (.func 91) #[] #[.pointer (some ⟨w.heap.size, 0, none⟩)]) ∧ w' = w.alloc (.cells #[.map mb] 109) := by
  go_enter Try.func70, Try.ntmps70
  go_wp2
  go_ret
  exact ⟨rfl, rfl⟩
set_option maxRecDepth 100000 in
set_option maxHeartbeats 1000000 in
theorem keys_go (n : Nat) (hn : 1 ≤ n) (Bm b nn : Nat) (D : DataW Unit) (R : Rel) (w : World) (hBm : Bm < w.heap.size) (hbw : b < w.heap.size)
    (hm : w.cell? ⟨Bm, 0, none⟩ = some (.map (some b))) (hown : w.ownsMap Try.prog 22 R b nn D) :
    SeqStopsK Fence.wide n Try.prog 91 #[.pointer (some ⟨Bm, 0, none⟩)] (fun x : Int => #[eU x]) KeepsWalks (fun ss => ss.Nodup ∧ (∀ x, x ∈ ss ↔ has D (.int .u64 x) = true)) (fun _ => True) (Maps.size D) w := by
  intro l J Jx W hW hJ hJx hY h0
  have hmW : W.cell? ⟨Bm, 0, none⟩ = some (.map (some b)) := (hW.cell (p := ⟨Bm, 0, none⟩) hBm).trans hm
  have howW : W.ownsMap Try.prog 22 R b nn D := by
    obtain ⟨es, clock, hb, Ft, hs, hD⟩ := hown
    exact ⟨es, clock, (hW.block b hbw).trans hb, Ft, hs, hD⟩
  clear hm hown
  refine callsIn_of_wp Try.func91 rfl trivial ?_ rfl
  simp only [Try.ntmps91, List.size_toArray, List.length_cons, List.length_nil, Nat.reduceAdd, Nat.reduceSub, Array.replicate_succ, Array.replicate_zero, List.push_toArray, List.append_toArray, List.nil_append, List.cons_append]
  gi_wp2_with (first
    | (gi_at_range; refine wpListIn_range_own _ rfl _ 109 rfl 22 112 (int_keyed Try.underlying22) Try.underlying109 R b nn D rfl howW ?_; intro w0 hrg0 hg0 hs0)
    | gi_in)
  gi_loopw [3] (fun _ wr => ∃ (left : Lit → Bool) (cnt : Nat) (ss : List Int), wr.ranges Try.prog 22 R b W.heap.size nn D left cnt ∧ ss.length + cnt ≤ Maps.size D ∧ Col D left ss ∧ J ss wr)
    (fun _ wr => wr.rangeLeft b W.heap.size)
  case atStart =>
    exact ⟨_, _, [], hrg0, by simp, Col.start D, hJ [] W w0 none h0 hg0 (fun r e => by cases e)⟩
  case round =>
    obtain ⟨left, cnt, ss, hrg, hcs, hC, hJs⟩ := hrel
    gi_wp2_with (first
      | (gi_at_next; refine wpListIn_next_ranges _ rfl _ rfl 22 (int_keyed Try.underlying22) R eU id (fun key kl hk => by obtain ⟨x, hx, _⟩ := key_word Try.underlying22 hk; exact ⟨x, hx⟩) (fun v _ _ => ⟨v, rfl⟩) b W.heap.size nn _ _ _ rfl hrg ?_ ?_)
      | gi_in)
    · intro hc0 hl0
      gi_wp2
      go_end0
      exact ⟨⟨_, rfl⟩, .inl ⟨ss, ⟨hC.1, fun x => by rw [hC.2 x, hl0]; simp⟩, hJs⟩⟩
    · intro x c kl yd yp w2 cnt2 hkey hlk hv hat hrg2 hlt hg2 hs2 hen
      obtain ⟨x', ex, rfl, _⟩ := key_word Try.underlying22 hkey
      obtain rfl : x = x' := eU_inj ex
      have hJ2 : J ss w2 := hJ ss wr w2 (some W.heap.size) hJs hg2 (fun r e => by cases e; exact ⟨Nat.le_refl _, hrg.iter_walk⟩)
      obtain ⟨fn, tmps, assign, body, hy, hR⟩ := hY ss x w2 hJ2 (by omega)
      clear hs2
      have hC2 := hC.step hlk hat
      gi_wp2
      refine hR.mono ?_
      rintro e W3 (⟨rfl, hJ3, hk3⟩ | ⟨rfl, hJx3⟩)
      · gi_wp2
        have hrg3 := hrg2.of_walks hk3
        go_roundw
        case rel => exact ⟨_, cnt2, ss ++ [x], hrg3, by simp; omega, hC2, hJ3⟩
        case measure => rw [hrg3.left_eq, hrg.left_eq]; exact hlt
      · gi_wp2
        refine bodyPost_ret (results_none rfl _ _ _) rfl ?_
        exact ⟨⟨_, rfl⟩, .inr ⟨ss ++ [x], trivial, hJx3⟩⟩
end Go.Proofs.Ytjbpaapglamilaa

namespace Go.Proofs.Ytjbpaapglamilaa
open Go.RowKit Go.Shelf Go.Maps Go.Sort W
set_option linter.unusedVariables false
attribute [local go_sem] Oper.semAt_some
abbrev keySeq (n g : Nat) (lb : Array Value) (S Sp : List Int → Prop) (N : Nat) (w : World) : Prop := SeqStopsK Fence.wide n Try.prog g lb (fun x : Int => #[eU x]) KeepsWalks S Sp N w
theorem keySeq.later {n g : Nat} {lb : Array Value} {S Sp : List Int → Prop} {N : Nat} {w w' : World} (h : keySeq n g lb S Sp N w) (hb : Below w.heap.size w w') : keySeq n g lb S Sp N w' :=
  fun l J Jx W hW hJ hJx hY h0 => h l J Jx W (hb.trans (hW.mono hb.size)) hJ hJx hY h0
set_option maxRecDepth 100000 in
set_option maxHeartbeats 2000000 in
theorem appendSeq_go (n g : Nat) (hn : 3 ≤ n) (lb : Array Value) (eg : ∀ args w, (callFunc g args).run Try.prog w = .ok (.enter g args) w) (S Sp : List Int → Prop) (N : Nat) (hN : N ≤ 1000) (w : World) (hseq : keySeq (n - 1) g lb S Sp N w) :
    CallsIn Fence.wide n Try.prog 103 #[.slice none 0 0, .func (.func g) #[] lb] w fun e W' => ∃ v ss, e = .returned v ∧ S ss ∧ W'.ownsRow w.heap.size 22 1 v ss.length (ss.map eU) ∧ (v = .slice none 0 0 ↔ ss = []) ∧ Below w.heap.size w W' := by
  have h1 : 1 ≤ n := by omega
  obtain ⟨i0, hi, hz0, hz1, hz2⟩ := info_parts infoU
  refine callsIn_of_wp_marks Try.func103 rfl trivial ?_ rfl
  simp only [Try.ntmps103, List.size_toArray, List.length_cons, List.length_nil, Nat.reduceAdd, Nat.reduceSub, Array.replicate_succ, Array.replicate_zero, List.push_toArray, List.append_toArray, List.nil_append, List.cons_append]
  gi_wp2
  have bO := Boxed.new w 89 (.slice none 0 0)
  have hB0 : Below w.heap.size w (w.alloc (.cells #[.slice none 0 0] 89)) := (Below.refl _ w).alloc (Nat.le_refl _) _
  refine wpIn_rangeFunc_ownG rfl h1 (gf := g) (lb := lb) rfl trivial eg (hseq.later hB0) walksK_t walksK_b (Below.refl _ _) (fun _ => rfl)
    (fun pre W => (∃ v, Boxed W w.heap.size 89 v ∧ W.ownsRow w.heap.size 22 1 v pre.length (pre.map eU) ∧ (v = .slice none 0 0 ↔ pre = [])) ∧ Below w.heap.size w W)
    (fun _ _ _ => False)
    (OwnFrom.and (Go.Own.from (holdsRow_own w.heap.size w.heap.size 89 22 1 (fun pre => pre.length) (fun pre => pre.map eU) (fun pre v => v = .slice none 0 0 ↔ pre = [])) _) (ownFrom_below (Nat.le_refl _) (by simp)))
    (fun _ _ _ _ _ hs _ _ => hs)
    ⟨⟨_, bO, World.ownsRow_nil _ _ _ _, by simp⟩, hB0⟩
    (fun x => { tmps := #[.slice none 0 0, .func (.func g) #[] lb, .pointer (some ⟨w.heap.size, 0, none⟩), undef, .slice none 0 0, eU x, .func (.func g) #[] lb, eU x, undef, undef, undef, undef, undef], defers := [] }) ?assign ?body ?done ?stop
  case assign =>
    intro l x W K hK
    gi_wp2
    exact hK
  case body =>
    rintro l pre x W ⟨⟨v, hv, hrow, hnil⟩, hB⟩ hlt
    have hc := hv.cell
    have hf := hv.frozen
    have hmx : ∀ k, k ≤ 1001 → k ≤ maxLen := fun k hk => Nat.le_trans hk (by decide)
    gi_wp2_with (gi_at_builtin; refine wpListIn_append_own _ rfl _ _ 89 rfl w.heap.size 22 i0 (.int .u64 0) 1 8 Try.underlying89 hi hz0 hz1 hz2 rfl (by decide) _ _ _ rfl (hrow.alloc _) ⟨W.heap.size, 0, none⟩ 1 1 [eU x] rfl rfl (cell_one_new _ _ _) (by simp [Value.oneCell']) (hmx _ (by omega)) (by omega) (by have := hB.size; simp; omega) ?_; intro v' w1 hown' hgrow _; obtain ⟨g', cap', rfl⟩ := ownsRow_succ hown'; obtain ⟨hv1, hv2, hr2, hk2, hb2⟩ := hv.appended (by decide) hrow hB.size (Nat.le_refl _) hown' hgrow; have hc1 := hv1.cell; have hf1 := hv1.frozen)
    exact ⟨hk2.from _, hk2.walks, ⟨_, hv2, by simpa using hr2, by simp⟩, hB.trans hb2⟩
  case done =>
    rintro D ys W hD hS' ⟨⟨v, hv, hrow, hnil⟩, hB⟩ hK
    have hc := hv.cell
    gi_wp2
    refine ⟨by simp, .inl ⟨_, _, rfl, run_takeDeferred hK, ?_⟩⟩
    exact ⟨_, results_tmp rfl _ _ _, v, ys, rfl, hS', ownsRow_putObj hrow _ hK rfl, hnil, hB.trans (belowK_b (w := w) (Nat.le_refl _) W D _ _ (by simp at hD; omega) hK rfl rfl)⟩
  case stop =>
    rintro D c pre W _ _ h _
    exact h.elim
set_option maxHeartbeats 1000000 in
theorem collect_go (n g : Nat) (hn : 4 ≤ n) (lb : Array Value) (eg : ∀ args w, (callFunc g args).run Try.prog w = .ok (.enter g args) w) (S Sp : List Int → Prop) (N : Nat) (hN : N ≤ 1000) (w : World) (hseq : keySeq (n - 1 - 1) g lb S Sp N w) :
    CallsIn Fence.wide n Try.prog 89 #[.func (.func g) #[] lb] w fun e W' => ∃ v ss, e = .returned v ∧ S ss ∧ W'.ownsRow w.heap.size 22 1 v ss.length (ss.map eU) ∧ (v = .slice none 0 0 ↔ ss = []) ∧ Below w.heap.size w W' := by
  refine callsIn_of_wp Try.func89 rfl trivial ?_ rfl
  simp only [Try.ntmps89, List.size_toArray, List.length_cons, List.length_nil, Nat.reduceAdd, Nat.reduceSub, Array.replicate_succ, Array.replicate_zero, List.push_toArray, List.append_toArray, List.nil_append, List.cons_append]
  have h1 : 1 ≤ n := by omega
  have cA := appendSeq_go (n - 1) g (by omega) lb eg S Sp N hN w hseq
  gi_wp2_with (refine ⟨trivial, ?_⟩; gi_at_call 103; refine cA.mono ?_; rintro e w' ⟨v, ss, rfl, hS, hrow, hnil, hb⟩)
  go_ret
  exact ⟨v, ss, rfl, hS, hrow, hnil, hb⟩
/-- What the sort is said to do, up to so many. -/
def SortU (m : Nat) : Prop :=
  (∀ (blk cap : Nat) (ss : List Int) (W : World), Holds eU W blk 0 ss.toArray → blk < W.heap.size → (∀ x ∈ ss, Word x) → ss.length ≤ m →
    Calls Try.prog 90 #[.slice (some ⟨blk, 0, none⟩) ss.length cap] W fun e w' => e = .returned (.tuple #[]) ∧ ∃ (ts : List Int) (k : Nat) (os : Array Obj), ts.Perm ss ∧ ts.Pairwise (· ≤ ·) ∧ w' = grow (putRow eU (Sort.ahead W k) blk 0 ts.toArray) os) ∧
  (∀ (W : World), Calls Try.prog 90 #[.slice none 0 0] W fun e w' => e = .returned (.tuple #[]) ∧ Below W.heap.size W w')
theorem holds_owned {w : World} {base g cap : Nat} {ss : List Int} (h : w.ownsRow base 22 1 (.slice (some ⟨g, 0, none⟩) ss.length cap) ss.length (ss.map eU)) (hne : ss ≠ []) : Holds eU w g 0 ss.toArray := by
  intro j hj
  have hj' : j < ss.length := by simpa using hj
  have a1 := owns_cell h hj'
  rw [Nat.zero_add]
  rcases h.2 with ⟨h', _⟩ | ⟨g', cap', cur, e, hbase, hg, h1, h2, h3, h4⟩
  · cases h'
  · cases e
    exact ⟨by simpa [hj'] using a1, by simp [World.frozen?, hg]⟩
theorem sorted_heap {w : World} {g n : Nat} {os : Array Obj} {cur : Array Value} {e : TypeId} {fr : Nat × Nat} (d : Array Int) (hb : w.heap[g]? = some (.cells cur e fr)) :
    (grow (putRow eU (Sort.ahead w n) g 0 d) os).heap[g]? = some (.cells (putCells eU 0 d cur) e fr) := by
  have hg : g < w.heap.size := (Array.getElem?_eq_some_iff.1 hb).1
  rw [heap_grow_old _ _ (by simpa using hg)]
  simp [putRow, mapBlock, Sort.ahead, Array.getElem?_modify, hb, onCells]
theorem sorted_grown {w : World} {g n : Nat} {os : Array Obj} (d : Array Int) : w.grownBy (grow (putRow eU (Sort.ahead w n) g 0 d) os) (some g) := by
  refine ⟨rfl, rfl, rfl, by simp, fun k hk hne => ?_⟩
  rw [heap_grow_old _ _ (by simpa using hk)]
  have : g ≠ k := fun e => hne (by rw [e])
  simp [putRow, mapBlock, Sort.ahead, Array.getElem?_modify, this]
theorem taken_cells (cur : Array Value) (ts : List Int) (h : ts.length ≤ cur.size) : (putCells eU 0 ts.toArray cur).toList.take ts.length = ts.map eU := by
  apply List.ext_getElem?
  intro j
  by_cases hj : j < ts.length
  · rw [List.getElem?_take_of_lt hj, Array.getElem?_toList]
    simp [putCells, hj, show j < cur.size by omega]
  · rw [List.getElem?_take_eq_none (by omega), List.getElem?_eq_none (by simp; omega)]
theorem sorted_owns {w : World} {base g cap n : Nat} {os : Array Obj} {ss ts : List Int} (h : w.ownsRow base 22 1 (.slice (some ⟨g, 0, none⟩) ss.length cap) ss.length (ss.map eU)) (hl : ts.length = ss.length) :
    (grow (putRow eU (Sort.ahead w n) g 0 ts.toArray) os).ownsRow base 22 1 (.slice (some ⟨g, 0, none⟩) ss.length cap) ts.length (ts.map eU) := by
  rcases h.2 with ⟨h', _⟩ | ⟨g', cap', cur, e, hbase, hg, h1, h2, h3, h4⟩
  · cases h'
  · cases e
    exact ⟨by simp, .inr ⟨g, cap, _, by rw [hl], hbase, sorted_heap _ hg, by omega, h2, by simp [putCells, h3], by rw [Nat.mul_one]; exact taken_cells cur ts (by omega)⟩⟩
set_option maxHeartbeats 2000000 in
theorem sorted_go (m : Nat) (hsort : SortU m) (n g : Nat) (hn : 5 ≤ n) (lb : Array Value) (eg : ∀ args w, (callFunc g args).run Try.prog w = .ok (.enter g args) w) (S Sp : List Int → Prop) (N : Nat) (hN : N ≤ 1000) (w : World) (hseq : keySeq (n - 1 - 1 - 1) g lb S Sp N w)
    (hm : ∀ ss, S ss → ss.length ≤ m ∧ ∀ x ∈ ss, Word x) :
    CallsIn Fence.wide n Try.prog 69 #[.func (.func g) #[] lb] w fun e W' => ∃ v ss ts, e = .returned v ∧ S ss ∧ List.Perm ts ss ∧ ts.Pairwise (· ≤ ·) ∧ W'.ownsRow w.heap.size 22 1 v ts.length (ts.map eU) ∧ Below w.heap.size w W' := by
  refine callsIn_of_wp Try.func69 rfl trivial ?_ rfl
  simp only [Try.ntmps69, List.size_toArray, List.length_cons, List.length_nil, Nat.reduceAdd, Nat.reduceSub, Array.replicate_succ, Array.replicate_zero, List.push_toArray, List.append_toArray, List.nil_append, List.cons_append]
  have h1 : 1 ≤ n := by omega
  have cC := collect_go (n - 1) g (by omega) lb eg S Sp N hN w hseq
  gi_wp2_with (refine ⟨trivial, ?_⟩; gi_at_call 89; refine cC.mono ?_; rintro e W ⟨v, ss, rfl, hS, hrow, hnil, hb⟩)
  obtain ⟨hlm, hwd⟩ := hm ss hS
  by_cases hss : ss = []
  · subst hss
    obtain rfl := hnil.2 rfl
    have cS := hsort.2 W
    gi_wp2_with (refine ⟨trivial, ?_⟩; gi_at_call 90; refine (callsIn_wide.2 cS).mono ?_; rintro e w' ⟨rfl, hb2⟩)
    go_ret
    exact ⟨_, [], [], rfl, hS, List.Perm.refl _, List.Pairwise.nil, owns_below hrow hb2, hb.trans (hb2.mono hb.size)⟩
  · have h0 : 0 < ss.length := List.length_pos_iff.2 hss
    obtain ⟨gb, cap, rfl, hcap, hbase, hglt⟩ := owns_some hrow h0
    have cS := hsort.1 gb cap ss W (holds_owned hrow hss) hglt hwd hlm
    gi_wp2_with (refine ⟨trivial, ?_⟩; gi_at_call 90; refine (callsIn_wide.2 cS).mono ?_; rintro e w' ⟨rfl, ts, k, os, hp, hpw, rfl⟩)
    go_ret
    exact ⟨_, ss, ts, rfl, hS, hp, hpw, sorted_owns hrow hp.length_eq, hb.grown (sorted_grown _) hb.size (fun j hj => by cases hj; exact hbase)⟩
end Go.Proofs.Ytjbpaapglamilaa

namespace Go.Proofs.Ytjbpaapglamilaa
open Go.RowKit Go.Shelf W
set_option linter.unusedVariables false
attribute [local go_sem] Oper.semAt_some
def cvV (c : Cv) : Value := .agg #[eU c.f, eU c.l, eU c.r]
def cvB (c : Cv) : Bool := mayB c.f c.l c.r
/-- Those that may be. -/
def cnt (xs : List Cv) : List Cv := xs.filter cvB
/-- Curves whose words are words. -/
abbrev CW := { c : Cv // c.word }
def unW (ys : List CW) : List Cv := ys.map (·.1)
def cntW (ys : List CW) : List CW := ys.filter fun c => cvB c.1
theorem unW_cnt (ys : List CW) : unW (cntW ys) = cnt (unW ys) := by
  induction ys with
  | nil => rfl
  | cons c cs ih =>
    unfold unW cntW cnt at ih ⊢
    by_cases hb : cvB c.1 = true
    · rw [List.filter_cons_of_pos (by simpa using hb), List.map_cons, List.map_cons, List.filter_cons_of_pos hb, ih]
    · rw [List.filter_cons_of_neg (by simpa using hb), List.map_cons, List.filter_cons_of_neg hb, ih]
theorem unW_words (ys : List CW) : ∀ c ∈ unW ys, c.word := by
  intro c hc
  obtain ⟨d, _, rfl⟩ := List.mem_map.1 hc
  exact d.2
theorem unW_ex {xs : List Cv} (h : ∀ c ∈ xs, c.word) : ∃ ys : List CW, unW ys = xs := ⟨xs.attachWith _ h, List.attachWith_map_subtype_val _⟩
theorem cnt_take {xs : List CW} {k : Nat} (h : k < xs.length) : cntW (xs.take (k + 1)) = if cvB xs[k].1 then cntW (xs.take k) ++ [xs[k]] else cntW (xs.take k) := by
  unfold cntW
  rw [List.take_succ_eq_append_getElem h, List.filter_append]
  by_cases hb : cvB xs[k].1 = true
  · rw [if_pos hb]; simp [hb]
  · rw [if_neg hb]; simp [hb]
theorem cnt_len (xs : List CW) (k : Nat) : (cntW (xs.take k)).length ≤ k := Nat.le_trans (List.length_filter_le _ _) (by simp; omega)
theorem cnt_prefix {xs : List CW} {k : Nat} : cntW (xs.take k) <+: cntW xs := by
  refine ⟨cntW (xs.drop k), ?_⟩
  unfold cntW
  rw [← List.filter_append, List.take_append_drop]
theorem cnt_all (xs : List CW) : cntW (xs.take xs.length) = cntW xs := by rw [List.take_length]
theorem counted_any (a : Option Addr) (n c : Nat) (w : World) :
    Calls Try.prog 88 #[.slice a n c] w fun e w' => e = .returned (.func (.func 102) #[] #[.pointer (some ⟨w.heap.size, 0, none⟩)]) ∧ w' = w.alloc (.cells #[.slice a n c] 23) := by
  go_enter Try.func88, Try.ntmps88
  go_wp2
  go_ret
  exact ⟨rfl, rfl⟩
set_option maxRecDepth 100000 in
set_option maxHeartbeats 2000000 in
theorem counted_of (n : Nat) (hn : 1 ≤ n) (xs : List CW) (b o c Bm : Nat) (w0 w : World) (hlen : xs.length ≤ 1000) (h0 : CvRow w0 b o (unW xs)) (hc : xs.length ≤ c) (hbw : Below w0.heap.size w0 w) (hBm : Bm < w.heap.size)
    (hm : w.cell? ⟨Bm, 0, none⟩ = some (.slice (some ⟨b, o, none⟩) xs.length c)) :
    SeqStopsK Fence.wide n Try.prog 102 #[.pointer (some ⟨Bm, 0, none⟩)] (fun c : CW => #[cvV c.1]) (Below w0.heap.size) (fun ys => ys = cntW xs) (fun pre => pre <+: cntW xs) xs.length w := by
  intro l J Jx W hW hJ hJx hY hJ0
  have hJ' : ∀ pre W W', J pre W → Below W.heap.size W W' → J pre W' := fun pre W W' h hb => hJ pre W W' none h ⟨hb.os, hb.tape, hb.output, hb.size, fun k hk _ => hb.block k hk⟩ (fun r e => by cases e)
  have hmW : W.cell? ⟨Bm, 0, none⟩ = some (.slice (some ⟨b, o, none⟩) xs.length c) := (hW.cell (p := ⟨Bm, 0, none⟩) hBm).trans hm
  have hB0 : Below w0.heap.size w0 W := hbw.trans (hW.mono hbw.size)
  have h0' := Lib.hid h0
  clear hm hbw hW h0
  refine callsIn_of_wp Try.func102 rfl trivial ?_ rfl
  simp only [Try.ntmps102, List.size_toArray, List.length_cons, List.length_nil, Nat.reduceAdd, Nat.reduceSub, Array.replicate_succ, Array.replicate_zero, List.push_toArray, List.append_toArray, List.nil_append, List.cons_append]
  gi_wp2
  gi_loopw [7] (fun s7 wr => ∃ k : Nat, k ≤ xs.length ∧ s7 = .int .i64 k ∧ J (cntW (xs.take k)) wr ∧ Below w0.heap.size w0 wr) (fun s7 _ => xs.length - (intOf s7).toNat)
  case atStart => exact ⟨0, by omega, rfl, by simpa [cntW] using hJ0, hB0⟩
  case round =>
    obtain ⟨k, hk, rfl, hJk, T⟩ := hrel
    by_cases hlt : k < xs.length
    · have i1 : (k : Int) < (xs.length : Int) := by omega
      have i2 : (0 : Int) ≤ (k : Int) := by omega
      obtain ⟨x1, x2, x3⟩ := (h0'.out.below T).2 k (by simpa [unW] using hlt)
      have eu : (unW xs)[k]'(by simpa [unW] using hlt) = xs[k].1 := by simp [unW]
      rw [eu] at x1 x2 x3
      clear eu
      have ht := cnt_take hlt
      have hle := cnt_len xs k
      have hpre := cnt_prefix (xs := xs) (k := k + 1)
      have hM := fun w => may_any xs[k].1.f xs[k].1.l xs[k].1.r w xs[k].2.1 xs[k].2.2.1 xs[k].2.2.2
      have hYk := fun W' => hY (cntW (xs.take k)) xs[k] W'
      have ev : cvV xs[k].1 = .agg #[eU xs[k].1.f, eU xs[k].1.l, eU xs[k].1.r] := rfl
      rw [ev] at hYk
      clear ev
      have eb : mayB xs[k].1.f xs[k].1.l xs[k].1.r = cvB xs[k].1 := rfl
      obtain ⟨mb, emb⟩ : ∃ mb, cvB xs[k].1 = mb := ⟨_, rfl⟩
      rw [eb, emb] at hM
      rw [emb] at ht
      clear eb emb
      obtain ⟨cv, ecv⟩ : ∃ cv, xs[k] = cv := ⟨_, rfl⟩
      rw [ecv] at x1 x2 x3 hM hYk ht
      clear ecv
      obtain ⟨⟨f, ll, r⟩, hcw⟩ := cv
      dsimp only at x1 x2 x3 hM hYk
      have hYh := Lib.hid hYk
      clear hYk hY
      have hkk : (cntW (xs.take k)).length < xs.length := by omega
      cases mb with
      | false =>
        rw [if_neg (by simp)] at ht
        gi_wp2_with (refine ⟨trivial, ?_⟩; gi_at_call 24; (refine (callsIn_wide.2 (hM _)).mono ?_); rintro e w1 ⟨rfl, hb1⟩; have hB1 := (Box.new wr 25 #[.int .u64 f, .int .u64 ll, .int .u64 r]).below hb1)
        refine ⟨fun _ h => (by cases h), ?_⟩
        gi_wp2
        go_roundw
        case rel => exact ⟨k + 1, by omega, by go_num, by rw [ht]; exact hJ' _ _ _ (hJ' _ _ _ hJk (up1 _ _)) hb1, up T ((up1 wr _).trans (hb1.mono (by simp))) T.size⟩
        case measure => simp [intOf]; omega
      | true =>
        rw [if_pos rfl] at ht
        gi_wp2_with (refine ⟨trivial, ?_⟩; gi_at_call 24; (refine (callsIn_wide.2 (hM _)).mono ?_); rintro e w1 ⟨rfl, hb1⟩; have hB1 := (Box.new wr 25 #[.int .u64 f, .int .u64 ll, .int .u64 r]).below hb1; obtain ⟨_, y1, y2, y3⟩ := hB1.tri; have E1 := up T ((up1 wr _).trans (hb1.mono (by simp))) T.size; have hJ1 := hJ' _ _ _ (hJ' _ _ _ hJk (up1 _ _)) hb1; obtain ⟨fn, tmps, assign, body, hy, hR⟩ := hYh.out w1 hJ1 hkk)
        refine hR.mono ?_
        rintro e W3 (⟨rfl, hJ3, hk3⟩ | ⟨rfl, hJx3⟩)
        · gi_wp2
          go_roundw
          case rel => exact ⟨k + 1, by omega, by go_num, by rw [ht]; exact hJ3, E1.trans hk3⟩
          case measure => simp [intOf]; omega
        · gi_wp2
          refine bodyPost_ret (results_none rfl _ _ _) rfl ?_
          exact ⟨⟨_, rfl⟩, .inr ⟨_, by rw [← ht]; exact hpre, hJx3⟩⟩
    · have hkl : k = xs.length := by omega
      subst hkl
      gi_wp2
      go_end0
      exact ⟨⟨_, rfl⟩, .inl ⟨_, cnt_all xs, hJk⟩⟩
set_option maxRecDepth 100000 in
set_option maxHeartbeats 2000000 in
theorem counted_nil (n : Nat) (hn : 1 ≤ n) (a : Option Addr) (c Bm n₀ : Nat) (w : World) (hBm : Bm < w.heap.size) (hm : w.cell? ⟨Bm, 0, none⟩ = some (.slice a 0 c)) :
    SeqStopsK Fence.wide n Try.prog 102 #[.pointer (some ⟨Bm, 0, none⟩)] (fun c : CW => #[cvV c.1]) (Below n₀) (fun ys => ys = cntW []) (fun pre => pre <+: cntW []) 0 w := by
  intro l J Jx W hW hJ hJx hY hJ0
  have hmW : W.cell? ⟨Bm, 0, none⟩ = some (.slice a 0 c) := (hW.cell (p := ⟨Bm, 0, none⟩) hBm).trans hm
  refine callsIn_of_wp Try.func102 rfl trivial ?_ rfl
  simp only [Try.ntmps102, List.size_toArray, List.length_cons, List.length_nil, Nat.reduceAdd, Nat.reduceSub, Array.replicate_succ, Array.replicate_zero, List.push_toArray, List.append_toArray, List.nil_append, List.cons_append]
  gi_wp2
  gi_loopw [7] (fun s7 wr => s7 = .int .i64 0 ∧ J [] wr) (fun s7 _ => 0)
  case atStart => exact ⟨rfl, hJ0⟩
  case round =>
    obtain ⟨rfl, hJk⟩ := hrel
    gi_wp2
    go_end0
    exact ⟨⟨_, rfl⟩, .inl ⟨_, rfl, hJk⟩⟩
theorem counted_go (n : Nat) (hn : 1 ≤ n) (xs : List CW) (a : Option Addr) (k c Bm : Nat) (w0 w : World) (hlen : xs.length ≤ 1000) (h0 : IsCvs w0 a k c (unW xs)) (hbw : Below w0.heap.size w0 w) (hBm : Bm < w.heap.size)
    (hm : w.cell? ⟨Bm, 0, none⟩ = some (.slice a k c)) :
    SeqStopsK Fence.wide n Try.prog 102 #[.pointer (some ⟨Bm, 0, none⟩)] (fun c : CW => #[cvV c.1]) (Below w0.heap.size) (fun ys => ys = cntW xs) (fun pre => pre <+: cntW xs) xs.length w := by
  obtain ⟨h1, h2, h3⟩ := h0
  have h1 : xs.length = k := by simpa [unW] using h1
  rcases h3 with h3 | ⟨b, o, rfl, hr⟩
  · subst h3
    obtain rfl := List.eq_nil_of_length_eq_zero h1
    exact counted_nil n hn a c Bm w0.heap.size w hBm hm
  · subst h1
    exact counted_of n hn xs b o c Bm w0 w hlen hr h2 hbw hBm hm
end Go.Proofs.Ytjbpaapglamilaa

namespace Go.Proofs.Ytjbpaapglamilaa
open Go.RowKit Go.Shelf W
set_option linter.unusedVariables false
theorem app_lies {F : Fence} {n : Nat} {P : Program} (w : World) {ops : Array Oper} {rest : List Oper} {o : Oper} {a : Act} {Q : Exit → Act → World → Prop}
    (hg : o.guard = none) (s x : Operand) (t : TypeId) (hop : o.op = Op.call { callee := Callee.builtin Builtin.append, args := #[s, x], argTypes := #[t, t] })
    (base : Nat) (e : TypeId) (i : TypeInfo) (z : Value) (size bytes : Nat) (h1 : P.underlying t = some (.slice e)) (h2 : P.info? e = some i) (h3 : i.zero = some z) (h4 : i.size = size) (h5 : i.bytes = bytes) (h6 : z.cells.size = size) (h7 : 0 < size)
    (v : Value) (k : Nat) (xs : List Value) (hs : a.eval s = v) (hown : w.ownsRow base e size v k xs) (ad : Addr) (m c : Nat) (news : List Value) (hx : a.eval x = .slice (some ad) m c) (hn : news.length = m * size)
    (hc : ∀ j u, news[j]? = some u → w.cell? (ad.add j) = some u) (h1c : ∀ u ∈ news, u.oneCell' = true) (hm : 0 < m) (b1 : k + m ≤ maxLen) (b2 : (k + m) * bytes ≤ 140737488355328) (b3 : base ≤ w.heap.size)
    (hK : ∀ g cap w', w'.ownsRow base e size (.slice (some ⟨g, 0, none⟩) (k + m) cap) (k + m) (xs ++ news) → w.grownBy w' v.ownBlock → (v.ownBlock = some g ∨ g = w.heap.size) → wpListIn F n P ops Q rest (a.put o.dst (.slice (some ⟨g, 0, none⟩) (k + m) cap)) w') :
    wpListIn F n P ops Q (o :: rest) a w := by
  refine wpListIn_plain hg fun K hK' => ?_
  obtain ⟨g, cap, w', hrun, r1, r2, r3, r4⟩ := run_append_lies (P := P) (w := w) t o.type base e i z size bytes h1 h2 h3 h4 h5 h6 h7 v k xs hown ad m c news hn hc h1c hm b1 b2 b3 w.heap.size rfl
  unfold Oper.wpIn
  refine ⟨?_, ?_⟩
  · simp [Oper.about, hop, resolve, Target.leads, Sem.run_pure]
  · rw [Oper.semAt_plain F _ _ (by rw [hop]; intro c hc'; cases hc')]
    simp [execOp, hop, resolve, invoke, builtin, hs, hx, hrun, Result.andThen]
    exact hK' _ _ (hK g cap w' r1 r2 r3)
theorem owns_ne {W : World} {base : Nat} {v : Value} {k : Nat} {xs : List Value} (h : W.ownsRow base 22 1 v k xs) {B : Nat} {u : Array Value} {t : TypeId} (hB : Box W B u t) (ht : t ≠ 22) : v.ownBlock = none ∨ v.ownBlock ≠ some B := by
  rcases h.2 with ⟨rfl, _⟩ | ⟨g, cap, cur, rfl, _, hg, _⟩
  · exact .inl rfl
  · refine .inr fun e => ?_
    obtain rfl : g = B := by simpa [Value.ownBlock] using e
    rw [show W.heap[g]? = _ from hB] at hg
    cases hg
    exact ht rfl
theorem put_grown (W : World) (b i : Nat) (v : Value) : W.grownBy (W.setCell ⟨b, i, none⟩ v) (some b) :=
  ⟨rfl, rfl, rfl, by simp [World.setCell], fun k _ hk => Below.heap_setCell _ _ _ k (by show k ≠ b; exact fun e => hk (by rw [e]))⟩
/-- Two slices in two boxes. -/
structure Two (n m B1 B2 : Nat) (xs ys : List Int) (v u : Value) (W : World) : Prop where
  bv : Boxed W B1 89 v
  bu : Boxed W B2 89 u
  rv : W.ownsRow n 22 1 v xs.length (xs.map eU)
  ru : W.ownsRow n 22 1 u ys.length (ys.map eU)
  ne : v.ownBlock = none ∨ v.ownBlock ≠ u.ownBlock
  lv : ∀ g, v.ownBlock = some g → m ≤ g
  lu : ∀ g, u.ownBlock = some g → m ≤ g
theorem Two.flip {n m B1 B2 : Nat} {xs ys : List Int} {v u : Value} {W : World} (h : Two n m B1 B2 xs ys v u W) : Two n m B2 B1 ys xs u v W :=
  ⟨h.bu, h.bv, h.ru, h.rv, by
    rcases h.ne with e | e
    · by_cases hu : u.ownBlock = none
      · exact .inl hu
      · exact .inr (by rw [e]; exact hu)
    · exact .inr (fun e' => e e'.symm), h.lu, h.lv⟩
theorem Two.kept {n m B1 B2 : Nat} {xs ys : List Int} {v u : Value} {W W' : World} {row : Option Nat} (h : Two n m B1 B2 xs ys v u W) (hg : W.grownBy W' row) (hr : ∀ r, row = some r → ∃ o : Obj, W.heap[r]? = some o ∧ o.isCells = false) : Two n m B1 B2 xs ys v u W' := by
  have hk : ∀ {B : Nat} {x : Value}, Boxed W B 89 x → some B ≠ row := fun hb e => by
    obtain ⟨o, ho, hc⟩ := hr _ e.symm
    rw [show W.heap[_]? = _ from hb] at ho; cases ho; cases hc
  have hrow : ∀ {x : Value} {k : Nat} {zs : List Value}, W.ownsRow n 22 1 x k zs → x.ownBlock = none ∨ x.ownBlock ≠ row := fun h' => by
    rcases h'.2 with ⟨rfl, _⟩ | ⟨g, cap, cur, rfl, _, hgb, _⟩
    · exact .inl rfl
    · refine .inr fun e' => ?_
      obtain ⟨o, ho, hc⟩ := hr g (by simpa [Value.ownBlock] using e'.symm)
      rw [hgb] at ho; cases ho; cases hc
  exact ⟨h.bv.kept hg (hk h.bv), h.bu.kept hg (hk h.bu), h.rv.kept hg (hrow h.rv), h.ru.kept hg (hrow h.ru), h.ne, h.lv, h.lu⟩
theorem Two.alloc {n m B1 B2 : Nat} {xs ys : List Int} {v u : Value} {W : World} (h : Two n m B1 B2 xs ys v u W) (o : Obj) : Two n m B1 B2 xs ys v u (W.alloc o) := h.kept (World.grownBy_alloc W o none) (fun r e => by cases e)
/-- The first one has grown. -/
theorem Two.appended {n m B1 B2 g cap q : Nat} {xs ys news : List Int} {v u : Value} {W w1 : World} {tmp : Obj} (h : Two n m B1 B2 xs ys v u W) (hq : news.length = q) (hB : B1 ≠ B2) (hn : n ≤ W.heap.size) (hm : m ≤ W.heap.size) (h1 : n ≤ B1)
    (hown : w1.ownsRow n 22 1 (.slice (some ⟨g, 0, none⟩) (xs.length + q) cap) (xs.length + q) (xs.map eU ++ news.map eU)) (hgrow : (W.alloc tmp).grownBy w1 v.ownBlock) (hg : v.ownBlock = some g ∨ g = (W.alloc tmp).heap.size) :
    Two n m B1 B2 (xs ++ news) ys (.slice (some ⟨g, 0, none⟩) (xs.length + q) cap) u (w1.setCell ⟨B1, 0, none⟩ (.slice (some ⟨g, 0, none⟩) (xs.length + q) cap)) ∧
      Boxed w1 B1 89 v ∧ Boxed w1 B2 89 u ∧ KeepsOthers W (w1.setCell ⟨B1, 0, none⟩ (.slice (some ⟨g, 0, none⟩) (xs.length + q) cap)) ∧ Below n W (w1.setCell ⟨B1, 0, none⟩ (.slice (some ⟨g, 0, none⟩) (xs.length + q) cap)) := by
  subst hq
  obtain ⟨a1, a2, a3, a4, a5⟩ := h.bv.appended (by decide) h.rv hn h1 hown hgrow
  have hru1 := h.ru.alloc tmp
  have hbu1 := h.bu.alloc tmp
  have hru2 : w1.ownsRow n 22 1 u ys.length (ys.map eU) := hru1.kept hgrow (by
    rcases h.ne with e | e
    · rw [e]; by_cases hu : u.ownBlock = none
      · exact .inl hu
      · exact .inr hu
    · exact .inr (fun e' => e e'.symm))
  have hne1 := owns_ne h.rv (B := B2) (u := #[u]) (t := 89) h.bu (by decide)
  have hbu2 : Boxed w1 B2 89 u := hbu1.kept hgrow (fun e => by rcases hne1 with e1 | e1 <;> rw [← e] at e1; cases e1; exact e1 rfl)
  refine ⟨⟨a2, hbu2.other (by omega) _, by simpa using a3, hru2.kept (put_grown _ _ _ _) (owns_ne hru2 (B := B1) (u := #[v]) (t := 89) a1 (by decide)), .inr ?_, fun k e => ?_, h.lu⟩, a1, hbu2, a4, a5⟩
  rotate_left
  · obtain rfl : g = k := by simpa [Value.ownBlock] using e
    rcases hg with e1 | e1
    · exact h.lv _ e1
    · simp at e1; omega
  intro e
  have e' : u.ownBlock = some g := by simpa [Value.ownBlock] using e.symm
  rcases hg with e1 | e1
  · rcases h.ne with e2 | e2
    · rw [e2] at e1; cases e1
    · exact e2 (e1.trans e'.symm)
  · have := (h.ru.lt g e').2
    simp at e1
    omega
theorem Two.boxed {n m B1 B2 b : Nat} {xs ys : List Int} {v u x : Value} {t : TypeId} {W w1 : World} {tmp : Obj} (h : Two n m B1 B2 xs ys v u W) (hb : Boxed W b t x) (hm : b < m) (h1 : B1 ≠ b) (hgrow : (W.alloc tmp).grownBy w1 v.ownBlock) (y : Value) :
    Boxed w1 b t x ∧ Boxed (w1.setCell ⟨B1, 0, none⟩ y) b t x := by
  have h2 : Boxed w1 b t x := (hb.alloc tmp).kept hgrow (fun e => by have := h.lv b e.symm; omega)
  exact ⟨h2, h2.other (by omega) _⟩
theorem Two.box {n m B1 B2 b : Nat} {xs ys : List Int} {v u : Value} {x : Array Value} {t : TypeId} {W w1 : World} {tmp : Obj} (h : Two n m B1 B2 xs ys v u W) (hb : Box W b x t) (hm : b < m) (h1 : B1 ≠ b) (hgrow : (W.alloc tmp).grownBy w1 v.ownBlock) (y : Value) :
    Box (w1.setCell ⟨B1, 0, none⟩ y) b x t := by
  have hb' := hb.alloc tmp
  have h2 : Box w1 b x t := (hgrow.block b hb'.lt (fun e => by have := h.lv b e.symm; omega)).trans hb'
  exact h2.other (by omega) _
theorem Two.far {n m B1 B2 b : Nat} {xs ys : List Int} {v u : Value} {x : Array Value} {t : TypeId} {W w1 : World} {tmp : Obj} (h : Two n m B1 B2 xs ys v u W) (hb : Box W b x t) (ht : t ≠ 22) (h1 : B1 ≠ b) (hgrow : (W.alloc tmp).grownBy w1 v.ownBlock) (y : Value) :
    Box (w1.setCell ⟨B1, 0, none⟩ y) b x t := by
  have hb' := hb.alloc tmp
  have hne := owns_ne h.rv hb ht
  have h2 : Box w1 b x t := (hgrow.block b hb'.lt (fun e => by rcases hne with e1 | e1 <;> rw [← e] at e1; cases e1; exact e1 rfl)).trans hb'
  exact h2.other (by omega) _
end Go.Proofs.Ytjbpaapglamilaa

namespace Go.Proofs.Ytjbpaapglamilaa
open Go.RowKit Go.Shelf W
set_option linter.unusedVariables false
theorem cnt_may (xs : List Cv) : ∀ c ∈ cnt xs, cvB c = true := fun c hc => (List.mem_filter.1 hc).2
theorem cnt_mem {xs : List Cv} {c : Cv} (h : c ∈ cnt xs) : c ∈ xs := (List.mem_filter.1 h).1
theorem wrapU {x : Int} (h : Word x) : IntKind.u64.wrap x = x := by unfold Word at h; simp [IntKind.wrap, IntKind.bits, IntKind.signed]; omega
end Go.Proofs.Ytjbpaapglamilaa

namespace Go.Proofs.Ytjbpaapglamilaa
open Go.RowKit Go.Shelf Go.Maps W
set_option linter.unusedVariables false
def bD (x y : Int) : DataW Unit := .agg [.lit (.int .u64 x), .lit (.int .u64 y)]
def bE : Rel := fun v => match v with
  | .agg cs => (match cs.toList with
    | [.int .u64 x, .int .u64 y] => some (bD x y, [])
    | _ => none)
  | _ => none
theorem bE_inv {v : Value} {x y : Int} {ps : List MemPlace} (h : bE v = some (bD x y, ps)) : v = .agg #[eU x, eU y] := by
  unfold bE at h
  split at h
  · rename_i cs
    split at h
    · rename_i a b e
      simp [bD] at h
      obtain ⟨⟨rfl, rfl⟩, _⟩ := h
      congr 1
      exact Array.toList_inj.1 e
    · cases h
  · cases h
/-- Block b is a map that says U k, V k at each k (0 where there is nothing), and has just the keys of K. -/
def MapB (w : World) (b nn : Nat) (U V : Int → Int) (K : Int → Prop) : Prop :=
  ∃ D, w.ownsMap Try.prog 22 bE b nn D ∧ (∀ k, D.atKey (.int .u64 k) (bD 0 0) = bD (U k) (V k)) ∧ ∀ k, has D (.int .u64 k) = true ↔ K k
theorem key_of {k : Int} (h : Word k) : keyOf Try.prog 22 (eU k) = some (.int .u64 k) := keyOf_int_mk Try.underlying22 (by unfold Word at h; simp [Lit.wf, IntKind.min, IntKind.max, IntKind.bits, IntKind.signed]; omega)
theorem lit_ne {j k : Int} (h : j ≠ k) : Lit.int .u64 j ≠ Lit.int .u64 k := fun e => h (by cases e; rfl)
theorem MapB.lt {w : World} {b nn : Nat} {U V : Int → Int} {K : Int → Prop} (h : MapB w b nn U V K) : b < w.heap.size := by
  obtain ⟨D, h1, _⟩ := h; exact h1.lt
theorem MapB.kept {w w' : World} {b nn : Nat} {U V : Int → Int} {K : Int → Prop} {row : Option Nat} (h : MapB w b nn U V K) (hg : w.grownBy w' row) (hne : some b ≠ row) : MapB w' b nn U V K := by
  obtain ⟨D, h1, h2⟩ := h; exact ⟨D, h1.kept hg hne, h2⟩
theorem MapB.alloc {w : World} {b nn : Nat} {U V : Int → Int} {K : Int → Prop} (h : MapB w b nn U V K) (o : Obj) : MapB (w.alloc o) b nn U V K := h.kept (World.grownBy_alloc w o none) (by simp)
theorem MapB.below {w w' : World} {b nn : Nat} {U V : Int → Int} {K : Int → Prop} (h : MapB w b nn U V K) (hb : Below w.heap.size w w') : MapB w' b nn U V K :=
  h.kept (row := none) ⟨hb.os, hb.tape, hb.output, hb.size, fun k hk _ => hb.block k hk⟩ (by simp)
theorem MapB.put {w : World} {b nn : Nat} {U V : Int → Int} {K : Int → Prop} (h : MapB w b nn U V K) {c : Nat} (hne : b ≠ c) (i : Nat) (v : Value) : MapB (w.setCell ⟨c, i, none⟩ v) b nn U V K := h.kept (put_grown w c i v) (fun e => hne (by cases e; rfl))
theorem MapB.size {w : World} {b nn : Nat} {U V : Int → Int} {K : Int → Prop} (h : MapB w b nn U V K) : ∃ D, w.ownsMap Try.prog 22 bE b nn D ∧ Maps.size D ≤ nn ∧ ∀ k, has D (.int .u64 k) = true ↔ K k := by
  obtain ⟨D, h1, _, h3⟩ := h
  exact ⟨D, h1, h1.size_le, h3⟩
theorem MapB.made (w : World) : MapB (w.alloc (.map #[] 0)) w.heap.size 0 (fun _ => 0) (fun _ => 0) (fun _ => False) :=
  ⟨_, World.ownsMap_made w Try.prog 22 bE, fun k => rfl, fun k => by simp [has]⟩
theorem MapB.look {w : World} {b nn : Nat} {U V : Int → Int} {K : Int → Prop} (h : MapB w b nn U V K) {k u v : Int} (hk : Word k) (hu : U k = u) (hv : V k = v) :
    (Instr.lookup 109 (.map (some b)) (eU k) false).run Try.prog w = .ok (.agg #[eU u, eU v]) w := by
  obtain ⟨D, h1, h2, _⟩ := h
  obtain ⟨x, ps, hr, hx⟩ := h1.lookup (int_keyed Try.underlying22) Try.underlying109 (e := 112) (z := .agg #[eU 0, eU 0]) (Try.zeroValue112 w) (zd := bD 0 0) (zp := []) rfl (key_of hk)
  rw [h2, hu, hv] at hx
  rw [hr, bE_inv hx]
theorem MapB.upd {w : World} {b nn : Nat} {U V : Int → Int} {K : Int → Prop} (h : MapB w b nn U V K) (hn : nn ≤ 5000) {k : Int} (p q : Int) (hk : Word k) :
    ∃ w', (Instr.mapUpdate 109 (.map (some b)) (eU k) (.agg #[eU p, eU q])).run Try.prog w = .ok () w' ∧ MapB w' b (nn + 1) (fun j => if j = k then p else U j) (fun j => if j = k then q else V j) (fun j => K j ∨ j = k) ∧ w.grownBy w' (some b) := by
  obtain ⟨D, h1, h2, h3⟩ := h
  obtain ⟨w', hr, ho, hg⟩ := h1.update (int_keyed Try.underlying22) Try.underlying109 (Nat.lt_of_le_of_lt hn (by decide)) (key_of hk) (val := .agg #[eU p, eU q]) (d := bD p q) (ps := []) rfl
  have hm := h1.isMap
  have hkl : WideAt.IsKeyLit (.int .u64 k) := by trivial
  refine ⟨w', hr, ⟨_, ho, fun j => ?_, fun j => ?_⟩, hg⟩
  · by_cases hj : j = k
    · subst hj; simp [atKey_put_same hm hkl]
    · simp [atKey_put_other (lit_ne hj), hj, h2 j]
  · by_cases hj : j = k
    · subst hj; simp [has_put_same hm hkl]
    · rw [has_put_other (lit_ne hj), h3 j]; simp [hj]
theorem look_b {F : Fence} {n : Nat} {w : World} {ops : Array Oper} {rest : List Oper} {o : Oper} {a : Act} {Q : Exit → Act → World → Prop} (hg : o.guard = none) (m x : Operand) (hop : o.op = Op.lookup 109 m x false)
    {b nn : Nat} {U V : Int → Int} {K : Int → Prop} (h : MapB w b nn U V K) (hm : a.eval m = .map (some b)) (k u v : Int) (hx : a.eval x = eU k) (hk : Word k) (hu : U k = u) (hv : V k = v)
    (hK : wpListIn F n Try.prog ops Q rest (a.put o.dst (.agg #[eU u, eU v])) w) : wpListIn F n Try.prog ops Q (o :: rest) a w := by
  refine wpListIn_plain hg fun K' hK' => ?_
  have hrun := h.look hk hu hv
  unfold Oper.wpIn
  refine ⟨by simp [Oper.about, hop], ?_⟩
  rw [Oper.semAt_plain F _ _ (by rw [hop]; intro c hc'; cases hc')]
  simp [execOp, hop, hm, hx, hrun, Result.andThen]
  exact hK' _ _ hK
theorem upd_b {F : Fence} {n : Nat} {w : World} {ops : Array Oper} {rest : List Oper} {o : Oper} {a : Act} {Q : Exit → Act → World → Prop} (hg : o.guard = none) (m x v : Operand) (hop : o.op = Op.mapUpdate 109 m x v ∨ o.op = Op.insert 109 m x v)
    {b nn : Nat} {U V : Int → Int} {K : Int → Prop} (h : MapB w b nn U V K) (hn : nn ≤ 5000) (hm : a.eval m = .map (some b)) (k p q : Int) (hx : a.eval x = eU k) (hk : Word k) (hv : a.eval v = .agg #[eU p, eU q])
    (hK : ∀ w', MapB w' b (nn + 1) (fun j => if j = k then p else U j) (fun j => if j = k then q else V j) (fun j => K j ∨ j = k) → w.grownBy w' (some b) → wpListIn F n Try.prog ops Q rest (a.put o.dst undef) w') : wpListIn F n Try.prog ops Q (o :: rest) a w := by
  refine wpListIn_plain hg fun K' hK' => ?_
  obtain ⟨w', hrun, r1, r2⟩ := h.upd hn p q hk
  unfold Oper.wpIn
  rcases hop with hop | hop
  · refine ⟨by simp [Oper.about, hop], ?_⟩
    rw [Oper.semAt_plain F _ _ (by rw [hop]; intro c hc'; cases hc')]
    simp [execOp, hop, hm, hx, hv, hrun, Result.andThen]
    exact hK' _ _ (hK w' r1 r2)
  · refine ⟨by simp [Oper.about, hop], ?_⟩
    rw [Oper.semAt_plain F _ _ (by rw [hop]; intro c hc'; cases hc')]
    simp [execOp, hop, hm, hx, hv, hrun, Result.andThen]
    exact hK' _ _ (hK w' r1 r2)
theorem del_b {F : Fence} {n : Nat} {w : World} {ops : Array Oper} {rest : List Oper} {o : Oper} {a : Act} {Q : Exit → Act → World → Prop} (hg : o.guard = none) (m x : Operand) (hop : o.op = Op.call { callee := Callee.builtin Builtin.delete, args := #[m, x], argTypes := #[109, 22] })
    {b nn : Nat} {U V : Int → Int} {K : Int → Prop} (h : MapB w b nn U V K) (hm : a.eval m = .map (some b)) (k : Int) (hx : a.eval x = eU k) (hk : Word k)
    (hK : ∀ w', MapB w' b nn (fun j => if j = k then 0 else U j) (fun j => if j = k then 0 else V j) (fun j => K j ∧ j ≠ k) → w.grownBy w' (some b) → wpListIn F n Try.prog ops Q rest (a.put o.dst (.tuple #[])) w') : wpListIn F n Try.prog ops Q (o :: rest) a w := by
  obtain ⟨D, h1, h2, h3⟩ := h
  refine wpListIn_delete_own w hg m x 109 22 hop 112 (int_keyed Try.underlying22) Try.underlying109 bE b nn D hm h1 (eU k) _ hx (key_of hk) fun w' ho ht => hK w' ⟨_, ho, fun j => ?_, fun j => ?_⟩ ht.grown
  · by_cases hj : j = k
    · subst hj; simp [atKey_del_same]
    · simp [atKey_del_other (lit_ne hj), hj, h2 j]
  · by_cases hj : j = k
    · subst hj; simp [has_del_same]
    · rw [has_del_other (lit_ne hj), h3 j]; simp [hj]
end Go.Proofs.Ytjbpaapglamilaa

namespace Go.Proofs.Ytjbpaapglamilaa
open Go.RowKit Go.Shelf Go.Maps W
set_option linter.unusedVariables false
attribute [local go_sem] Oper.semAt_some
def addW (x y : Int) : Int := IntKind.u64.wrap (x + y)
def oneU (U : Int → Int) (c : Cv) : Int → Int := fun j => if j = 0 then addW (U 0) c.f else U j
def oneV (V : Int → Int) : Int → Int := fun j => if j = 0 then V 0 else V j
def stU (U : Int → Int) (c : Cv) : Int → Int := fun j => if j = c.l then addW (oneU U c c.l) c.r else oneU U c j
def stV (V : Int → Int) (c : Cv) : Int → Int := fun j => if j = c.l then addW (oneV V c.l) c.f else oneV V j
def uF (pre : List Cv) : Int → Int := pre.foldl stU (fun _ => 0)
def vF (pre : List Cv) : Int → Int := pre.foldl stV (fun _ => 0)
def kF (pre : List Cv) (j : Int) : Prop := j = 0 ∨ ∃ c ∈ pre, c.l = j
theorem uF_snoc (pre : List Cv) (c : Cv) : uF (pre ++ [c]) = stU (uF pre) c := by simp [uF]
theorem vF_snoc (pre : List Cv) (c : Cv) : vF (pre ++ [c]) = stV (vF pre) c := by simp [vF]
theorem MapB.same {w : World} {b nn : Nat} {U V U' V' : Int → Int} {K K' : Int → Prop} (h : MapB w b nn U V K) (hU : ∀ j, U j = U' j) (hV : ∀ j, V j = V' j) (hK : ∀ j, K j ↔ K' j) : MapB w b nn U' V' K' := by
  obtain ⟨D, h1, h2, h3⟩ := h
  exact ⟨D, h1, fun k => by rw [h2, hU, hV], fun k => (h3 k).trans (hK k)⟩
def BenI (w : World) (B1 : Nat) (pre : List CW) (W : World) : Prop :=
  (∃ nn, nn ≤ 1 + 2 * pre.length ∧ MapB W w.heap.size nn (uF (unW pre)) (vF (unW pre)) (kF (unW pre))) ∧ Boxed W B1 109 (.map (some w.heap.size)) ∧ Below w.heap.size w W ∧ B1 + 2 ≤ W.heap.size
theorem BenI.own (w : World) (B1 : Nat) (hB : w.heap.size < B1) : OwnFrom (B1 + 2) (BenI w B1) := by
  rintro s X Y row ⟨⟨nn, hn, hM⟩, hb, hw, hz⟩ hg hr
  exact ⟨⟨nn, hn, hM.kept hg (fun e => by have := (hr _ e.symm).1; omega)⟩, hb.kept hg (fun e => by have := (hr _ e.symm).1; omega), hw.grown hg hw.size (fun k e => by have := (hr k e).1; omega), Nat.le_trans hz hg.size⟩
theorem stepB {W w1 : World} {n b : Nat} {x : Array Value} {t : TypeId} {o : Obj} (hb : Box W b x t) (hn : b ≠ n) (hg : (W.alloc o).grownBy w1 (some n)) : Box w1 b x t := by
  have h1 := hb.alloc o
  exact (hg.block b h1.lt (fun e => hn (by cases e; rfl))).trans h1
theorem w0 : Word 0 := ⟨by omega, by omega⟩
set_option maxRecDepth 100000 in
set_option maxHeartbeats 4000000 in
theorem bends_of (xs : List CW) (a : Option Addr) (k c : Nat) (w : World) (hn : xs.length ≤ 1000) (h : IsCvs w a k c (unW xs)) (n : Nat) (hn3 : 3 ≤ n) :
    CallsIn Fence.wide n Try.prog 68 #[.slice a k c] w fun e w' => e = .returned (.map (some w.heap.size)) ∧ (∃ nn, nn ≤ 1 + 2 * xs.length ∧ MapB w' w.heap.size nn (uF (unW (cntW xs))) (vF (unW (cntW xs))) (kF (unW (cntW xs)))) ∧ Below w.heap.size w w' ∧ w.heap.size < w'.heap.size := by
  have hmm := @run_makeMap Try.prog
  have h1n : 1 ≤ n := by omega
  refine callsIn_of_wp_marks Try.func68 rfl trivial ?_ rfl
  simp only [Try.ntmps68, List.size_toArray, List.length_cons, List.length_nil, Nat.reduceAdd, Nat.reduceSub, Array.replicate_succ, Array.replicate_zero, List.push_toArray, List.append_toArray, List.nil_append, List.cons_append]
  gi_wp2_with (first
    | (refine upd_b rfl _ _ _ (.inr rfl) (MapB.made w) (by omega) rfl 0 0 0 rfl w0 rfl ?_; intro w1 hM1 hg1)
    | (refine ⟨trivial, ?_⟩; gi_at_call 88; (refine (callsIn_wide.2 (counted_any _ _ _ _)).mono ?_); rintro e w' ⟨rfl, rfl⟩))
  obtain ⟨B1, hB1⟩ : ∃ B1, w1.heap.size = B1 := ⟨_, rfl⟩
  have hnB : w.heap.size < B1 := by have := hg1.size; simp at this; omega
  have b3 := (Boxed.new w1 109 (.map (some w.heap.size))).alloc (.cells #[.slice a k c] 23)
  have b5 := Boxed.new (w1.alloc (.cells #[.map (some w.heap.size)] 109)) 23 (.slice a k c)
  have hM0 := ((hM1.alloc (.cells #[.map (some w.heap.size)] 109)).alloc (.cells #[.slice a k c] 23)).same (U' := uF []) (V' := vF []) (K' := kF []) (fun j => by simp [uF]) (fun j => by simp [vF]) (fun j => by simp [kF])
  have hB0 : Below w.heap.size w ((w1.alloc (.cells #[.map (some w.heap.size)] 109)).alloc (.cells #[.slice a k c] 23)) :=
    ((((Below.refl _ w).alloc (Nat.le_refl _) _).grown hg1 (by simp) (fun k e => by cases e; exact Nat.le_refl _)).alloc (by omega) _).alloc (by simp; omega) _
  have hsz : ((w1.alloc (.cells #[.map (some w.heap.size)] 109)).alloc (.cells #[.slice a k c] 23)).heap.size = B1 + 2 := by simp [hB1]
  simp only [World.size_alloc] at b3 b5
  rw [hB1] at b3 b5 ⊢
  obtain ⟨W0, hW0⟩ : ∃ W0, ((w1.alloc (.cells #[.map (some w.heap.size)] 109)).alloc (.cells #[.slice a k c] 23)) = W0 := ⟨_, rfl⟩
  rw [hW0] at b3 b5 hM0 hB0 hsz ⊢
  clear hW0 hM1 hg1 hB1 hmm
  have hseq := counted_go (n - 1) (by omega) xs a k c (B1 + 1) w W0 hn h hB0 (by omega) b5.cell
  refine wpIn_rangeFunc_ownH rfl h1n (gf := 102) (lb := #[.pointer (some ⟨B1 + 1, 0, none⟩)]) rfl trivial (enters_of Try.func102 (by kernel_rfl) rfl)
    hseq belowK_t (belowK_b (by omega)) (Below.refl _ _) (fun _ => rfl)
    (BenI w B1)
    (fun _ _ _ => False)
    (by rw [hsz]; exact BenI.own w B1 hnB)
    (fun _ _ _ _ _ hs _ _ => hs)
    ⟨⟨1, by simp, hM0⟩, b3, hB0, by omega⟩
    (fun x a' W => ∃ Bx, B1 + 2 ≤ Bx ∧ Box W Bx #[eU x.1.f, eU x.1.l, eU x.1.r] 25 ∧ a' = { tmps := #[.slice a k c, undef, .map none, .pointer (some ⟨B1, 0, none⟩), .pointer (some ⟨Bx, 0, none⟩), undef, undef, .map (some w.heap.size), .agg #[eU 0, eU 0], .map (some w.heap.size), .slice a k c, .func (.func 102) #[] #[.pointer (some ⟨B1 + 1, 0, none⟩)], cvV x.1, undef, undef, undef, undef, undef, undef, undef, undef, undef, undef, undef, undef, undef, undef, undef, undef, undef, undef, undef, undef, undef, undef, undef, undef, undef, undef, undef, undef, undef, undef, undef], defers := [] })
    (fun x a' _ X Y row hs hg hr => by obtain ⟨Bx, h1, h2, h3⟩ := hs; exact ⟨Bx, h1, box_own Bx 25 _ () X Y row h2 hg (fun r e => (hr r e).2), h3⟩)
    ?assign ?body ?done ?stop
  case assign =>
    rintro l0 pre x W K ⟨⟨nn, hnn, hM⟩, hb, hw, hz⟩ hK
    unfold cvV
    gi_wp2
    exact hK _ _ ((KeepsOthers.alloc _ _).from _) ((Below.refl _ W).alloc hw.size _) ⟨⟨nn, hnn, hM.alloc _⟩, hb.alloc _, hw.alloc hw.size _, by simp; omega⟩ ⟨W.heap.size, by omega, Box.new W 25 _, rfl⟩
  case done =>
    rintro D zs W hD rfl ⟨⟨nn, hnn, hM⟩, hb, hw, hz⟩ hK
    have cM := hb.cell
    have hlen : (cntW xs).length ≤ xs.length := List.length_filter_le _ _
    gi_wp2
    refine ⟨by simp, .inl ⟨_, _, rfl, run_takeDeferred hK, ?_⟩⟩
    exact ⟨_, results_tmp rfl _ _ _, rfl, ⟨nn, by omega, hM.kept (grownBy_putObj' W D _) (fun e => by cases e; omega)⟩, hw.trans (belowK_b (w := w) (Nat.le_refl _) W D _ _ (by omega) hK rfl rfl), by simp; omega⟩
  case stop =>
    rintro D c pre W _ _ h _
    exact h.elim
  case body =>
    rintro l0 pre ⟨⟨f, ll, r⟩, hcw⟩ a' W hl ⟨rr, hr⟩ ⟨⟨nn, hnn, hM⟩, hb, hw, hz⟩ ⟨Bx, hBx, bX, rfl⟩ hlt
    dsimp only at bX
    obtain ⟨x0, x1, x2, x3⟩ := bX.tri
    have hlW : Word ll := hcw.2.1
    have cT := hb.cell
    have k1 : nn ≤ 5000 := by omega
    have k2 : nn + 1 ≤ 5000 := by omega
    have k3 : nn + 1 + 1 ≤ 1 + 2 * (pre ++ [(⟨⟨f, ll, r⟩, hcw⟩ : CW)]).length := by simp; omega
    obtain ⟨u0, eu0⟩ : ∃ u0, uF (unW pre) 0 = u0 := ⟨_, rfl⟩
    obtain ⟨v0, ev0⟩ : ∃ v0, vF (unW pre) 0 = v0 := ⟨_, rfl⟩
    obtain ⟨a1, g1⟩ : ∃ a1, IntKind.u64.wrap (u0 + f) = a1 := ⟨_, rfl⟩
    obtain ⟨u1, eu1⟩ : ∃ u1, (if ll = 0 then a1 else uF (unW pre) ll) = u1 := ⟨_, rfl⟩
    obtain ⟨v1, ev1⟩ : ∃ v1, (if ll = 0 then v0 else vF (unW pre) ll) = v1 := ⟨_, rfl⟩
    obtain ⟨a2, g2⟩ : ∃ a2, IntKind.u64.wrap (u1 + r) = a2 := ⟨_, rfl⟩
    obtain ⟨d2, g3⟩ : ∃ d2, IntKind.u64.wrap (v1 + f) = d2 := ⟨_, rfl⟩
    have fin : ∀ W' : World, MapB W' w.heap.size (nn + 1 + 1) (fun j => if j = ll then a2 else if j = 0 then a1 else uF (unW pre) j) (fun j => if j = ll then d2 else if j = 0 then v0 else vF (unW pre) j) (fun j => (kF (unW pre) j ∨ j = 0) ∨ j = ll) →
        ∃ nn', nn' ≤ 1 + 2 * (pre ++ [(⟨⟨f, ll, r⟩, hcw⟩ : CW)]).length ∧ MapB W' w.heap.size nn' (uF (unW (pre ++ [⟨⟨f, ll, r⟩, hcw⟩]))) (vF (unW (pre ++ [⟨⟨f, ll, r⟩, hcw⟩]))) (kF (unW (pre ++ [⟨⟨f, ll, r⟩, hcw⟩]))) := fun W' h' => by
      have eu : unW (pre ++ [⟨⟨f, ll, r⟩, hcw⟩]) = unW pre ++ [⟨f, ll, r⟩] := by simp [unW]
      rw [eu, uF_snoc, vF_snoc]
      refine ⟨_, k3, h'.same (fun j => ?_) (fun j => ?_) (fun j => ?_)⟩
      · simp only [stU, oneU, addW, eu0, g1, eu1, g2]
      · simp only [stV, oneV, addW, ev0, ev1, g3]
      · simp only [kF, List.mem_append, List.mem_singleton]
        constructor
        · rintro (((h | ⟨c, hc, e⟩) | h) | h)
          · exact .inl h
          · exact .inr ⟨c, .inl hc, e⟩
          · exact .inl h
          · exact .inr ⟨_, .inr rfl, h.symm⟩
        · rintro (h | ⟨c, hc | rfl, e⟩)
          · exact .inl (.inl (.inl h))
          · exact .inl (.inl (.inr ⟨c, hc, e⟩))
          · exact .inr e.symm
    have hfin := Lib.hid fin
    have hu1 := Lib.hid eu1
    have hv1 := Lib.hid ev1
    have hu0 := Lib.hid eu0
    have hv0 := Lib.hid ev0
    clear fin eu1 ev1 eu0 ev0 k3 hlt
    have n1 : w.heap.size ≠ W.heap.size := by have := hM.lt; omega
    have n2 : Bx ≠ w.heap.size := by omega
    have n3 : B1 ≠ w.heap.size := by omega
    have n4 : w.heap.size < B1 + 2 := by omega
    have n5 : w.heap.size ≤ W.heap.size := hw.size
    have z0 := hb.lt
    gi_wp2_with (first
      | (refine look_b rfl _ _ rfl hM rfl 0 u0 v0 rfl w0 hu0.out hv0.out ?_)
      | (refine upd_b rfl _ _ _ (.inl rfl) (hM.alloc _) k1 rfl 0 a1 v0 rfl w0 rfl ?_
         intro w1 hM3 hg1
         have b1 : Boxed w1 B1 109 (.map (some w.heap.size)) := stepB (x := #[.map (some w.heap.size)]) hb n3 hg1
         have bX1 := stepB bX n2 hg1
         obtain ⟨y0, y1, y2, y3⟩ := bX1.tri
         have cT1 := b1.cell
         have z1 := b1.lt)
      | (refine look_b rfl _ _ rfl hM3 rfl ll u1 v1 rfl hlW hu1.out hv1.out ?_)
      | (refine upd_b rfl _ _ _ (.inl rfl) (hM3.alloc _) k2 rfl ll a2 d2 rfl hlW rfl ?_
         intro w2 hM4 hg2))
    have E1 : KeepsFrom W0.heap.size W w1 := ((KeepsOthers.alloc W _).from _).trans (KeepsFrom.of_grownBy hg1 (fun j e => by cases e; omega))
    have E2 : KeepsFrom W0.heap.size w1 w2 := ((KeepsOthers.alloc w1 _).from _).trans (KeepsFrom.of_grownBy hg2 (fun j e => by cases e; omega))
    have F1 : Below w.heap.size W w1 := ((Below.refl _ W).alloc n5 _).grown hg1 (Nat.le_trans n5 (up1 W _).size) (fun k e => by cases e; exact Nat.le_refl _)
    have n7 : w.heap.size ≤ w1.heap.size := Nat.le_trans n5 F1.size
    have F2 : Below w.heap.size w1 w2 := ((Below.refl _ w1).alloc n7 _).grown hg2 (Nat.le_trans n7 (up1 w1 _).size) (fun k e => by cases e; exact Nat.le_refl _)
    exact ⟨E1.trans E2, F1.trans F2, hfin.out w2 hM4, stepB b1 n3 hg2, hw.trans (F1.trans F2), Nat.le_trans hz (F1.trans F2).size⟩
end Go.Proofs.Ytjbpaapglamilaa

namespace Go.Proofs.Ytjbpaapglamilaa
open Go.RowKit Go.Shelf Go.Maps W
set_option linter.unusedVariables false
attribute [local go_sem] Oper.semAt_some
theorem len_sub : ∀ (ss l : List Int), ss.Nodup → (∀ x ∈ ss, x ∈ l) → ss.length ≤ l.length
  | [], _, _, _ => Nat.zero_le _
  | x :: ss, l, hn, h => by
    obtain ⟨h1, h2⟩ := List.nodup_cons.1 hn
    have hx := h x (by simp)
    have := len_sub ss (l.erase x) h2 (fun y hy => (List.mem_erase_of_ne (fun e : y = x => h1 (by rw [← e]; exact hy))).2 (h y (by simp [hy])))
    rw [List.length_erase_of_mem hx] at this
    have := List.length_pos_of_mem hx
    simp; omega
theorem kF_len {pre : List Cv} {ss : List Int} (hn : ss.Nodup) (h : ∀ x ∈ ss, kF pre x) : ss.length ≤ pre.length + 1 := by
  have := len_sub ss (0 :: pre.map (·.l)) hn (fun x hx => by
    rcases h x hx with h0 | ⟨c, hc, e⟩
    · simp [h0]
    · exact List.mem_cons_of_mem _ (List.mem_map.2 ⟨c, hc, e⟩))
  simpa using this
theorem kF_word {pre : List Cv} (hw : ∀ c ∈ pre, c.word) {x : Int} (h : kF pre x) : Word x := by
  rcases h with rfl | ⟨c, hc, rfl⟩
  · exact w0
  · exact (hw c hc).2.1
theorem sorted_strict {ts ss : List Int} (hp : List.Perm ts ss) (hs : ss.Nodup) (h : ts.Pairwise (· ≤ ·)) : ts.Pairwise (· < ·) := by
  have hn : ts.Nodup := hp.nodup_iff.2 hs
  have := List.Pairwise.and h hn
  exact this.imp (fun {a b} h => by obtain ⟨h1, h2⟩ := h; omega)
theorem cnt_cok {xs : List Cv} (hw : ∀ c ∈ xs, c.word) {ts : List Int} (hp : ts.Pairwise (· < ·)) (hm : ∀ x, x ∈ ts ↔ kF (cnt xs) x) : Cok xs ts := by
  refine ⟨hp, fun x => ?_, ?_⟩
  · rw [hm x]
    constructor
    · rintro (h | ⟨c, hc, e⟩)
      · exact .inl h
      · by_cases h0 : x = 0
        · exact .inl h0
        · exact .inr ⟨c, cnt_mem hc, mayB_is.1 (cnt_may xs c hc), by rw [e]; exact h0, e⟩
    · rintro (h | ⟨c, hc, h1, h2, h3⟩)
      · exact .inl h
      · exact .inr ⟨c, List.mem_filter.2 ⟨hc, mayB_is.2 h1⟩, h3⟩
  · have h0 : (0 : Int) ∈ ts := (hm 0).2 (.inl rfl)
    have hnn : ∀ x ∈ ts, 0 ≤ x := fun x hx => (kF_word (fun c hc => hw c (cnt_mem hc)) ((hm x).1 hx)).1
    cases ts with
    | nil => cases h0
    | cons y ys =>
      rcases List.mem_cons.1 h0 with h | h
      · rw [← h]; rfl
      · have h1 := (List.pairwise_cons.1 hp).1 0 h
        have h2 := hnn y (by simp)
        omega
set_option maxHeartbeats 2000000 in
theorem keys_sorted (m : Nat) (hsort : SortU m) (n : Nat) (hn : 5 ≤ n) (pre : List Cv) (hpw : ∀ c ∈ pre, c.word) (hpl : pre.length + 1 ≤ m) (b Bm nn : Nat) (hnn : nn ≤ 1000) (U V : Int → Int) (K : Int → Prop) (hK : ∀ x, K x → kF pre x) (w : World) (hM : MapB w b nn U V K) (hBm : Bm < w.heap.size) (hm : w.cell? ⟨Bm, 0, none⟩ = some (.map (some b))) :
    CallsIn Fence.wide n Try.prog 69 #[.func (.func 91) #[] #[.pointer (some ⟨Bm, 0, none⟩)]] w fun e W' => ∃ (v : Value) (ts : List Int), e = .returned v ∧ ts.Pairwise (· < ·) ∧ (∀ x, x ∈ ts ↔ K x) ∧ W'.ownsRow w.heap.size 22 1 v ts.length (ts.map eU) ∧ Below w.heap.size w W' := by
  obtain ⟨D, hD, hsz, hhas⟩ := hM.size
  have hseq := keys_go (n - 1 - 1 - 1) (by omega) Bm b nn D bE w hBm hD.lt hm hD
  refine (sorted_go m hsort n 91 hn _ (enters_of Try.func91 (by kernel_rfl) rfl) _ _ _ (Nat.le_trans hsz hnn) w hseq ?_).mono ?_
  · rintro ss ⟨hnd, hmem⟩
    have hk : ∀ x ∈ ss, kF pre x := fun x hx => hK x ((hhas x).1 ((hmem x).1 hx))
    exact ⟨Nat.le_trans (kF_len hnd hk) hpl, fun x hx => kF_word hpw (hk x hx)⟩
  · rintro e W' ⟨v, ss, ts, rfl, ⟨hnd, hmem⟩, hp, hs, hrow, hb⟩
    exact ⟨v, ts, rfl, sorted_strict hp hnd hs, fun x => (hp.mem_iff).trans ((hmem x).trans (hhas x)), hrow, hb⟩
end Go.Proofs.Ytjbpaapglamilaa
