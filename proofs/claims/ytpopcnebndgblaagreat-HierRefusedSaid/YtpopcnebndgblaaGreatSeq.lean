/- A loop over an iterator that keeps state of its own in cells: the law of such a loop, over a contract that lets the iterator turn whatever it has laid itself, and asks the rounds to leave that alone. -/
import Derived.Test.YtpopcnebndgblaaGreatGE
namespace Go.Proofs.YtpopcnebndgblaaGreat
open Go.RowKit Go.Shelf W
set_option linter.unusedVariables false
/-- A relation that abides every turn of a block at or behind B. -/
def AbidesAll {β : Type} (B : Nat) (J : β → World → Prop) : Prop :=
  ∀ s W W' row, J s W → W.grownBy W' row → (∀ r, row = some r → B ≤ r) → J s W'
/-- Nothing that lay below n₀ has turned, nor anything that lay at or behind B. -/
def Mid (n₀ B : Nat) (W W' : World) : Prop := Below n₀ W W' ∧ ∀ k, B ≤ k → k < W.heap.size → W'.heap[k]? = W.heap[k]?
theorem Mid.refl (n₀ B : Nat) (W : World) : Mid n₀ B W W := ⟨Below.refl _ _, fun _ _ _ => rfl⟩
theorem Mid.size {n₀ B : Nat} {X Y : World} (h : Mid n₀ B X Y) : X.heap.size ≤ Y.heap.size := h.1.size
theorem Mid.trans {n₀ B : Nat} {X Y Z : World} (h : Mid n₀ B X Y) (k : Mid n₀ B Y Z) : Mid n₀ B X Z :=
  ⟨h.1.trans k.1, fun i h1 h2 => (k.2 i h1 (Nat.lt_of_lt_of_le h2 h.size)).trans (h.2 i h1 h2)⟩
theorem Mid.later {n₀ B B' : Nat} {X Y : World} (h : Mid n₀ B X Y) (hB : B ≤ B') : Mid n₀ B' X Y := ⟨h.1, fun k h1 h2 => h.2 k (Nat.le_trans hB h1) h2⟩
theorem Mid.of_below {n₀ B : Nat} {X Y : World} (h : Below X.heap.size X Y) (hn : n₀ ≤ X.heap.size) : Mid n₀ B X Y := ⟨h.mono hn, fun k _ h2 => h.block k h2⟩
theorem Mid.alloc {n₀ B : Nat} (X : World) (hn : n₀ ≤ X.heap.size) (o : Obj) : Mid n₀ B X (X.alloc o) := Mid.of_below ((Below.refl _ X).alloc (Nat.le_refl _) o) hn
theorem Mid.put {n₀ B : Nat} (X : World) {b : Nat} (hn : n₀ ≤ b) (hb : b < B) (i : Nat) (v : Value) : Mid n₀ B X (X.setCell ⟨b, i, none⟩ v) :=
  ⟨(Below.refl _ X).setCell (p := ⟨b, i, none⟩) hn v, fun k h1 h2 => Below.heap_setCell _ _ _ k (by show k ≠ b; omega)⟩
/-- What has grown at a block between both is such a step. -/
theorem Mid.grown {n₀ B b : Nat} {X Y : World} (h : X.grownBy Y (some b)) (hn : n₀ ≤ b) (hX : n₀ ≤ X.heap.size) (hb : b < B) : Mid n₀ B X Y :=
  ⟨(Below.refl _ X).grown h hX (fun k e => by cases e; exact hn), fun k h1 h2 => h.block k h2 (fun e => by cases e; omega)⟩
theorem Mid.grown0 {n₀ B : Nat} {X Y : World} (h : X.grownBy Y none) (hX : n₀ ≤ X.heap.size) : Mid n₀ B X Y :=
  ⟨(Below.refl _ X).grown h hX (fun k e => by cases e), fun k h1 h2 => h.block k h2 (fun e => by cases e)⟩
theorem AbidesAll.alloc {β : Type} {B : Nat} {I : β → World → Prop} (h : AbidesAll B I) {s : β} {W : World} (o : Obj) (hs : I s W) : I s (W.alloc o) :=
  h s W _ none hs (World.grownBy_alloc W o none) (fun r e => by cases e)
theorem AbidesAll.put {β : Type} {B : Nat} {I : β → World → Prop} (h : AbidesAll B I) {s : β} {W : World} {l : Nat} (o : Obj) (hs : I s W) (hl : B ≤ l) : I s (W.putObj l o) :=
  h s W _ (some l) hs (grownBy_putObj' W l o) (fun r e => by cases e; exact hl)
theorem AbidesAll.and {β : Type} {B : Nat} {I J : β → World → Prop} (h : AbidesAll B I) (k : AbidesAll B J) : AbidesAll B (fun s W => I s W ∧ J s W) :=
  fun s W W' row hs hg hr => ⟨h s W W' row hs.1 hg hr, k s W W' row hs.2 hg hr⟩
theorem AbidesAll.below {β : Type} {B n₀ : Nat} {w : World} (hn : n₀ ≤ B) (hw : n₀ ≤ w.heap.size) : AbidesAll B (fun (_ : β) W => Below n₀ w W) :=
  fun _ W W' row hs hg hr => hs.grown hg (Nat.le_trans hw hs.size) (fun k e => Nat.le_trans hn (hr k e))
theorem AbidesAll.pure {β : Type} {B : Nat} (p : β → Prop) : AbidesAll B (fun s _ => p s) := fun _ _ _ _ hs _ _ => hs
theorem AbidesAll.size {β : Type} {B m : Nat} : AbidesAll B (fun (_ : β) W => m ≤ W.heap.size) := fun _ _ _ _ hs hg _ => Nat.le_trans hs hg.size
theorem AbidesAll.boxed {β : Type} {B b : Nat} (hb : b < B) (t : TypeId) (f : β → Value) : AbidesAll B (fun s W => Boxed W b t (f s)) :=
  fun s X Y row hs hg hr => hs.kept hg (fun e => by have := hr b e.symm; omega)
/-- A loop that an iterator drives which keeps state of its own in cells. -/
def SeqC {α : Type} (n : Nat) (g : Nat) (lb : Array Value) (encs : α → Array Value) (n₀ : Nat) (S Sp : List α → Prop) (Nx : List α → α → Prop) (w : World) : Prop :=
  ∀ (l : Nat) (J Jx : List α → World → Prop) (W : World), Below w.heap.size w W → AbidesAll W.heap.size J → AbidesAll W.heap.size Jx →
    (∀ pre x W1, W.heap.size ≤ W1.heap.size → J pre W1 → Nx pre x → YieldAt Fence.wide (n - 1) Tryz.prog l (encs x) W1 fun e W' =>
      (e = .returned (.bool true) ∧ J (pre ++ [x]) W' ∧ Mid n₀ W.heap.size W1 W') ∨ (e = .returned (.bool false) ∧ Jx (pre ++ [x]) W')) →
    J [] W →
    CallsIn Fence.wide n Tryz.prog g (#[.func (.yield l) #[] #[]] ++ lb) W fun e W' => (∃ v, e = .returned v) ∧ ((∃ xs, S xs ∧ J xs W') ∨ (∃ pre, Sp pre ∧ Jx pre W'))
/-- What a round's body owes at each way out. -/
def postC {α : Type} (n₀ B : Nat) (I : List α → World → Prop) (Ix : Code → List α → World → Prop) (xs : List α) (W : World) : Exit → Act → World → Prop
  | .normal, _, W' => Mid n₀ B W W' ∧ I xs W'
  | .ret, _, W' => Mid n₀ B W W' ∧ Ix .ret xs W'
  | .exit id, _, W' => Mid n₀ B W W' ∧ Ix (.exit id) xs W'
  | .goto t, _, W' => Mid n₀ B W W' ∧ Ix (.goto t) xs W'
  | .panic _, _, _ => False
  | .outgrown, _, _ => False
set_option maxHeartbeats 1000000 in
theorem loopC {α : Type} {n : Nat} {g : Operand} {ps : Array Tmp} {assign body : Code} {Q : Exit → Act → World → Prop} {a : Act} {w : World}
    (h1 : 1 ≤ n) {gf : Nat} {lb : Array Value} (hg : a.eval g = .func (.func gf) #[] lb) (eg : ∀ args w, (callFunc gf args).run Tryz.prog w = .ok (.enter gf args) w)
    {encs : α → Array Value} {n₀ : Nat} {S Sp : List α → Prop} {Nx : List α → α → Prop} (hn₀ : n₀ ≤ w.heap.size) (hseq : SeqC (n - 1) gf lb encs n₀ S Sp Nx w) (hps : ∀ x, (encs x).size = ps.size)
    (I : List α → World → Prop) (Ix : Code → List α → World → Prop) (hI : AbidesAll w.heap.size I) (hIx : ∀ c, AbidesAll w.heap.size (Ix c)) (h0 : I [] w)
    (Ax : α → Act → World → Prop) (hAx : ∀ x a', OwnFrom w.heap.size (fun (_ : Unit) W => Ax x a' W))
    (hassign : ∀ (l : Nat) (pre : List α) (x : α) (W : World) (K : Act → World → Prop), w.heap.size ≤ W.heap.size → I pre W → (∀ a' W', Mid n₀ w.heap.size W W' → I pre W' → Ax x a' W' → K a' W') →
      assign.wpIn (Fence.wide.inRound l) (n - 1 - 1) Tryz.prog (Exit.then K (fun _ _ _ => False)) { tmps := (ps.zip (encs x)).foldl (fun t (p, v) => t.setIfInBounds p v) a.tmps, defers := [] } W)
    (hbody : ∀ (l : Nat) (pre : List α) (x : α) (a' : Act) (W : World), w.heap.size ≤ W.heap.size → I pre W → Ax x a' W → Nx pre x → body.wpIn (Fence.wide.inRound l) (n - 1 - 1) Tryz.prog (postC n₀ w.heap.size I Ix (pre ++ [x]) W) a' W)
    (hdone : ∀ (D : Nat) (xs : List α) (W : World), w.heap.size ≤ D → S xs → I xs W → W.heap[D]? = some (.deferred (some [])) → Q .normal { a with defers := { target := .collected D, args := #[] } :: a.defers } W)
    (hstop : ∀ (D : Nat) (c : Code) (pre : List α) (W : World), w.heap.size ≤ D → Sp pre → Ix c pre W → W.heap[D]? = some (.deferred (some [])) → c.wpIn Fence.wide n Tryz.prog Q { a with defers := { target := .collected D, args := #[] } :: a.defers } W) :
    (Code.rangeFunc g ps assign body).wpIn Fence.wide n Tryz.prog Q a w := by
  refine wpIn_rangeFunc ?_
  intro fn hfn
  rw [show Fence.wide.round = none from rfl]
  obtain ⟨rec, hrec⟩ : ∃ rec : LoopState → Option Code → Loop, rec = fun st pe => { state := st, pending := pe, fn, tmps := a.tmps, params := ps, assign, body, defers := w.heap.size } := ⟨_, rfl⟩
  obtain ⟨B, hB⟩ : ∃ B, w.heap.size = B := ⟨_, rfl⟩
  obtain ⟨W1, hW1⟩ : ∃ W1, (w.alloc (.deferred (some []))).alloc (.loop (rec .ready none)) = W1 := ⟨_, rfl⟩
  have hs1 : W1.heap.size = B + 2 := by rw [← hW1, ← hB]; simp
  have hL1 : W1.heap[B + 1]? = some (.loop (rec .ready none)) := by
    rw [← hW1, ← hB]; have := World.alloc_heap_new (w.alloc (.deferred (some []))) (.loop (rec .ready none)); rwa [World.size_alloc] at this
  have hK1 : W1.heap[B]? = some (.deferred (some [])) := by
    rw [← hW1, ← hB]; exact (Below.heap_alloc _ _ _ (by simp)).trans (World.alloc_heap_new w _)
  have hb1 : Below w.heap.size w W1 := by
    rw [← hW1]; exact ((Below.refl _ w).alloc (Nat.le_refl _) _).alloc (by simp) _
  have hI1 : I [] W1 := by rw [← hW1]; exact hI.alloc _ (hI.alloc _ h0)
  have hent : (Instr.enterLoop fn a.tmps ps assign body none).run Tryz.prog w = (Instr.enterLoop fn a.tmps ps assign body none).run Tryz.prog w := rfl
  clear hent
  refine ⟨w.heap.size + 1, [{ target := .collected w.heap.size, args := #[] }], W1, { target := .fn (.func gf) lb, args := #[.func (.yield (w.heap.size + 1)) #[] #[]] }, W1, gf,
    #[.func (.yield (w.heap.size + 1)) #[] #[]] ++ lb, W1, ?_, ?_, ?_, ?_, fun _ => h1, ?_⟩
  · rw [← hW1, hrec]; exact run_enterLoop_outer _ _ _ _ _
  · simp only [resolve, hg]
    simp [go_sem]
  · intro f' hf'; simp [Target.leads] at hf'; subst hf'; trivial
  · simp [invoke, go_sem, eg]
  · rw [hB] at hI hIx hAx hassign hbody hdone hstop hn₀ ⊢
    have book : ∀ {X Y : World} {row : Option Nat} {k : Nat} {o : Obj}, X.grownBy Y row → (∀ r, row = some r → W1.heap.size ≤ r) → k < B + 2 → X.heap[k]? = some o → Y.heap[k]? = some o := fun {X Y row k o} hg' hr hk ho =>
      (hg'.block k (Array.getElem?_eq_some_iff.1 ho).1 (fun e => by have := hr k e.symm; omega)).trans ho
    have le1 : ∀ {row : Option Nat}, (∀ r, row = some r → W1.heap.size ≤ r) → ∀ r, row = some r → B ≤ r := fun h r e => by have := h r e; omega
    refine (hseq (B + 1)
      (fun pre W => I pre W ∧ W.heap[B + 1]? = some (.loop (rec .ready none)) ∧ W.heap[B]? = some (.deferred (some [])))
      (fun pre W => ∃ c, Ix c pre W ∧ W.heap[B + 1]? = some (.loop (rec .done (some c))) ∧ W.heap[B]? = some (.deferred (some [])))
      W1 hb1
      (fun s X Y row hs hg' hr => ⟨hI s X Y row hs.1 hg' (le1 hr), book hg' hr (by omega) hs.2.1, book hg' hr (by omega) hs.2.2⟩)
      (fun s X Y row hs hg' hr => by
        obtain ⟨c, hc, hl, hk⟩ := hs
        exact ⟨c, hIx c s X Y row hc hg' (le1 hr), book hg' hr (by omega) hl, book hg' hr (by omega) hk⟩)
      ?_ ⟨hI1, hL1, hK1⟩).mono ?_
    · rintro pre x W hsW ⟨hi, hl, hk⟩ hlen
      have hy := run_yield (P := Tryz.prog) (args := encs x) hl (by rw [hrec]; exact hps x)
      rw [hrec] at hy
      refine ⟨fn, _, assign, body, hy, roundIn_of_wpIn hfn (hassign _ pre x W _ (by omega) hi ?_)⟩
      clear hy
      intro a' Wa hma hia hax
      have hla : Wa.heap[B + 1]? = some (.loop (rec .ready none)) := (hma.2 _ (by omega) (by omega)).trans hl
      have hka : Wa.heap[B]? = some (.deferred (some [])) := (hma.2 _ (by omega) (by omega)).trans hk
      have hza := hma.size
      refine ⟨_, run_beginRound hla (by rw [hrec]), ?_⟩
      obtain ⟨Wb, hWb⟩ : ∃ Wb, Wa.putObj (B + 1) (.loop { rec .ready none with state := .busy }) = Wb := ⟨_, rfl⟩
      have hgb : Wa.grownBy Wb (some (B + 1)) := by rw [← hWb]; exact grownBy_putObj' _ _ _
      have hlb : Wb.heap[B + 1]? = some (.loop { rec .ready none with state := .busy }) := by rw [← hWb]; exact World.putObj_heap_same (by omega)
      have hkb : Wb.heap[B]? = some (.deferred (some [])) := (hgb.block B (by omega) (fun e => by cases e)).trans hka
      have hib : I pre Wb := hI _ _ _ _ hia hgb (fun r e => by cases e; omega)
      have haxb : Ax x a' Wb := hAx x a' () _ _ _ hax hgb (fun r e => by cases e; exact ⟨by omega, _, hla, rfl⟩)
      have hzb := hgb.size
      rw [hWb]
      clear hWb
      have hmb : Mid n₀ W1.heap.size Wa Wb := Mid.grown hgb (by omega) (by omega) (by omega)
      refine wpIn_mono (hbody _ pre x a' Wb (by omega) hib haxb hlen) ?_
      have fin : ∀ (jump : Option Code) (W3 : World), Mid n₀ B Wb W3 →
          (Instr.endRound (B + 1) jump).run Tryz.prog W3 = .ok (.bool jump.isNone) (W3.putObj (B + 1) (.loop (rec (if jump.isNone then .ready else .done) jump))) ∧
          (W3.putObj (B + 1) (.loop (rec (if jump.isNone then .ready else .done) jump))).heap[B + 1]? = some (.loop (rec (if jump.isNone then .ready else .done) jump)) ∧
          (W3.putObj (B + 1) (.loop (rec (if jump.isNone then .ready else .done) jump))).heap[B]? = some (.deferred (some [])) ∧
          Mid n₀ W1.heap.size W3 (W3.putObj (B + 1) (.loop (rec (if jump.isNone then .ready else .done) jump))) := fun jump W3 hm3 => by
        have hz3 := hm3.size
        have hl3 := (hm3.2 _ (by omega) (by omega)).trans hlb
        have hk3 := (hm3.2 _ (Nat.le_refl _) (by omega)).trans hkb
        have := run_endRound (P := Tryz.prog) jump hl3
        rw [hrec] at this ⊢
        exact ⟨this, World.putObj_heap_same (by omega), (World.putObj_heap_other (by omega)).trans hk3, Mid.grown (grownBy_putObj' _ _ _) (by omega) (by omega) (by omega)⟩
      rintro e a3 W3 hp
      cases e with
      | normal =>
        obtain ⟨hm3, hi3⟩ := hp
        obtain ⟨hr, hl4, hk4, hm4⟩ := fin none W3 hm3
        exact ⟨_, _, hr, .inl ⟨rfl, ⟨hI.put _ hi3 (by omega), hl4, hk4⟩, (((hma.later (by omega)).trans hmb).trans (hm3.later (by omega))).trans hm4⟩⟩
      | ret =>
        obtain ⟨hm3, hi3⟩ := hp
        obtain ⟨hr, hl4, hk4, _⟩ := fin (some .ret) W3 hm3
        exact ⟨_, _, hr, .inr ⟨rfl, .ret, (hIx _).put _ hi3 (by omega), hl4, hk4⟩⟩
      | exit id =>
        obtain ⟨hm3, hi3⟩ := hp
        obtain ⟨hr, hl4, hk4, _⟩ := fin (some (.exit id)) W3 hm3
        exact ⟨_, _, hr, .inr ⟨rfl, .exit id, (hIx _).put _ hi3 (by omega), hl4, hk4⟩⟩
      | goto t =>
        obtain ⟨hm3, hi3⟩ := hp
        obtain ⟨hr, hl4, hk4, _⟩ := fin (some (.goto t)) W3 hm3
        exact ⟨_, _, hr, .inr ⟨rfl, .goto t, (hIx _).put _ hi3 (by omega), hl4, hk4⟩⟩
      | panic ch => exact hp.elim
      | outgrown => exact hp.elim
    · rintro e W2 ⟨⟨v, rfl⟩, (⟨xs, hS, hi, hl, hk⟩ | ⟨pre, hSp, c, hi, hl, hk⟩)⟩
      · exact ⟨none, _, by have := run_endLoop (P := Tryz.prog) hl (by rw [hrec]; simp); rw [hrec] at this; exact this, hdone _ xs _ (Nat.le_refl _) hS (hI.put _ hi (by omega)) ((World.putObj_heap_other (by omega)).trans hk)⟩
      · exact ⟨some c, _, by have := run_endLoop (P := Tryz.prog) hl (by rw [hrec]; simp); rw [hrec] at this; exact this, hstop _ c pre _ (Nat.le_refl _) hSp ((hIx c).put _ hi (by omega)) ((World.putObj_heap_other (by omega)).trans hk)⟩
end Go.Proofs.YtpopcnebndgblaaGreat
