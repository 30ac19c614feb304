/- A curve's word and a spec's text, as the program answers them. Condition: the library's tables and errors are laid; the numbers are what the fields can hold. -/
import Derived.Test.YtkcmfcgoknhodaaGreatDoorSpA
import Derived.OwnWalk
import Derived.RegionTactic
import Derived.Laws.EntriesVeiled
import Derived.Deep.RegionHeld3
import Derived.Deep.CutRange
namespace Go.Proofs.YtkcmfcgoknhodaaGreatDoor
open Go.RowKit Go.Lib W
set_option linter.unusedVariables false
theorem unD {w w' : World} (h : Below w.drew.heap.size w.drew w') : Below w.heap.size w w' := ((Below.refl _ w).drew).trans h
theorem unDN {w w' : World} {n : Nat} (h : Below (w.drewN n).heap.size (w.drewN n) w') : Below w.heap.size w w' := (below_drewN (Below.refl _ w) n).trans h
/-- Block B is a block of those values. -/
def Bl (W : World) (B : Nat) (vs : Array Value) (t : TypeId) : Prop := W.heap[B]? = some (.cells vs t (0, 0))
theorem Bl.lt {W : World} {B : Nat} {t : TypeId} {v : Array Value} (h : Bl W B v t) : B < W.heap.size := (Array.getElem?_eq_some_iff.1 h).1
theorem Bl.new (W : World) (t : TypeId) (v : Array Value) : Bl (W.alloc (.cells v t)) W.heap.size v t := heap_alloc_new W _
theorem Bl.alloc {W : World} {B : Nat} {t : TypeId} {v : Array Value} (h : Bl W B v t) (o : Obj) : Bl (W.alloc o) B v t := (Below.heap_alloc W o B h.lt).trans h
theorem Bl.below {W w : World} {B : Nat} {t : TypeId} {v : Array Value} (h : Bl W B v t) (hb : Below W.heap.size W w) : Bl w B v t := (hb.block B h.lt).trans h
theorem Bl.cell {W : World} {B : Nat} {vs : Array Value} {t : TypeId} (h : Bl W B vs t) (i : Nat) : W.cell? ⟨B, i, none⟩ = vs[i]? := by
  have e : W.heap[B]? = some (.cells vs t (0, 0)) := h
  simp [World.cell?, e]
theorem Bl.thaw {W : World} {B : Nat} {vs : Array Value} {t : TypeId} (h : Bl W B vs t) (i : Nat) : W.frozen? ⟨B, i, none⟩ = false := by
  have e : W.heap[B]? = some (.cells vs t (0, 0)) := h
  simp [World.frozen?, e]
theorem add_of (x y : List UInt8) (hx : x.length ≤ 1000) (hy : y.length ≤ 1000) : ∀ W, (Op.stringOp .add (⟨x.toArray⟩ : ByteArray) ⟨y.toArray⟩).run Tryz.prog W = .ok (.string ⟨(x ++ y).toArray⟩) W := fun W => by
  have h := run_string_add_sum (P := Tryz.prog) (w := W) (⟨x.toArray⟩ : ByteArray) ⟨y.toArray⟩ (by simp [ByteArray.size]; omega)
  rw [h]
  congr 2
abbrev cwA (c : Cw) : Array Value := #[.int .u64 c.f, .int .u64 c.l, .int .u64 c.r]
set_option maxHeartbeats 4000000 in
set_option maxRecDepth 100000 in
theorem wordS_of (f l r : Int) (a0 a1 a2 D1 D2 D3 D4 : ByteArray) (w : World)
    (h0 : ∀ w, Lw w → Calls Tryz.prog 34 #[.int .u64 f] w fun e w' => e = .returned (.string a0) ∧ Below w.heap.size w w')
    (h1 : ∀ w, Lw w → Calls Tryz.prog 34 #[.int .u64 l] w fun e w' => e = .returned (.string a1) ∧ Below w.heap.size w w')
    (h2 : ∀ w, Lw w → Calls Tryz.prog 34 #[.int .u64 r] w fun e w' => e = .returned (.string a2) ∧ Below w.heap.size w w')
    (k1 : ∀ W, (Op.stringOp .add a0 (⟨#[47]⟩ : ByteArray)).run Tryz.prog W = .ok (.string D1) W)
    (k2 : ∀ W, (Op.stringOp .add D1 a1).run Tryz.prog W = .ok (.string D2) W)
    (k3 : ∀ W, (Op.stringOp .add D2 (⟨#[47]⟩ : ByteArray)).run Tryz.prog W = .ok (.string D3) W)
    (k4 : ∀ W, (Op.stringOp .add D3 a2).run Tryz.prog W = .ok (.string D4) W) (hl : Lw w) :
    Calls Tryz.prog 19 #[.agg #[.int .u64 f, .int .u64 l, .int .u64 r]] w fun e w' => e = .returned (.string D4) ∧ Below w.heap.size w w' := by
  have B := Bl.new w 24 #[.int .u64 f, .int .u64 l, .int .u64 r]
  have T := up1 w (.cells #[.int .u64 f, .int .u64 l, .int .u64 r] 24)
  have L := hl.below T
  go_enter Tryz.func19, Tryz.ntmps19
  go_upto_region 1 with (fail)
  generalize w.alloc (.cells #[.int .u64 f, .int .u64 l, .int .u64 r] 24) = W1 at B T L ⊢
  have E := (Below.refl W1.heap.size W1).drew
  go_region_held3 (fun w' => w'.cell? ⟨w.heap.size, 0, none⟩ = some (.int .u64 f) ∧ w'.cell? ⟨w.heap.size, 1, none⟩ = some (.int .u64 l) ∧ w'.cell? ⟨w.heap.size, 2, none⟩ = some (.int .u64 r))
    (first | exact ⟨B.cell 0, B.cell 1, B.cell 2⟩ | exact ⟨(B.below E).cell 0, (B.below E).cell 1, (B.below E).cell 2⟩)
    (first
      | (go_at_call 34; (with_reducible refine (h0 _ (L.below E)).mono ?_); rintro e v1 ⟨rfl, hb⟩; replace E := sps E hb E.size; clear hb)
      | (go_at_call 34; (with_reducible refine (h1 _ (L.below E)).mono ?_); rintro e v2 ⟨rfl, hb⟩; replace E := sps E hb E.size; clear hb)
      | (go_at_call 34; (with_reducible refine (h2 _ (L.below E)).mono ?_); rintro e v3 ⟨rfl, hb⟩; replace E := sps E hb E.size; clear hb))
  all_goals
    go_wp2
    go_ret
    exact ⟨rfl, sps T E T.size⟩
theorem wordS_any (c : Cw) (h : c.ok) (w : World) (hl : Lw w) :
    Calls Tryz.prog 19 #[.agg #[.int .u64 c.f, .int .u64 c.l, .int .u64 c.r]] w fun e w' => e = .returned (.string (bs (wordT c))) ∧ Below w.heap.size w w' := by
  obtain ⟨w0, w1, w2⟩ := h
  have s0 := dec_short c.f.toNat (by have := w0.2; have := w0.1; omega)
  have s1 := dec_short c.l.toNat (by have := w1.2; have := w1.1; omega)
  have s2 := dec_short c.r.toNat (by have := w2.2; have := w2.1; omega)
  have e : wordT c = ((((decDigits c.f.toNat ++ [47]) ++ decDigits c.l.toNat) ++ [47]) ++ decDigits c.r.toNat) := by simp [wordT, partsT, gl]
  rw [e]
  exact wordS_of c.f c.l c.r _ _ _ _ _ _ _ w (fun w hl => digits_any c.f w0 w hl) (fun w hl => digits_any c.l w1 w hl) (fun w hl => digits_any c.r w2 w hl)
    (add_of (decDigits c.f.toNat) [47] (by omega) (by simp)) (add_of _ (decDigits c.l.toNat) (by simp; omega) (by omega)) (add_of _ [47] (by simp; omega) (by simp)) (add_of _ (decDigits c.r.toNat) (by simp; omega) (by omega)) hl
end Go.Proofs.YtkcmfcgoknhodaaGreatDoor
