/- What the document's own Push and Pop answer and do. No condition but that the packet's numbers are what the fields can hold. -/
import Derived.Test.YtlfpaebfpmjclaaQR
namespace Go.Proofs.Ytlfpaebfpmjclaa
open Go.RowKit
set_option linter.unusedVariables false
/-- Packets that lie somewhere, appended onto a row that the call owns. -/
theorem wpList_flat {w : World} {ops : Array Oper} {rest : List Oper} {o : Oper} {a : Go.Act} {Q : Exit → Go.Act → World → Prop} (hgd : o.guard = none) (s x : Operand)
    (ho : o.op = .call { callee := .builtin .append, args := #[s, x], argTypes := #[42, 42] })
    (m : Nat) (v : Value) (X Y : List Pk) (hs : a.eval s = v) (hown : w.ownsRow m 31 4 v X.length (rowV X)) (ad : Addr) (k c : Nat) (hx : a.eval x = .slice (some ad) k c) (hk : Y.length = k) (hflat : ∀ j u, (rowV Y)[j]? = some u → w.cell? (ad.add j) = some u) (hl : X.length + k ≤ 5000) (hbase : m ≤ w.heap.size)
    (h : ∀ v' w', w'.ownsRow m 31 4 v' (X ++ Y).length (rowV (X ++ Y)) → w.grownBy w' v.ownBlock → (v'.ownBlock = v.ownBlock ∨ v'.ownBlock = some w.heap.size) → wpList Try.prog ops Q rest (a.put o.dst v') w') :
    wpList Try.prog ops Q (o :: rest) a w := by
  subst hk
  obtain ⟨i0, hi, hz0, hz1, hz2⟩ := info_parts infoP
  obtain ⟨v', w', hr, k2, k3, k4, k5⟩ := run_append_own_at (P := Try.prog) w m 42 o.type 31 i0 _ 4 32 Try.underlying42 hi hz0 hz1 hz2 rfl (by decide) v X.length (rowV X) hown ad Y.length c (rowV Y) (rowV_len Y) hflat (rowV_one Y) (by unfold maxLen; omega) (by omega) hbase
  rw [← rowV_append] at k2
  refine wpList_plain hgd fun K hK => ?_
  unfold Oper.wp execOp
  simp only [ho, resolve, invoke, builtin, Sem.run_bind, Sem.run_pure, Result.andThen_ok, List.map_toArray, List.map_cons, List.map_nil, hs, hx, hr]
  exact hK _ _ (h v' w' (by rw [List.length_append]; exact k2) k3 k5)
theorem own_empty {w : World} {g : Nat} (h : Box w g #[] 31) : w.ownsRow g 31 4 (.slice (some ⟨g, 0, none⟩) 0 0) ([] : List Pk).length (rowV []) :=
  ⟨rfl, .inr ⟨g, 0, #[], rfl, Nat.le_refl _, h, Nat.le_refl _, by decide, rfl, rfl⟩⟩
theorem Box.grown {W w : World} {B : Nat} {vs : Array Value} {t : TypeId} {row : Option Nat} (h : Box W B vs t) (g : W.grownBy w row) (hr : some B ≠ row) : Box w B vs t := (g.block B h.lt hr).trans h
section
variable {w w' : World} {B : Nat} {P R : Int} {L : List Pk} {v : Value}
theorem RPush_bad (p : Pk) (h : Rf w B P R L v) (hp : p.len < 1 ∨ 65535 < p.len) : Calls Try.prog 16 #[.pointer (some ⟨B, 0, none⟩), pkV p] w fun e w' => e = .returned (eI 100) ∧ Below w.heap.size w w' := by
  have T := up1 w (.cells (pkC p) 31)
  have hM := fun w => RMay_any p 65535 w
  rw [mayN_len (by omega) (by omega)] at hM
  clear h hp
  go_enter Try.func16, Try.ntmps16
  go_wp2_with (go_at_call 31; (with_reducible refine (hM _).mono ?_); rintro e w2 ⟨rfl, hb⟩)
  go_ret
  exact ⟨rfl, ups T hb T.size⟩
theorem RPush_full (p : Pk) (h : Rf w B P R L v) (hp : ¬ (p.len < 1 ∨ 65535 < p.len)) (hF : P ≤ (L.length : Int) ∨ R < bsum L + p.len) : Calls Try.prog 16 #[.pointer (some ⟨B, 0, none⟩), pkV p] w fun e w' => e = .returned (eI 110) ∧ Below w.heap.size w w' := by
  have T := up1 w (.cells (pkC p) 31)
  have bp := Box.new w 31 (pkC p)
  have H := h.below T
  have hM := fun w => RMay_any p 65535 w
  rw [mayN_ok (by omega) (by omega)] at hM
  have hBy : ∀ w', Below (w.alloc (.cells (pkC p) 31)).heap.size (w.alloc (.cells (pkC p) 31)) w' → Calls Try.prog 27 #[.pointer (some ⟨B, 0, none⟩)] w' fun e w2 => e = .returned (eI (bsum L)) ∧ w2 = w' := fun w' hb => (RBytes_any (H.below hb)).mono fun e w2 ⟨x, y⟩ => ⟨x, y.symm⟩
  by_cases h0 : P ≤ (L.length : Int)
  · have j1 : decide (P ≤ (L.length : Int)) = true := by simp [h0]
    clear hF hp hBy h
    go_enter Try.func16, Try.ntmps16
    go_upto_region 3 with (go_at_call 31; (with_reducible refine (hM _).mono ?_); rintro e w2 ⟨rfl, hb⟩; have H2 := H.below hb; have bp2 := bp.below hb)
    obtain ⟨a, cap, rfl, _, _⟩ := own_len H2.row
    obtain ⟨c0, c1, c2⟩ := H2.cells
    obtain ⟨_, _, _, _, _, _, _, _⟩ := bp2.four
    go_quiet (fail)
    all_goals go_wp2
    all_goals go_ret
    all_goals exact ⟨rfl, by first | exact (ups T hb T.size).drew | exact below_drewN (ups T hb T.size) _⟩
  · have j1 : decide (P ≤ (L.length : Int)) = false := by simp; omega
    have f1 := h.fit.bytes
    have f2 := h.fit.room
    have f3 := h.big.2
    have j2 : IntKind.i64.wrap (bsum L + p.len) = bsum L + p.len := i64_id (by omega)
    have j3 : R < bsum L + p.len := by omega
    have j4 : decide (R < bsum L + p.len) = true := by simp [j3]
    clear hF hp h f1 f2 f3
    go_enter Try.func16, Try.ntmps16
    go_upto_region 3 with (go_at_call 31; (with_reducible refine (hM _).mono ?_); rintro e w2 ⟨rfl, hb⟩; have H2 := H.below hb; have bp2 := bp.below hb)
    obtain ⟨a, cap, rfl, _, _⟩ := own_len H2.row
    obtain ⟨c0, c1, c2⟩ := H2.cells
    obtain ⟨_, _, _, _, _, _, _, _⟩ := bp2.four
    go_quiet (first | (go_at_call 27; refine Calls.quiet_of_same (hBy _ (below_drewN hb _))))
    all_goals go_wp2
    all_goals go_ret
    all_goals exact ⟨rfl, by first | exact (ups T hb T.size).drew | exact below_drewN (ups T hb T.size) _⟩
end
end Go.Proofs.Ytlfpaebfpmjclaa
