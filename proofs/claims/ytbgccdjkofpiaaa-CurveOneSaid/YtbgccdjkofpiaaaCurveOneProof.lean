/-
  Proved: CurveOne returns true for every two curves: those that may be, and have the same at corners and behind, are the same; the arguments read as before. No condition.
-/
import Derived.Test.YtbgccdjkofpiaaaRows
import Derived.Test.YtbgccdjkofpiaaaOneA
import Derived.WalkKit
import Derived.ProofKit
import Derived.OpenShut
import Derived.Lib.SmallJoins
namespace Go.Proofs.Ytbgccdjkofpiaaa.curveOne
open Go.ChangeShapes Go.WideShapes Go.ChangeAt Go.RowKit Go.Joins W
set_option linter.unusedVariables false


theorem own : ownKnob Try.prog.godebug = none := by kernel_rfl
theorem cellsC : Try.prog.cellsOf 24 = 3 := by kernel_rfl
set_option maxRecDepth 100000 in
theorem lifted (os : Os) (started : os.Started) (H : Type) (enc : TypeId × Value → H) :
    ReturnsInHanded {} Try.checked os 8 .any (Rows.curveOneSpec.pre6 enc Try.prog Try.f8 Rows.curveOneRow.domain false) (Rows.curveOneSpec.post enc Try.prog Try.f8 false true false false) := by
  refine returnsInHanded_of_change (C := Try.checked) own started (by kernel_rfl) Try.func8
    (ChangeSpec.witness6 (enc := enc) (C := Try.checked) false ⟨#[], #[.agg #[.int .u64 0, .int .u64 0, .int .u64 0], .agg #[.int .u64 0, .int .u64 0, .int .u64 0]], []⟩ 8 (by kernel_rfl) (by kernel_rfl) (by kernel_rfl) (by kernel_rfl)) ?_
  intro V0 base args ds gs before hval0 hW hcnd _
  have hval : ∀ (j : Nat) t v, Try.f8.params[j]? = some t → args[j]? = some v → Value.okWide Try.prog V0 .any base t v := hval0
  have hW' := hW
  obtain ⟨p, q, hA0, hV, rfl, hfz, hnd⟩ := hW
  have hA : DataW.TrodAll enc Try.prog V0 0 (fun _ => true) true Try.f8.params.toList args.toList ds p := hA0
  rw [Try.params8] at hA hval
  obtain ⟨v0, vs0, d0, ds0, p0, q0, hargs, rfl, rfl, h0, r0⟩ := trodAll_cons hA
  obtain ⟨v1, vs1, d1, ds1, p1, q1, rfl, rfl, rfl, h1, r1⟩ := trodAll_cons r0
  obtain ⟨rfl, rfl, rfl⟩ := trodAll_nil r1
  obtain rfl : args = #[v0, v1] := by cases args; simp_all
  obtain ⟨rfl, rfl⟩ := trodVars_none hV
  obtain ⟨c0a, c0b, c0c, y0a, y0b, y0c, m0, rfl, rfl, rfl, hy0a, hy0b, hy0c⟩ := open_agg3 Try.underlying24 (by kernel_rfl) cellsC (hval 0 24 v0 rfl rfl) h0
  obtain ⟨a0, e0a, rfl, wa0⟩ := DataW.trod_int Try.underlying22 hy0a
  obtain ⟨b0, e0b, rfl, wb0⟩ := DataW.trod_int Try.underlying22 hy0b
  obtain ⟨c0, e0c, rfl, wc0⟩ := DataW.trod_int Try.underlying22 hy0c
  simp at e0a e0b e0c
  subst e0a e0b e0c
  obtain ⟨c1a, c1b, c1c, y1a, y1b, y1c, m1, rfl, rfl, rfl, hy1a, hy1b, hy1c⟩ := open_agg3 Try.underlying24 (by kernel_rfl) cellsC (hval 1 24 v1 rfl rfl) h1
  obtain ⟨a1, e1a, rfl, wa1⟩ := DataW.trod_int Try.underlying22 hy1a
  obtain ⟨b1, e1b, rfl, wb1⟩ := DataW.trod_int Try.underlying22 hy1b
  obtain ⟨c1, e1c, rfl, wc1⟩ := DataW.trod_int Try.underlying22 hy1c
  simp at e1a e1b e1c
  subst e1a e1b e1c
  clear hA0 hval0
  simp only [List.append_nil] at hW'
  have curv : ∀ (W' : World) (sp : Nat → Bool) (x y z : Int), (Lit.int .u64 x).wf = true → (Lit.int .u64 y).wf = true → (Lit.int .u64 z).wf = true → DataW.Trod enc Try.prog W' 0 sp true 24 (.agg #[.int .u64 x, .int .u64 y, .int .u64 z]) (.agg [.lit (.int .u64 x), .lit (.int .u64 y), .lit (.int .u64 z)]) [] := fun W' sp x y z wx wy wz =>
    shut_agg3 (y0 := (.lit (.int .u64 x), [])) (y1 := (.lit (.int .u64 y), [])) (y2 := (.lit (.int .u64 z), [])) Try.underlying24 (by kernel_rfl) cellsC ⟨1, by simp [DataW.trod, Try.underlying22, wx]⟩ ⟨1, by simp [DataW.trod, Try.underlying22, wy]⟩ ⟨1, by simp [DataW.trod, Try.underlying22, wz]⟩
  refine (CurveOne_walk a0 b0 c0 a1 b1 c1 (word_of wa0) (word_of wb0) (word_of wc0) (word_of wa1) (word_of wb1) (word_of wc1) V0).mono fun e W' ⟨he, hg⟩ => ?_
  subst he
  exact ⟨_, rfl, _, _, _, [], [], [], hW', trodAll_cons_mk (shut_bool Try.underlying4 _) trodAll_mk0, trodAll_cons_mk (curv _ _ a0 b0 c0 wa0 wb0 wc0) (trodAll_cons_mk (curv _ _ a1 b1 c1 wa1 wb1 wc1) (trodAll_mk0)), rfl,
    hg.frame _, fun h => by cases h⟩

theorem over : Rows.curveOneRow.holds Try.pinned (OpenSpec.ofChange Rows.curveOneSpec) :=
  OpenClaim.holds_of_wide 8 Try.f8 rfl rfl rfl rfl rfl rfl rfl ⟨rfl, rfl, rfl, rfl, rfl⟩ rfl rfl rfl rfl rfl (by kernel_rfl) Try.func8 (by kernel_rfl)
    (of_decide_eq_true (by kernel_rfl)) (by unfold Func.isWrapper; first | (rw [if_pos (by decide +kernel)]; kernel_rfl) | (rw [if_neg (by decide +kernel)]; exact ⟨rfl, rfl⟩))
    (fun os started H enc _ => lifted os started H enc)

theorem proved : Rows.CurveOneSaid :=
  over
#print axioms proved
end Go.Proofs.Ytbgccdjkofpiaaa.curveOne
