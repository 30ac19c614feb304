/-
  Proved: QueueNone, from its walk. No condition.
-/
import Derived.Test.YtlfpaebfpmjclaaRows
import Derived.Test.YtlfpaebfpmjclaaQP
import Derived.WalkKit
import Derived.ProofKit
import Derived.OpenShut
import Derived.ShutString
import Derived.ChangeOld
import Derived.Lib.SmallJoins
import Derived.Below
import Derived.Carry
namespace Go.Proofs.Ytlfpaebfpmjclaa.queueNone
open Go.ChangeShapes Go.WideShapes Go.ChangeAt Go.RowKit Go.Joins
set_option linter.unusedVariables false
theorem own : ownKnob Try.prog.godebug = none := by kernel_rfl
theorem laidOut : laidOutB Try.prog = true := by kernel_rfl
theorem cellsP : Try.prog.cellsOf 31 = 4 := by kernel_rfl
set_option maxRecDepth 100000 in
theorem lifted (os : Os) (started : os.Started) (H : Type) (enc : TypeId × Value → H) :
    ReturnsInHanded {} Try.checked os 4 .any (Rows.queueNoneSpec.pre6 enc Try.prog Try.f4 Rows.queueNoneRow.domain false) (Rows.queueNoneSpec.post enc Try.prog Try.f4 false true false false) := by
  refine returnsInHanded_of_change (C := Try.checked) own started (by kernel_rfl) Try.func4
    (ChangeSpec.witness6 (enc := enc) (C := Try.checked) false ⟨#[], #[.agg #[.int .u64 0, .int .i64 0, .int .i64 0, .int .u64 0]], []⟩ 8 (by kernel_rfl) (by kernel_rfl) (by kernel_rfl) (by kernel_rfl)) ?_
  intro V0 base args ds gs before hval0 hW hcnd _
  have hval : ∀ (j : Nat) t v, Try.f4.params[j]? = some t → args[j]? = some v → Value.okWide Try.prog V0 .any base t v := hval0
  have hW' := hW
  obtain ⟨p, q, hA0, hV, rfl, hfz, hnd⟩ := hW
  have hA : DataW.TrodAll enc Try.prog V0 0 (fun _ => true) true Try.f4.params.toList args.toList ds p := hA0
  rw [Try.params4] at hA hval
  obtain ⟨v0, vs0, d0, ds0, p0, q0, hargs, rfl, rfl, h0, r0⟩ := trodAll_cons hA
  obtain ⟨rfl, rfl, rfl⟩ := trodAll_nil r0
  obtain rfl : args = #[v0] := by cases args; simp_all
  obtain ⟨rfl, rfl⟩ := trodVars_none hV
  obtain ⟨c0a, c0b, c0c, c0d, y0a, y0b, y0c, y0d, m0, rfl, rfl, rfl, hy0a, hy0b, hy0c, hy0d⟩ := open_agg4 Try.underlying31 (by kernel_rfl) cellsP (hval 0 31 v0 rfl rfl) h0
  obtain ⟨aq0, e0a, rfl, wa0⟩ := DataW.trod_int Try.underlying29 hy0a
  obtain ⟨bq0, e0b, rfl, wb0⟩ := DataW.trod_int Try.underlying3 hy0b
  obtain ⟨cq0, e0c, rfl, wc0⟩ := DataW.trod_int Try.underlying3 hy0c
  obtain ⟨dq0, e0d, rfl, wd0⟩ := DataW.trod_int Try.underlying29 hy0d
  simp at e0a e0b e0c e0d
  subst e0a e0b e0c e0d
  clear hA0 hval0
  simp only [List.append_nil] at hW'
  have pks : ∀ (W' : World) (sp : Nat → Bool) (x y z t : Int), (Lit.int .u64 x).wf = true → (Lit.int .i64 y).wf = true → (Lit.int .i64 z).wf = true → (Lit.int .u64 t).wf = true → DataW.Trod enc Try.prog W' 0 sp true 31 (.agg #[.int .u64 x, .int .i64 y, .int .i64 z, .int .u64 t]) (.agg [.lit (.int .u64 x), .lit (.int .i64 y), .lit (.int .i64 z), .lit (.int .u64 t)]) [] := fun W' sp x y z t wx wy wz wt =>
    shut_agg4 (y0 := (.lit (.int .u64 x), [])) (y1 := (.lit (.int .i64 y), [])) (y2 := (.lit (.int .i64 z), [])) (y3 := (.lit (.int .u64 t), [])) Try.underlying31 (by kernel_rfl) cellsP ⟨1, by simp [DataW.trod, Try.underlying29, wx]⟩ ⟨1, by simp [DataW.trod, Try.underlying3, wy]⟩ ⟨1, by simp [DataW.trod, Try.underlying3, wz]⟩ ⟨1, by simp [DataW.trod, Try.underlying29, wt]⟩
  refine (QueueNone_walk ⟨aq0, bq0, cq0, dq0⟩ V0 ⟨pk_u64 wa0, pk_i64 wb0, pk_i64 wc0, pk_u64 wd0⟩).mono fun e W' ⟨he, hg⟩ => ?_
  subst he
  exact ⟨_, rfl, _, _, _, [], _, [], hW', trodAll_mk1 (shut_bool Try.underlying4 _), trodAll_cons_mk (pks _ _ aq0 bq0 cq0 dq0 wa0 wb0 wc0 wd0) (trodAll_mk0), rfl,
    hg.frame _, fun h => by cases h⟩
theorem over : Rows.queueNoneRow.holds Try.pinned (OpenSpec.ofChange Rows.queueNoneSpec) :=
  OpenClaim.holds_of_wide 4 Try.f4 rfl rfl rfl rfl rfl rfl rfl ⟨rfl, rfl, rfl, rfl, rfl⟩ rfl rfl rfl rfl rfl (by kernel_rfl) Try.func4 (by kernel_rfl)
    (of_decide_eq_true (by kernel_rfl)) (by unfold Func.isWrapper; first | (rw [if_pos (by decide +kernel)]; kernel_rfl) | (rw [if_neg (by decide +kernel)]; exact ⟨rfl, rfl⟩))
    (fun os started H enc _ => lifted os started H enc)
theorem proved : Rows.QueueNoneSaid :=
  over
#print axioms proved
end Go.Proofs.Ytlfpaebfpmjclaa.queueNone
