/-
  Proved: What is spare beside curves, by any rate, and whether a curve is below another one, is what the document says. No condition.
-/
import Derived.Test.YtmhmoebdojkbpaaRows
import Derived.Test.YtmhmoebdojkbpaaSpW2
import Derived.WalkKit
import Derived.ProofKit
import Derived.OpenShut
import Derived.ShutString
import Derived.ChangeOld
import Derived.Lib.SmallJoins
import Derived.Below
namespace Go.Proofs.Ytmhmoebdojkbpaa.sumsSpare
open Go.ChangeShapes Go.WideShapes Go.ChangeAt Go.RowKit Go.Joins W
set_option linter.unusedVariables false


theorem own : ownKnob Try.prog.godebug = none := by kernel_rfl
theorem cellsC : Try.prog.cellsOf 31 = 3 := by kernel_rfl
theorem laidOut : laidOutB Try.prog = true := by kernel_rfl
set_option maxRecDepth 100000 in
theorem lifted (os : Os) (started : os.Started) (H : Type) (enc : TypeId × Value → H) :
    ReturnsInHanded {} Try.checked os 5 .any (Rows.sumsSpareSpec.pre6 enc Try.prog Try.f5 Rows.sumsSpareRow.domain false) (Rows.sumsSpareSpec.post enc Try.prog Try.f5 false true false false) := by
  refine returnsInHanded_of_change (C := Try.checked) own started (by kernel_rfl) Try.func5
    (ChangeSpec.witness6 (enc := enc) (C := Try.checked) false ⟨#[], #[.slice none 0 0, .int .u64 0, .agg #[.int .u64 0, .int .u64 0, .int .u64 0], .agg #[.int .u64 0, .int .u64 0, .int .u64 0]], []⟩ 8 (by kernel_rfl) (by kernel_rfl) (by kernel_rfl) (by kernel_rfl)) ?_
  intro V0 base args ds gs before hval0 hW hcnd _
  have hval : ∀ (j : Nat) t v, Try.f5.params[j]? = some t → args[j]? = some v → Value.okWide Try.prog V0 .any base t v := hval0
  have hW' := hW
  obtain ⟨p, q, hA0, hV, rfl, hfz, hnd⟩ := hW
  have hA : DataW.TrodAll enc Try.prog V0 0 (fun _ => true) true Try.f5.params.toList args.toList ds p := hA0
  rw [Try.params5] at hA hval
  obtain ⟨v0, vs0, d0, ds0, p0, q0, hargs, rfl, rfl, h0, r0⟩ := trodAll_cons hA
  obtain ⟨v1, vs1, d1, ds1, p1, q1, rfl, rfl, rfl, h1, r1⟩ := trodAll_cons r0
  obtain ⟨v2, vs2, d2, ds2, p2, q2, rfl, rfl, rfl, h2, r2⟩ := trodAll_cons r1
  obtain ⟨v3, vs3, d3, ds3, p3, q3, rfl, rfl, rfl, h3, r3⟩ := trodAll_cons r2
  obtain ⟨rfl, rfl, rfl⟩ := trodAll_nil r3
  obtain rfl : args = #[v0, v1, v2, v3] := by cases args; simp_all
  obtain ⟨rfl, rfl⟩ := trodVars_none hV
  obtain ⟨a0, n0, c0, rfl⟩ := okWide_slice Try.underlying22 (hval 0 22 v0 rfl rfl)
  have k0 := h0
  have lt0 : ∀ x ∈ p0, x.block < V0.heap.size := by obtain ⟨m, hm⟩ := k0; exact DataW.trod_lt m _ _ _ hm
  obtain ⟨xs0, cv0, wd0, cm0, nn0⟩ : ∃ xs, IsCvs V0 a0 n0 c0 xs ∧ (∀ v ∈ xs, v.word) ∧ c0 ≤ maxLen ∧ (a0 = none → n0 = 0 ∧ c0 = 0) := by
    obtain ⟨fuel, hf⟩ := h0
    obtain ⟨a, n, c, xs, hcs, g⟩ := open_cvs Try.underlying22 Try.underlying31 Try.underlying23 Try.underlying23 Try.underlying23 (by kernel_rfl) (by kernel_rfl) hf
    simp [Value.cells] at hcs
    obtain ⟨rfl, rfl, rfl⟩ := hcs
    exact ⟨xs, g⟩
  obtain ⟨a1, rfl, rfl, rfl, wa1⟩ := open_int Try.underlying23 (hval 1 23 v1 rfl rfl) h1
  obtain ⟨c2a, c2b, c2c, y2a, y2b, y2c, m2, rfl, rfl, rfl, hy2a, hy2b, hy2c⟩ := open_agg3 Try.underlying31 (by kernel_rfl) cellsC (hval 2 31 v2 rfl rfl) h2
  obtain ⟨a2, e2a, rfl, wa2⟩ := DataW.trod_int Try.underlying23 hy2a
  obtain ⟨b2, e2b, rfl, wb2⟩ := DataW.trod_int Try.underlying23 hy2b
  obtain ⟨c2, e2c, rfl, wc2⟩ := DataW.trod_int Try.underlying23 hy2c
  simp at e2a e2b e2c
  subst e2a e2b e2c
  obtain ⟨c3a, c3b, c3c, y3a, y3b, y3c, m3, rfl, rfl, rfl, hy3a, hy3b, hy3c⟩ := open_agg3 Try.underlying31 (by kernel_rfl) cellsC (hval 3 31 v3 rfl rfl) h3
  obtain ⟨a3, e3a, rfl, wa3⟩ := DataW.trod_int Try.underlying23 hy3a
  obtain ⟨b3, e3b, rfl, wb3⟩ := DataW.trod_int Try.underlying23 hy3b
  obtain ⟨c3, e3c, rfl, wc3⟩ := DataW.trod_int Try.underlying23 hy3c
  simp at e3a e3b e3c
  subst e3a e3b e3c
  clear hA0 hval0
  have curv : ∀ (W' : World) (sp : Nat → Bool) (x y z : Int), (Lit.int .u64 x).wf = true → (Lit.int .u64 y).wf = true → (Lit.int .u64 z).wf = true → DataW.Trod enc Try.prog W' 0 sp true 31 (.agg #[.int .u64 x, .int .u64 y, .int .u64 z]) (.agg [.lit (.int .u64 x), .lit (.int .u64 y), .lit (.int .u64 z)]) [] := fun W' sp x y z wx wy wz =>
    shut_agg3 (y0 := (.lit (.int .u64 x), [])) (y1 := (.lit (.int .u64 y), [])) (y2 := (.lit (.int .u64 z), [])) Try.underlying31 (by kernel_rfl) cellsC ⟨1, by simp [DataW.trod, Try.underlying23, wx]⟩ ⟨1, by simp [DataW.trod, Try.underlying23, wy]⟩ ⟨1, by simp [DataW.trod, Try.underlying23, wz]⟩
  refine (SumsSpare_walk a0 n0 c0 xs0 a1 a2 b2 c2 a3 b3 c3 V0 cv0 wd0 cm0 nn0 (word_of wa1) (word_of wa2) (word_of wb2) (word_of wc2) (word_of wa3) (word_of wb3) (word_of wc3)).mono fun e W' ⟨he, hg⟩ => ?_
  subst he
  exact ⟨_, rfl, _, _, _, [], _, [], hW', trodAll_mk1 (shut_bool Try.underlying4 _), trodAll_cons_mk (Below.trod laidOut (by kernel_rfl) (of_decide_eq_true (by kernel_rfl)) k0 hg lt0) (trodAll_cons_mk (shut_int Try.underlying23 wa1) (trodAll_cons_mk (curv _ _ a2 b2 c2 wa2 wb2 wc2) (trodAll_cons_mk (curv _ _ a3 b3 c3 wa3 wb3 wc3) (trodAll_mk0)))), rfl,
    hg.frame _, fun h => by cases h⟩

theorem over : Rows.sumsSpareRow.holds Try.pinned (OpenSpec.ofChange Rows.sumsSpareSpec) :=
  OpenClaim.holds_of_wide 5 Try.f5 rfl rfl rfl rfl rfl rfl rfl ⟨rfl, rfl, rfl, rfl, rfl⟩ rfl rfl rfl rfl rfl (by kernel_rfl) Try.func5 (by kernel_rfl)
    (of_decide_eq_true (by kernel_rfl)) (by unfold Func.isWrapper; first | (rw [if_pos (by decide +kernel)]; kernel_rfl) | (rw [if_neg (by decide +kernel)]; exact ⟨rfl, rfl⟩))
    (fun os started H enc _ => lifted os started H enc)

theorem proved : Rows.SumsSpareSaid :=
  over
#print axioms proved
end Go.Proofs.Ytmhmoebdojkbpaa.sumsSpare
