/-
  Proved: the card of PacketTexts, from its walk. The row lists the table of powers of ten, which the given tie ties to the text. No other condition.
-/
import Derived.Test.YtdmgalcfgignpaaDoorRows
import Derived.Test.YtdmgalcfgignpaaDoorTie
import Derived.Test.YtdmgalcfgignpaaDoorCards
import Derived.Test.YtdmgalcfgignpaaDoorRpX
import Derived.WalkKit
import Derived.ProofKit
import Derived.OpenShut
import Derived.ShutString
import Derived.ChangeOld
import Derived.Lib.SmallJoins
import Derived.Below
import Derived.Carry
import Derived.LaidMore
import Derived.Lay
import Derived.SevenTiedAt
import Derived.Stop.Joined
import Derived.Stop.LaidErr
import Derived.Lib.LaidTab
namespace Go.Proofs.YtdmgalcfgignpaaDoor.packetTexts
open Go.ChangeShapes Go.WideShapes Go.ChangeAt Go.RowKit Go.Joins
open Go.ChangeMaps (open_string shut_string)
set_option linter.unusedVariables false
theorem own : ownKnob Tryd.prog.godebug = none := by kernel_rfl
theorem cellsP : Tryd.prog.cellsOf 24 = 4 := by kernel_rfl
theorem u64_of {x : Int} (h : (Lit.int .u64 x).wf = true) : 0 ≤ x ∧ x < 18446744073709551616 := by
  simp [Lit.wf, IntKind.min, IntKind.max, IntKind.bits, IntKind.signed] at h
  omega
theorem i64_of {x : Int} (h : (Lit.int .i64 x).wf = true) : -9223372036854775808 ≤ x ∧ x < 9223372036854775808 := by
  simp [Lit.wf, IntKind.min, IntKind.max, IntKind.bits, IntKind.signed] at h
  omega
/-- What the row lists. -/
abbrev L : List (String × DataW Unit) := Rows.packetTextsRow.laid
theorem tab_of {W : World} (h : laidMetH Tryd.prog L W) : Tab W := by
  rw [MakeChecks.laidMetH_plain _ _ _ (by kernel_rfl)] at h
  exact Lib.tabIs_of_head (P := Tryd.prog) (g := 0) (by kernel_rfl) (by kernel_rfl) Tryd.underlying107 Tryd.underlying22 (by kernel_rfl) (by kernel_rfl) (show laidMet Tryd.prog _ W from h.tail.tail)
set_option maxRecDepth 100000 in
theorem lifted (os : Os) (started : os.Started) (H : Type) (enc : TypeId × Value → H) :
    ReturnsInHanded {} Tryd.checked os 3 .any (fun w args => (Rows.packetTextsSpec.pre enc Tryd.prog Tryd.f3 Rows.packetTextsRow.domain false w args ∧ laidMetH Tryd.prog L w) ∧ sizedMet enc Tryd.prog Tryd.f3 (OpenSpec.ofChange Rows.packetTextsSpec) false w args)
      (Rows.packetTextsSpec.post enc Tryd.prog Tryd.f3 false true false false) := by
  refine returnsInHanded_of_change_and (C := Tryd.checked) (X := fun w _ => laidMetH Tryd.prog L w) (fun _ _ _ hh h => h.of_heap hh) own started (by kernel_rfl) Tryd.func3
    (ChangeSpec.witness_shaped (enc := enc) (C := Tryd.checked) (os := os) (X := fun w _ => laidMetH Tryd.prog L w) false (World.laidAll Tryd.prog os L) #[.agg #[.int .u64 0, .int .i64 0, .int .i64 0, .int .u64 0], .string ⟨#[]⟩] 8 (World.laidAll_os _ _ _)
      (World.shaped_of_ZipB (by kernel_rfl) (by kernel_rfl)) (by kernel_rfl) (by kernel_rfl) (by kernel_rfl)
      (by rw [MakeChecks.laidMetH_plain _ _ _ (by kernel_rfl)]; exact laidMet_laidAll _ (by kernel_rfl) (by kernel_rfl))) ?_
  intro V0 base args ds gs before hval0 hW hcnd _ hL _
  have hval : ∀ (j : Nat) t v, Tryd.f3.params[j]? = some t → args[j]? = some v → Value.okWide Tryd.prog V0 .any base t v := hval0
  have hW' := hW
  obtain ⟨p, q, hA0, hV, rfl, hfz, hnd⟩ := hW
  have hA : DataW.TrodAll enc Tryd.prog V0 0 (fun _ => true) true Tryd.f3.params.toList args.toList ds p := hA0
  rw [Tryd.params3] at hA hval
  obtain ⟨v0, vs0, d0, ds0, p0, q0, hargs, rfl, rfl, h0, r0⟩ := trodAll_cons hA
  obtain ⟨v1, vs1, d1, ds1, p1, q1, rfl, rfl, rfl, h1, r1⟩ := trodAll_cons r0
  obtain ⟨rfl, rfl, rfl⟩ := trodAll_nil r1
  obtain rfl : args = #[v0, v1] := by cases args; simp_all
  obtain ⟨rfl, rfl⟩ := trodVars_none hV
  obtain ⟨c0a, c0b, c0c, c0d, y0a, y0b, y0c, y0d, m0, rfl, rfl, rfl, hy0a, hy0b, hy0c, hy0d⟩ := open_agg4 Tryd.underlying24 (by kernel_rfl) cellsP (hval 0 24 v0 rfl rfl) h0
  obtain ⟨a0, e0a, rfl, wa0⟩ := DataW.trod_int Tryd.underlying22 hy0a
  obtain ⟨b0, e0b, rfl, wb0⟩ := DataW.trod_int Tryd.underlying3 hy0b
  obtain ⟨c0, e0c, rfl, wc0⟩ := DataW.trod_int Tryd.underlying3 hy0c
  obtain ⟨d0, e0d, rfl, wd0⟩ := DataW.trod_int Tryd.underlying22 hy0d
  simp at e0a e0b e0c e0d
  subst e0a e0b e0c e0d
  obtain ⟨a1, rfl, rfl, rfl, wa1⟩ := open_string Tryd.underlying9 (hval 1 9 v1 rfl rfl) h1
  clear hA0 hval0
  simp only [List.append_nil] at hW'
  have pks : ∀ (W' : World) (sp : Nat → Bool) (x y z t : Int), (Lit.int .u64 x).wf = true → (Lit.int .i64 y).wf = true → (Lit.int .i64 z).wf = true → (Lit.int .u64 t).wf = true → DataW.Trod enc Tryd.prog W' 0 sp true 24 (.agg #[.int .u64 x, .int .i64 y, .int .i64 z, .int .u64 t]) (.agg [.lit (.int .u64 x), .lit (.int .i64 y), .lit (.int .i64 z), .lit (.int .u64 t)]) [] := fun W' sp x y z t wx wy wz wt =>
    shut_agg4 (y0 := (.lit (.int .u64 x), [])) (y1 := (.lit (.int .i64 y), [])) (y2 := (.lit (.int .i64 z), [])) (y3 := (.lit (.int .u64 t), [])) Tryd.underlying24 (by kernel_rfl) cellsP ⟨1, by simp [DataW.trod, Tryd.underlying22, wx]⟩ ⟨1, by simp [DataW.trod, Tryd.underlying3, wy]⟩ ⟨1, by simp [DataW.trod, Tryd.underlying3, wz]⟩ ⟨1, by simp [DataW.trod, Tryd.underlying22, wt]⟩
  refine (PacketTexts_walk ⟨a0, b0, c0, d0⟩ a1 V0 (tab_of hL) ⟨u64_of wa0, i64_of wb0, i64_of wc0, u64_of wd0⟩).mono fun e W' ⟨he, hg⟩ => ?_
  subst he
  exact ⟨_, rfl, _, _, _, [], _, [], hW', trodAll_mk1 (shut_bool Tryd.underlying4 _), trodAll_cons_mk (pks _ _ a0 b0 c0 d0 wa0 wb0 wc0 wd0) (trodAll_cons_mk (shut_string Tryd.underlying9 wa1) (trodAll_mk0)), rfl,
    hg.frame _, fun h => by cases h⟩
theorem over : Rows.PacketTextsSaid :=
  OpenClaim.holds_of_wide 3 Tryd.f3 rfl rfl rfl rfl rfl rfl rfl ⟨rfl, rfl, rfl, rfl, rfl⟩ rfl rfl rfl rfl rfl (by kernel_rfl) Tryd.func3 (by kernel_rfl)
    (of_decide_eq_true (by kernel_rfl)) (by unfold Func.isWrapper; first | (rw [if_pos (by decide +kernel)]; kernel_rfl) | (rw [if_neg (by decide +kernel)]; exact ⟨rfl, rfl⟩))
    (fun os started H enc _ => lifted os started H enc)
theorem proved : Rows.PacketTextsCardSaid :=
  Claim7.holds_tied_plain_at .later [] [.data, .data, .data] true (true, "58766a1fd305f2aa3f0f10712566f0803fdd9cbf85ce279850ad4f7df439137b") false over (fun _ h => by cases h) (by kernel_rfl) (fun _ h => by cases h) packetTexts_row_tie rfl ⟨rfl, rfl⟩ (by kernel_rfl) rfl
    (fun f fn hf hfn => by
      obtain rfl : f = 3 := Option.some.inj ((show Tryd.prog.funcNamed "distributary/distributarylaw10.PacketTexts" = some 3 by kernel_rfl).symm.trans hf) |>.symm
      obtain rfl : fn = Tryd.f3 := (Option.some.inj (Tryd.func3.symm.trans hfn)).symm
      exact ⟨by kernel_rfl, fun j t ht => by
        rw [Tryd.params3] at ht
        have hm : t ∈ [24, 9] := by simpa using Array.mem_of_getElem? ht
        have hall : ([24, 9].all fun u => !Tryd.prog.wantsStandIn u) = true := by kernel_rfl
        exact (show Tryd.prog.wantsStandIn t = false by simpa using List.all_eq_true.1 hall t hm)⟩)
    (by kernel_rfl)
#print axioms proved
end Go.Proofs.YtdmgalcfgignpaaDoor.packetTexts
