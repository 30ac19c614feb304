/-
  Proved: the card of TableNone, from its walk. The row lists the table of math/bits, which the given tie ties to the text. No other condition.
-/
import Derived.Test.YtenghpgnhmglpaaDoorRows
import Derived.Test.YtenghpgnhmglpaaDoorTie
import Derived.Test.YtenghpgnhmglpaaDoorCards
import Derived.Test.YtenghpgnhmglpaaDoorRtQ
import Derived.WalkKit
import Derived.ProofKit
import Derived.OpenShut
import Derived.ChangeOld
import Derived.Lib.SmallJoins
import Derived.Below
import Derived.Carry
import Derived.LaidMore
import Derived.Lay
import Derived.SevenTiedAt
import Derived.Stop.Joined
import Derived.Stop.LaidErr
import Derived.Lib.LaidTab
namespace Go.Proofs.YtenghpgnhmglpaaDoor.tableNone
open Go.ChangeShapes Go.WideShapes Go.ChangeAt Go.RowKit Go.Joins
set_option linter.unusedVariables false
theorem own : ownKnob Tryd.prog.godebug = none := by kernel_rfl
theorem cellsB : Tryd.prog.cellsOf 31 = 4 := by kernel_rfl
theorem u8_of {x : Int} (h : (Lit.int .u8 x).wf = true) : 0 ≤ x ∧ x < 256 := by
  simp [Lit.wf, IntKind.min, IntKind.max, IntKind.bits, IntKind.signed] at h
  omega
theorem u64_of {x : Int} (h : (Lit.int .u64 x).wf = true) : Wd x := by
  simp [Lit.wf, IntKind.min, IntKind.max, IntKind.bits, IntKind.signed] at h
  show _ ≤ _ ∧ _ < _
  omega
theorem i64_of {x : Int} (h : (Lit.int .i64 x).wf = true) : Inte x := by
  simp [Lit.wf, IntKind.min, IntKind.max, IntKind.bits, IntKind.signed] at h
  show _ ≤ _ ∧ _ < _
  omega
/-- What the row lists. -/
abbrev L : List (String × DataW Unit) := Rows.tableNoneRow.laid
set_option maxRecDepth 100000 in
theorem tab_of {W : World} (h : laidMetH Tryd.prog L W) : Tab W := by
  rw [MakeChecks.laidMetH_plain _ _ _ (by kernel_rfl)] at h
  have ht := Lib.tabIs_of_head (P := Tryd.prog) (k := .u8) (zs := Lib.deBruijn64tab.map fun x : Nat => (x : Int)) (g := 0) (by kernel_rfl) (by kernel_rfl) Tryd.underlying88 Tryd.underlying5 (by kernel_rfl) (by kernel_rfl) (show laidMet Tryd.prog ((_, Lib.tabData .u8 (Lib.deBruijn64tab.map fun x : Nat => (x : Int))) :: _) W from h)
  have hc : ∀ j, j < Lib.deBruijn64tab.length → W.cell? ⟨0, j, none⟩ = some (.int .u8 (Lib.deBruijn64tab.getD j 0)) := fun j hj => by
    have := ht.cell (g := 0) (by kernel_rfl) j (by simpa using hj)
    rw [this]
    simp [List.getD, hj]
  exact ⟨World.block_lt_of_cell? W _ (hc 0 (by decide)), hc⟩
set_option maxRecDepth 100000 in
theorem lifted (os : Os) (started : os.Started) (H : Type) (enc : TypeId × Value → H) :
    ReturnsInHanded {} Tryd.checked os 4 .any (fun w args => (Rows.tableNoneSpec.pre enc Tryd.prog Tryd.f4 Rows.tableNoneRow.domain false w args ∧ laidMetH Tryd.prog L w) ∧ sizedMet enc Tryd.prog Tryd.f4 (OpenSpec.ofChange Rows.tableNoneSpec) false w args)
      (Rows.tableNoneSpec.post enc Tryd.prog Tryd.f4 false true false false) := by
  refine returnsInHanded_of_change_and (C := Tryd.checked) (X := fun w _ => laidMetH Tryd.prog L w) (fun _ _ _ hh h => h.of_heap hh) own started (by kernel_rfl) Tryd.func4
    (ChangeSpec.witness_shaped (enc := enc) (C := Tryd.checked) (os := os) (X := fun w _ => laidMetH Tryd.prog L w) false (World.laidAll Tryd.prog os L) #[.agg #[.int .u8 0, .int .i64 0, .int .u64 0, .int .i64 0]] 8 (World.laidAll_os _ _ _)
      (World.shaped_of_ZipB (by kernel_rfl) (by kernel_rfl)) (by kernel_rfl) (by kernel_rfl) (by kernel_rfl)
      (by rw [MakeChecks.laidMetH_plain _ _ _ (by kernel_rfl)]; exact laidMet_laidAll _ (by kernel_rfl) (by kernel_rfl))) ?_
  intro V0 base args ds gs before hval0 hW hcnd _ hL _
  have hval : ∀ (j : Nat) t v, Tryd.f4.params[j]? = some t → args[j]? = some v → Value.okWide Tryd.prog V0 .any base t v := hval0
  have hW' := hW
  obtain ⟨p, q, hA0, hV, rfl, hfz, hnd⟩ := hW
  have hA : DataW.TrodAll enc Tryd.prog V0 0 (fun _ => true) true Tryd.f4.params.toList args.toList ds p := hA0
  rw [Tryd.params4] at hA hval
  obtain ⟨v0, vs0, d0, ds0, p0, q0, hargs, rfl, rfl, h0, r0⟩ := trodAll_cons hA
  obtain ⟨rfl, rfl, rfl⟩ := trodAll_nil r0
  obtain rfl : args = #[v0] := by cases args; simp_all
  obtain ⟨rfl, rfl⟩ := trodVars_none hV
  obtain ⟨c0a, c0b, c0c, c0d, y0a, y0b, y0c, y0d, m0, rfl, rfl, rfl, hy0a, hy0b, hy0c, hy0d⟩ := open_agg4 Tryd.underlying31 (by kernel_rfl) cellsB (hval 0 31 v0 rfl rfl) h0
  obtain ⟨a0, e0a, rfl, wa0⟩ := DataW.trod_int Tryd.underlying5 hy0a
  obtain ⟨b0, e0b, rfl, wb0⟩ := DataW.trod_int Tryd.underlying3 hy0b
  obtain ⟨c0, e0c, rfl, wc0⟩ := DataW.trod_int Tryd.underlying25 hy0c
  obtain ⟨d0, e0d, rfl, wd0⟩ := DataW.trod_int Tryd.underlying3 hy0d
  simp at e0a e0b e0c e0d
  subst e0a e0b e0c e0d
  clear hA0 hval0
  simp only [List.append_nil] at hW'
  have acs : ∀ (W' : World) (sp : Nat → Bool) (x y z t : Int), (Lit.int .u8 x).wf = true → (Lit.int .i64 y).wf = true → (Lit.int .u64 z).wf = true → (Lit.int .i64 t).wf = true → DataW.Trod enc Tryd.prog W' 0 sp true 31 (.agg #[.int .u8 x, .int .i64 y, .int .u64 z, .int .i64 t]) (.agg [.lit (.int .u8 x), .lit (.int .i64 y), .lit (.int .u64 z), .lit (.int .i64 t)]) [] := fun W' sp x y z t wx wy wz wt =>
    shut_agg4 (y0 := (.lit (.int .u8 x), [])) (y1 := (.lit (.int .i64 y), [])) (y2 := (.lit (.int .u64 z), [])) (y3 := (.lit (.int .i64 t), [])) Tryd.underlying31 (by kernel_rfl) cellsB ⟨1, by simp [DataW.trod, Tryd.underlying5, wx]⟩ ⟨1, by simp [DataW.trod, Tryd.underlying3, wy]⟩ ⟨1, by simp [DataW.trod, Tryd.underlying25, wz]⟩ ⟨1, by simp [DataW.trod, Tryd.underlying3, wt]⟩
  refine (TableNone_walk ⟨a0, b0, c0, d0⟩ V0 (tab_of hL) ⟨u8_of wa0, i64_of wb0, u64_of wc0, i64_of wd0⟩).mono fun e W' ⟨he, hg⟩ => ?_
  subst he
  exact ⟨_, rfl, _, _, _, [], _, [], hW', trodAll_mk1 (shut_bool Tryd.underlying4 _), trodAll_cons_mk (acs _ _ a0 b0 c0 d0 wa0 wb0 wc0 wd0) (trodAll_mk0), rfl,
    hg.frame _, fun h => by cases h⟩
theorem over : Rows.TableNoneSaid :=
  OpenClaim.holds_of_wide 4 Tryd.f4 rfl rfl rfl rfl rfl rfl rfl ⟨rfl, rfl, rfl, rfl, rfl⟩ rfl rfl rfl rfl rfl (by kernel_rfl) Tryd.func4 (by kernel_rfl)
    (of_decide_eq_true (by kernel_rfl)) (by unfold Func.isWrapper; first | (rw [if_pos (by decide +kernel)]; kernel_rfl) | (rw [if_neg (by decide +kernel)]; exact ⟨rfl, rfl⟩))
    (fun os started H enc _ => lifted os started H enc)
theorem proved : Rows.TableNoneCardSaid :=
  Claim7.holds_tied_plain_at .later [] [.data] true (true, "151fd33055ae6c7acc769f77f2b548ea486274514f976ef445f1885fa5287dc3") false over (fun _ h => by cases h) (by kernel_rfl) (fun _ h => by cases h) tableNone_row_tie rfl ⟨rfl, rfl⟩ (by kernel_rfl) rfl
    (fun f fn hf hfn => by
      obtain rfl : f = 4 := Option.some.inj ((show Tryd.prog.funcNamed "distributary/distributarylaw12.TableNone" = some 4 by kernel_rfl).symm.trans hf) |>.symm
      obtain rfl : fn = Tryd.f4 := (Option.some.inj (Tryd.func4.symm.trans hfn)).symm
      exact ⟨by kernel_rfl, fun j t ht => by
        rw [Tryd.params4] at ht
        have hm : t ∈ [31] := by simpa using Array.mem_of_getElem? ht
        have hall : ([31].all fun u => !Tryd.prog.wantsStandIn u) = true := by kernel_rfl
        exact (show Tryd.prog.wantsStandIn t = false by simpa using List.all_eq_true.1 hall t hm)⟩)
    (by kernel_rfl)
#print axioms proved
end Go.Proofs.YtenghpgnhmglpaaDoor.tableNone
