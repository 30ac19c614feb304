/- SpecSpoilt's walk, whole; a curve that is handed over by value. Condition: the library's tables and errors are laid; the numbers are what the fields can hold. -/
import Derived.Test.YtkcmfcgoknhodaaGreatDoorSwT
import Derived.Test.YtkcmfcgoknhodaaGreatDoorSpX
namespace Go.Proofs.YtkcmfcgoknhodaaGreatDoor
open Go.RowKit Go.Lib W
open Go.ChangeShapes Go.WideShapes
set_option linter.unusedVariables false
theorem SpecSpoilt_walk (p : Sp) (c : Cw) (w : World) (hl : Lw w) (hp : p.ok) (hc : c.ok) :
    Calls Tryz.prog 6 #[spW p, .agg #[.int .u64 c.f, .int .u64 c.l, .int .u64 c.r]] w fun e w' => e = .returned (.bool true) ∧ Below w.heap.size w w' := by
  have hM := fun w => MayD p hp w
  have hC : ∀ w, Calls Tryz.prog 16 #[.agg #[.int .u64 c.f, .int .u64 c.l, .int .u64 c.r]] w fun e w' => e = .returned (.bool (mayC c)) ∧ Below w.heap.size w w' := fun w => may_any c.f c.l c.r w hc.1 hc.2.1 hc.2.2
  by_cases h0 : mayN p = 0
  · cases h1 : mayC c
    · rw [h0] at hM
      rw [h1] at hC
      obtain ⟨o1, o2, o3, o4, o5, o6, o7⟩ := hp
      refine Spoilt_yes p c w hl hM hC (fun w => ?_) (fun w => ?_) (fun w => ?_) (fun w => ?_) (fun w => ?_)
      · have h := MayD { p with id := 0, re := c } ⟨i64_zero, o2, hc, o4, o5, o6, o7⟩ w
        rw [mayN_none] at h
        exact h
      · have h := MayD { p with sh := c } ⟨o1, o2, o3, hc, o5, o6, o7⟩ w
        rw [mayN_share h0 h1] at h
        exact h
      · have h := MayD { p with up := c } ⟨o1, o2, o3, o4, hc, o6, o7⟩ w
        rw [mayN_upper h0 h1] at h
        exact h
      · have h := MayD { p with leaf := !p.leaf } ⟨o1, o2, o3, o4, o5, o6, o7⟩ w
        rw [mayN_leaf h0] at h
        exact h
      · have h := MayD { p with pk := 4097 } ⟨o1, o2, o3, o4, o5, i64_of 4097 (by decide), o7⟩ w
        rw [mayN_packets h0] at h
        exact h
    · exact Spoilt_no p c _ _ w hl (.inr h1) hM hC
  · exact Spoilt_no p c _ _ w hl (.inl h0) hM hC
theorem three_of {cs : Array Value} (h : cs.size = 3) : ∃ a b c, cs = #[a, b, c] := by
  obtain ⟨l⟩ := cs
  match l, h with
  | [a, b, c], _ => exact ⟨a, b, c, rfl⟩
set_option maxRecDepth 100000 in
theorem open_curve {H : Type} {enc : TypeId × Value → H} {w : World} {base : Nat} {spare : Nat → Bool} {held : Bool} {r : Reach} {b0 : Nat} {v : Value} {d : DataW H} {p : List MemPlace} (hv : Value.okWide Tryz.prog w r b0 24 v) (h : DataW.Trod enc Tryz.prog w base spare held 24 v d p) :
    ∃ a : Cw, a.ok ∧ v = .agg #[.int .u64 a.f, .int .u64 a.l, .int .u64 a.r] := by
  obtain ⟨cs, rfl, hsz⟩ := okWide_struct Tryz.underlying24 hv
  obtain ⟨fuel, hf⟩ := h
  have hc : cs.size = 3 := hsz.trans (by kernel_rfl)
  obtain ⟨a, b, c, rfl⟩ := three_of hc
  have hO := open_flat 3 24 [.u64, .u64, .u64] fuel _ _ (by kernel_rfl) rfl (by simpa [Value.cells] using hf)
  obtain ⟨⟨x0, rfl, h0⟩, ⟨x1, rfl, h1⟩, ⟨x2, rfl, h2⟩, _⟩ := hO
  exact ⟨⟨x0, x1, x2⟩, ⟨h0, h1, h2⟩, rfl⟩
end Go.Proofs.YtkcmfcgoknhodaaGreatDoor
