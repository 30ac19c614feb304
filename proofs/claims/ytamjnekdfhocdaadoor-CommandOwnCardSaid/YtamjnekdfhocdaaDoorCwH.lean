import Derived.Test.YtamjnekdfhocdaaDoorCwH1
import Derived.Test.YtamjnekdfhocdaaDoorCwH2
import Derived.Test.YtamjnekdfhocdaaDoorCwH3
import Derived.Test.YtamjnekdfhocdaaDoorCwH4
import Derived.Test.YtamjnekdfhocdaaDoorCwH5
import Derived.Test.YtamjnekdfhocdaaDoorCwH6
import Derived.Test.YtamjnekdfhocdaaDoorCwH7
/-! CommandOwn: its walk. No condition but those of the row. -/
namespace Go.Proofs.YtamjnekdfhocdaaDoor
open Go.ChangeShapes Go.WideShapes Go.Deep Go.RowKit
set_option linter.unusedVariables false
set_option linter.unusedSimpArgs false
set_option maxRecDepth 100000
theorem kd_of {k : Nat} (h1 : 1 ≤ k) (h2 : k ≤ 7) : kdV (nmK k) = .tuple #[.int .u8 (k : Int), .bool true] := by
  rcases seven h1 h2 with rfl | rfl | rfl | rfl | rfl | rfl | rfl <;> kernel_rfl
theorem kd_none : kdV ⟨#[]⟩ = .tuple #[.int .u8 0, .bool false] := by kernel_rfl
theorem CommandOwn_walk (C : Cm) (w : World) (hN : Names w) (ho : C.ok) : Calls Tryd.prog 8 #[.agg (cmV C)] w fun e w' => e = .returned (.bool true) ∧ Below w.heap.size w w' := by
  have hk := ho.1
  have hoD := ownC_ok ho
  have hDD := ownC_own C
  have hkD := ownC_kind C
  by_cases h : 1 ≤ C.k ∧ C.k ≤ 7
  · have h9 : cmdV (ownC C) = .tuple #[.string (bs (bytC (ownC C))), .int .i64 0] := if_pos (ownC_may h.1 h.2)
    have his : isK C.k = true := decide_eq_true h
    have hkd := kd_of h.1 h.2
    clear ho
    obtain ⟨k, a1, a2, a3, a4, a5, a6, a7, a8, a9, a10, a11, a12, a13, a14, a15, a16, a17, a18, a19, a20, a21, a22, a23⟩ := C
    rcases seven h.1 h.2 with e | e | e | e | e | e | e <;> (simp only at e; subst e)
    · cases hz : eq_cf (ownC ⟨1, a1, a2, a3, a4, a5, a6, a7, a8, a9, a10, a11, a12, a13, a14, a15, a16, a17, a18, a19, a20, a21, a22, a23⟩) (Cm.zero 0) with
      | false => exact own_cf _ _ w hN rfl hDD hkD hoD hk _ _ h9 rfl his _ hkd rfl (.inr trivial) hz rfl rfl rfl rfl (by simp [eq_cf, ownC])
      | true => exact own_no _ _ w hN rfl hDD hkD hoD hk _ _ h9 rfl his _ hkd rfl (.inr trivial) hz rfl rfl rfl rfl
    · cases hz : eq_sd (ownC ⟨2, a1, a2, a3, a4, a5, a6, a7, a8, a9, a10, a11, a12, a13, a14, a15, a16, a17, a18, a19, a20, a21, a22, a23⟩) (Cm.zero 0) with
      | false => exact own_sd _ _ w hN rfl hDD hkD hoD hk _ _ h9 rfl his _ hkd rfl (.inr trivial) rfl hz rfl rfl rfl (by simp [ownC])
      | true => exact own_no _ _ w hN rfl hDD hkD hoD hk _ _ h9 rfl his _ hkd rfl (.inr trivial) rfl hz rfl rfl rfl
    · cases hz : eq_sd (ownC ⟨3, a1, a2, a3, a4, a5, a6, a7, a8, a9, a10, a11, a12, a13, a14, a15, a16, a17, a18, a19, a20, a21, a22, a23⟩) (Cm.zero 0) with
      | false => exact own_sd _ _ w hN rfl hDD hkD hoD hk _ _ h9 rfl his _ hkd rfl (.inr trivial) rfl hz rfl rfl rfl (by simp [ownC])
      | true => exact own_no _ _ w hN rfl hDD hkD hoD hk _ _ h9 rfl his _ hkd rfl (.inr trivial) rfl hz rfl rfl rfl
    · cases hz : ((ownC ⟨4, a1, a2, a3, a4, a5, a6, a7, a8, a9, a10, a11, a12, a13, a14, a15, a16, a17, a18, a19, a20, a21, a22, a23⟩).id == 0) with
      | false => exact own_id _ _ w hN rfl hDD hkD hoD hk _ _ h9 rfl his _ hkd rfl (.inr trivial) rfl rfl rfl hz rfl (by simp [ownC])
      | true => exact own_no _ _ w hN rfl hDD hkD hoD hk _ _ h9 rfl his _ hkd rfl (.inr trivial) rfl rfl rfl hz rfl
    · cases hz : eq_pa (ownC ⟨5, a1, a2, a3, a4, a5, a6, a7, a8, a9, a10, a11, a12, a13, a14, a15, a16, a17, a18, a19, a20, a21, a22, a23⟩) (Cm.zero 0) with
      | false => exact own_pa _ _ w hN rfl hDD hkD hoD hk _ _ h9 rfl his _ hkd rfl (.inr trivial) rfl rfl hz rfl rfl (by simp [eq_pa, ownC])
      | true => exact own_no _ _ w hN rfl hDD hkD hoD hk _ _ h9 rfl his _ hkd rfl (.inr trivial) rfl rfl hz rfl rfl
    · cases hz : (((ownC ⟨6, a1, a2, a3, a4, a5, a6, a7, a8, a9, a10, a11, a12, a13, a14, a15, a16, a17, a18, a19, a20, a21, a22, a23⟩).to : Int) == 0) with
      | false => exact own_to _ _ w hN rfl hDD hkD hoD hk _ _ h9 rfl his _ hkd rfl (.inr trivial) rfl rfl rfl rfl hz (by simp [ownC])
      | true => exact own_no _ _ w hN rfl hDD hkD hoD hk _ _ h9 rfl his _ hkd rfl (.inr trivial) rfl rfl rfl rfl hz
    · cases hz : ((ownC ⟨7, a1, a2, a3, a4, a5, a6, a7, a8, a9, a10, a11, a12, a13, a14, a15, a16, a17, a18, a19, a20, a21, a22, a23⟩).id == 0) with
      | false => exact own_id _ _ w hN rfl hDD hkD hoD hk _ _ h9 rfl his _ hkd rfl (.inr trivial) rfl rfl rfl hz rfl (by simp [ownC])
      | true => exact own_no _ _ w hN rfl hDD hkD hoD hk _ _ h9 rfl his _ hkd rfl (.inr trivial) rfl rfl rfl hz rfl
  · have h9 : cmdV (ownC C) = .tuple #[.string (bs []), .int .i64 2] := if_neg (fun hm => h ⟨hkD ▸ hm.1, hkD ▸ hm.2.1⟩)
    have his : isK C.k = false := decide_eq_false h
    have hn : nmK C.k = ⟨#[]⟩ := if_neg h
    have e : ownC C = Cm.zero C.k := by
      unfold ownC
      rw [if_neg (by omega), if_neg (by omega), if_neg (by omega), if_neg (by omega), if_neg (by omega), if_neg (by omega)]
    have he : (!(⟨#[]⟩ : ByteArray).toList.isEmpty) = false := by rw [ByteArray.toList_eq]; rfl
    exact own_nox _ _ w hN rfl hDD hkD hoD hk _ _ h9 hn his _ kd_none trivial (.inl he) (by rw [e]; rfl) (by rw [e]; rfl) (by rw [e]; rfl) (by rw [e]; rfl) (by rw [e]; rfl)
end Go.Proofs.YtamjnekdfhocdaaDoor
