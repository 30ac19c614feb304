/- What a pointer leads to, written: a number, a record, part by part. No condition. -/
import Derived.Test.YtamjnekdfhocdaaDoorCmD
namespace Go.Proofs.YtamjnekdfhocdaaDoor
open Go.ChangeShapes Go.WideShapes Go.Deep Go.RowKit
set_option linter.unusedVariables false
set_option linter.unusedSimpArgs false
attribute [local go_sem] ta105_yes ta105_no ta105_nil ta106_yes ta106_no ta106_nil ta107_yes ta107_no ta107_nil ta98_yes ta98_no ta98_nil ta108_yes ta108_no ta108_nil ta96_yes ta96_no ta96_nil ta116_yes ta116_no ta116_nil ta80_yes ta80_no ta80_nil ta117_yes ta117_no ta117_nil ta100_yes ta100_no ta100_nil ta101_yes ta101_no ta101_nil
/-- v leads to what has those bytes, in a block of those cells. -/
def Wr (v : Value) (B : Nat) (c : Array Value) (t : TypeId) (b : List UInt8) : Prop :=
  ∀ (W : World) (PB : Nat) (L : List UInt8), Pen W PB L → Box W B c t → PB ≠ B → L.length + b.length ≤ 100000 → Calls Tryd.prog 25 #[ptr PB, v] W fun e W' => e = .returned unitV ∧ Pen W' PB (L ++ b) ∧ But PB W W'
set_option maxHeartbeats 16000000 in
set_option maxRecDepth 100000 in
theorem wr_u {B k : Nat} {c : Array Value} {t : TypeId} {n : Nat} (hn : n < 18446744073709551616) (hc : c[k]? = some (.int .u64 (n : Int))) : Wr (.iface 96 (ptrAt B k)) B c t (numL n) := by
  intro W PB L hP hB hne hlen
  have hcell := (hB.cell k).trans hc
  have hK := Num_any hP n hn (by omega)
  clear hc hB hP hlen
  generalize (numL n : List UInt8) = q at hK ⊢
  go_enter Tryd.func25, Tryd.ntmps25
  go_wp2_with (go_at_call 45; (with_reducible refine hK.mono ?_); rintro e w1 ⟨rfl, hP1, hB1⟩)
  exact ⟨rfl, .tuple #[], by simp [results, Tryd.results25, go_sem], rfl, hP1, hB1⟩
set_option maxHeartbeats 16000000 in
set_option maxRecDepth 100000 in
theorem wr_i {B k : Nat} {c : Array Value} {t : TypeId} {n : Int} (hn : -9223372036854775808 ≤ n ∧ n < 9223372036854775808) (hc : c[k]? = some (.int .i64 n)) : Wr (.iface 98 (ptrAt B k)) B c t (numL (zg n)) := by
  intro W PB L hP hB hne hlen
  have hcell := (hB.cell k).trans hc
  have hK := Int_any hP n hn (by omega)
  clear hc hB hP hlen
  generalize (numL (zg n) : List UInt8) = q at hK ⊢
  go_enter Tryd.func25, Tryd.ntmps25
  go_wp2_with (go_at_call 46; (with_reducible refine hK.mono ?_); rintro e w1 ⟨rfl, hP1, hB1⟩)
  exact ⟨rfl, .tuple #[], by simp [results, Tryd.results25, go_sem], rfl, hP1, hB1⟩
set_option maxHeartbeats 16000000 in
set_option maxRecDepth 100000 in
theorem wr_e {B k : Nat} {c : Array Value} {t : TypeId} {n : Int} (hn : -9223372036854775808 ≤ n ∧ n < 9223372036854775808) (hc : c[k]? = some (.int .i64 n)) : Wr (.iface 100 (ptrAt B k)) B c t (numL (zg n)) := by
  intro W PB L hP hB hne hlen
  have hcell := (hB.cell k).trans hc
  have hK := Int_any hP n hn (by omega)
  clear hc hB hP hlen
  generalize (numL (zg n) : List UInt8) = q at hK ⊢
  go_enter Tryd.func25, Tryd.ntmps25
  go_wp2_with (go_at_call 46; (with_reducible refine hK.mono ?_); rintro e w1 ⟨rfl, hP1, hB1⟩)
  exact ⟨rfl, .tuple #[], by simp [results, Tryd.results25, go_sem], rfl, hP1, hB1⟩
set_option maxHeartbeats 16000000 in
set_option maxRecDepth 100000 in
theorem wr_b {B k : Nat} {c : Array Value} {t : TypeId} {n : Bool} (hn : True) (hc : c[k]? = some (.bool n)) : Wr (.iface 101 (ptrAt B k)) B c t ([if n then 1 else 0]) := by
  intro W PB L hP hB hne hlen
  have hcell := (hB.cell k).trans hc
  have hK := Flag_any hP n (by omega)
  clear hc hB hP hlen
  generalize ([if n then 1 else 0] : List UInt8) = q at hK ⊢
  go_enter Tryd.func25, Tryd.ntmps25
  go_wp2_with (go_at_call 47; (with_reducible refine hK.mono ?_); rintro e w1 ⟨rfl, hP1, hB1⟩)
  exact ⟨rfl, .tuple #[], by simp [results, Tryd.results25, go_sem], rfl, hP1, hB1⟩
set_option maxHeartbeats 16000000 in
set_option maxRecDepth 100000 in
theorem wr_rec {T : TypeId} {p : Value} {B : Nat} {c : Array Value} {t : TypeId} {vs : List Value} {bl : List (List UInt8)} (h96 : T ≠ 96) (h98 : T ≠ 98) (h100 : T ≠ 100) (h101 : T ≠ 101)
    (hp : ∀ w, Calls Tryd.prog 48 #[.iface T p] w fun e w' => e = .returned (.slice (some ⟨w.heap.size, 0, none⟩) vs.length vs.length) ∧ Box w' w.heap.size vs.toArray 20 ∧ Below w.heap.size w w')
    (hw : ∀ (j : Nat) (v : Value), vs[j]? = some v → ∃ b, bl[j]? = some b ∧ Wr v B c t b) (hsm : vs.length < 1000) : Wr (.iface T p) B c t (bl.take vs.length).flatten := by
  intro W PB L hP hB hne hlen
  obtain ⟨n, hn⟩ : ∃ n, vs.length = n := ⟨_, rfl⟩
  have hK := hp W
  rw [hn] at hK hlen hsm ⊢
  have hPB := hP.lt
  have hBB := hB.lt
  clear hp
  have hq : ∀ j, j < n → ∃ v b, vs[j]? = some v ∧ bl[j]? = some b ∧ Wr v B c t b := fun j hj => by
    obtain ⟨b, hb, hwb⟩ := hw j _ (List.getElem?_eq_getElem (by omega))
    exact ⟨_, b, List.getElem?_eq_getElem (by omega), hb, hwb⟩
  have hlen2 : ∀ j, j ≤ n → L.length + ((bl.take j).flatten).length ≤ 100000 := fun j hj => by
    have : ((bl.take j).flatten).length ≤ ((bl.take n).flatten).length := by
      have e : bl.take n = bl.take j ++ (bl.take n).drop j := by
        rw [show bl.take j = (bl.take n).take j by rw [List.take_take, Nat.min_eq_left hj], List.take_append_drop]
      rw [e, List.flatten_append, List.length_append]
      omega
    omega
  clear hlen hw hn
  replace hq := Lib.hid hq
  replace hlen2 := Lib.hid hlen2
  go_enter Tryd.func25, Tryd.ntmps25
  go_wp2_with (go_at_call 48; (with_reducible refine hK.mono ?_); rintro e w1 ⟨rfl, G1, T1⟩)
  clear hK
  have P1 := hP.below T1
  have B1 := hB.below T1
  clear hP hB
  go_loopw [15] (fun s15 wr => ∃ j : Nat, s15 = .int .i64 j ∧ j ≤ n ∧ Pen wr PB (L ++ (bl.take j).flatten) ∧ Box wr W.heap.size vs.toArray 20 ∧ Box wr B c t ∧ But PB W wr) (fun s15 _ => n - (intOf s15).toNat)
  case atStart => exact ⟨0, rfl, Nat.zero_le _, by rw [List.take_zero, List.flatten_nil, List.append_nil]; exact P1, G1, B1, But.of T1⟩
  case round =>
    clear P1 G1 B1 T1
    obtain ⟨j, rfl, hj, P2, G2, B2, K2⟩ := hrel
    by_cases hlt : j < n
    · have j0 : (j : Int) < (n : Int) := by omega
      obtain ⟨v, b, hv, hb, hwb⟩ := hq.out j hlt
      have hcell : wr.cell? ⟨W.heap.size, j, none⟩ = some v := (G2.cell j).trans (by simpa using hv)
      have hbl : (bl.take (j + 1)).flatten = (bl.take j).flatten ++ b := by
        rw [List.take_add_one, hb]
        simp
      have hl := hlen2.out (j + 1) hlt
      rw [hbl, List.length_append] at hl
      have hC := hwb wr PB (L ++ (bl.take j).flatten) P2 B2 hne (by rw [List.length_append]; omega)
      rw [List.append_assoc, ← hbl] at hC
      have hgP : PB ≠ W.heap.size := Nat.ne_of_lt hPB
      clear hv hb hwb hbl hl P2
      go_wp2_with (go_at_call 25; (with_reducible refine hC.mono ?_); rintro e w3 ⟨rfl, P3, K3⟩)
      go_roundw
      case rel => exact ⟨j + 1, by simp, hlt, P3, K3.box G2 (Ne.symm hgP), K3.box B2 (Ne.symm hne), K2.trans K3⟩
      case measure => simp only [intOf]; omega
    · obtain rfl : j = n := by omega
      have j0 : ¬ (j : Int) < (j : Int) := by omega
      go_wp2
      exact ⟨rfl, .tuple #[], by simp [results, Tryd.results25, go_sem], rfl, P2, K2⟩
end Go.Proofs.YtamjnekdfhocdaaDoor
