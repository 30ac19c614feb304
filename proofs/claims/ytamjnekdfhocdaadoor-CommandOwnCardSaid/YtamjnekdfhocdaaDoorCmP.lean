/- The document's bytes of a reply. No condition. -/
import Derived.Test.YtamjnekdfhocdaaDoorCmO
namespace Go.Proofs.YtamjnekdfhocdaaDoor
open Go.ChangeShapes Go.WideShapes Go.Deep Go.RowKit
set_option linter.unusedVariables false
set_option linter.unusedSimpArgs false
def flN (r : Rp) (j : Nat) : List UInt8 := ((nuL r).take j).flatMap numL
theorem flN_next {r : Rp} {j n : Nat} (h : (nuL r)[j]? = some n) : flN r (j + 1) = flN r j ++ numL n := by
  unfold flN
  rw [List.take_add_one, h]
  simp
theorem nuL_ok {r : Rp} (h : r.ok) : ∀ n ∈ nuL r, n < 18446744073709551616 := by
  unfold Rp.ok hasR at h
  simp only [List.forall_mem_cons, List.not_mem_nil, false_implies, implies_true, and_true] at h
  obtain ⟨q0, q1, q2, q3, q4, q5, q6, q7, q8, q9⟩ := h
  unfold nuL
  simp only [List.forall_mem_cons, List.not_mem_nil, false_implies, implies_true, and_true]
  exact ⟨q2, q3, q4, q5, q6, q7, q8, q9⟩
theorem flN_len {r : Rp} (h : r.ok) : ∀ j, j ≤ 8 → (flN r j).length ≤ 10 * j
  | 0, _ => Nat.le_refl _
  | j + 1, hj => by
    obtain ⟨n, hn, _⟩ := stV_at r j (by omega)
    have h1 := flN_len h j (by omega)
    have h2 := numL_le10 (nuL_ok h n (List.mem_of_getElem? hn))
    rw [flN_next hn, List.length_append]
    omega
theorem add_sum (A B : List UInt8) (hl : A.length + B.length < 1000000) (W : World) : (Op.stringOp .add (bs A) (bs B)).run Tryd.prog W = .ok (.string (bs (A ++ B))) W := by
  have h := run_string_add_sum (P := Tryd.prog) (w := W) (bs A) (bs B) (by rw [bs_size, bs_size]; omega)
  rw [bs_append] at h
  exact h
set_option maxHeartbeats 16000000 in
set_option maxRecDepth 100000 in
theorem RReply_any (r : Rp) (w : World) (ho : r.ok) : Calls Tryd.prog 12 #[.agg (rpV r)] w fun e w' => e = .returned (repV r) ∧ Below w.heap.size w w' := by
  have hfl := flN_len ho
  have hnl := nuL_ok ho
  have hv : bytR r = [0] ++ numL (zg r.code) ++ numL r.now ++ flN r 8 := by
    unfold bytR hasR flN nuL
    simp [encL, encF]
  unfold repV
  rw [hv]
  have hq := ho
  unfold Rp.ok hasR at hq
  simp only [List.forall_mem_cons, List.not_mem_nil, false_implies, implies_true, and_true] at hq
  obtain ⟨q0, q1, q2, q3, q4, q5, q6, q7, q8, q9⟩ := hq
  have k0 := RInt_any r.code q0
  have k1 := RNum_any r.now q1
  have l0 := numL_le10 (zg_lt q0)
  have l1 := numL_le10 (n := r.now) q1
  clear hv q0 q1 q2 q3 q4 q5 q6 q7 q8 q9
  generalize numL (zg r.code) = A0 at *
  generalize numL r.now = A1 at *
  have hl1 : ([0] ++ A0).length ≤ 11 := by rw [List.length_append, List.length_singleton]; omega
  have hl2 : ([0] ++ A0 ++ A1).length ≤ 21 := by rw [List.length_append]; omega
  obtain ⟨P0, hP0⟩ : ∃ P, [0] ++ A0 = P := ⟨_, rfl⟩
  rw [hP0] at hl1 hl2 ⊢
  obtain ⟨P, hP⟩ : ∃ P, P0 ++ A1 = P := ⟨_, rfl⟩
  rw [hP] at hl2 ⊢
  replace hP0 := Lib.hid hP0
  replace hP := Lib.hid hP
  replace hnl := Lib.hid hnl
  replace hfl := Lib.hid hfl
  go_enter Tryd.func12, Tryd.ntmps12
  go_upto_region 1 with (refine wl_box 37 rfl rfl rfl ?_; intro w1 X1 T1)
  refine wp_region_held_drew (S := fun W => Box W w.heap.size (rpV r) 37) (by kernel_rfl) X1.drew (fun hHeld => ?_)
  replace X1 := X1.drew
  replace T1 := T1.drew
  generalize w1.drew = w2 at *
  refine wpAnyH_take (i := 0) (v := ?_) (by simp only [List.getElem?_toArray, List.getElem?_cons_zero]; rfl) (by kernel_rfl) (by kernel_rfl) (by kernel_rfl) (by exact fun _ _ _ h => h) (Or.inl ⟨by rfl, ?_⟩) (by assumption) ?_
  rotate_left
  · (intro w hSw; (try dsimp only at hSw); go_simp; (try with_reducible rfl))
  try simp only [Act.put, List.setIfInBounds_toArray, List.set_cons_zero, List.set_cons_succ]
  refine wpAnyH_take (i := 1) (v := .int .i64 r.code) (by simp only [List.getElem?_toArray, List.getElem?_cons_zero, List.getElem?_cons_succ]; rfl) (by kernel_rfl) (by kernel_rfl) (by kernel_rfl) (by exact fun _ _ _ h => h) (Or.inl ⟨by rfl, fun w hSw => xl_cell 33 hSw rfl rfl Tryd.underlying33 rfl (rpV_0 r)⟩) (by assumption) ?_
  try simp only [Act.put, List.setIfInBounds_toArray, List.set_cons_zero, List.set_cons_succ]
  refine wpAnyH_take (i := 4) (v := ?_) (by simp only [List.getElem?_toArray, List.getElem?_cons_zero, List.getElem?_cons_succ]; rfl) (by kernel_rfl) (by kernel_rfl) (by kernel_rfl) (by exact fun _ _ _ h => h) (Or.inl ⟨by rfl, ?_⟩) (by assumption) ?_
  rotate_left
  · (intro w hSw; (try dsimp only at hSw); go_simp; (try with_reducible rfl))
  try simp only [Act.put, List.setIfInBounds_toArray, List.set_cons_zero, List.set_cons_succ]
  refine wpAnyH_take (i := 5) (v := .int .u64 (r.now : Int)) (by simp only [List.getElem?_toArray, List.getElem?_cons_zero, List.getElem?_cons_succ]; rfl) (by kernel_rfl) (by kernel_rfl) (by kernel_rfl) (by exact fun _ _ _ h => h) (Or.inl ⟨by rfl, fun w hSw => xl_cell 22 hSw rfl rfl Tryd.underlying22 rfl (rpV_1 r)⟩) (by assumption) ?_
  try simp only [Act.put, List.setIfInBounds_toArray, List.set_cons_zero, List.set_cons_succ]
  refine wpAnyH_ready (rs := [2]) (by kernel_rfl) (by simp) ?_
  refine AllReadyH.cons (by simp only [List.getElem?_toArray, List.getElem?_cons_zero, List.getElem?_cons_succ]; rfl) (fun K hK => ?_) AllReadyH.nil
  go_simp
  go_at_call 29
  (with_reducible refine (k0 _).mono ?_)
  rintro e w3 ⟨rfl, T2⟩
  replace X1 := X1.below T2
  replace T1 := ups T1 T2 T1.size
  clear T2
  refine hK.out _ _ X1 (fun hHeld => ?_)
  clear hK K
  try simp only [Act.put, List.setIfInBounds_toArray, List.set_cons_zero, List.set_cons_succ]
  refine wpAnyH_take (i := 3) (v := .string (bs P0)) (by simp only [List.getElem?_toArray, List.getElem?_cons_zero, List.getElem?_cons_succ]; rfl) (by kernel_rfl) (by kernel_rfl) (by kernel_rfl) (by exact fun _ _ _ h => h) (Or.inl ⟨by rfl, fun w hSw => (by rw [← hP0.out]; exact xl_add (by simp only [List.length_singleton]; omega) rfl rfl rfl)⟩) (by assumption) ?_
  try simp only [Act.put, List.setIfInBounds_toArray, List.set_cons_zero, List.set_cons_succ]
  refine wpAnyH_ready (rs := [6]) (by kernel_rfl) (by simp) ?_
  refine AllReadyH.cons (by simp only [List.getElem?_toArray, List.getElem?_cons_zero, List.getElem?_cons_succ]; rfl) (fun K hK => ?_) AllReadyH.nil
  go_simp
  go_at_call 28
  (with_reducible refine (k1 _).mono ?_)
  rintro e w4 ⟨rfl, T2⟩
  replace X1 := X1.below T2
  replace T1 := ups T1 T2 T1.size
  clear T2
  refine hK.out _ _ X1 (fun hHeld => ?_)
  clear hK K
  try simp only [Act.put, List.setIfInBounds_toArray, List.set_cons_zero, List.set_cons_succ]
  refine wpAnyH_take (i := 7) (v := .string (bs P)) (by simp only [List.getElem?_toArray, List.getElem?_cons_zero, List.getElem?_cons_succ]; rfl) (by kernel_rfl) (by kernel_rfl) (by kernel_rfl) (by exact fun _ _ _ h => h) (Or.inl ⟨by rfl, fun w hSw => (by rw [← hP.out]; exact xl_add (by omega) rfl rfl rfl)⟩) (by assumption) ?_
  try simp only [Act.put, List.setIfInBounds_toArray, List.set_cons_zero, List.set_cons_succ]
  refine wpAnyH_take (i := 8) (v := ?_) (by simp only [List.getElem?_toArray, List.getElem?_cons_zero, List.getElem?_cons_succ]; rfl) (by kernel_rfl) (by kernel_rfl) (by kernel_rfl) (by exact fun _ _ _ h => h) (Or.inl ⟨by rfl, ?_⟩) (by assumption) ?_
  rotate_left
  · (intro w hSw; (try dsimp only at hSw); go_simp; (try with_reducible rfl))
  try simp only [Act.put, List.setIfInBounds_toArray, List.set_cons_zero, List.set_cons_succ]
  refine wpAnyH_done (by kernel_rfl) ?_ _
  clear k0 k1 hHeld
  have hK := rnumbers_any r
  clear hl1 l0 l1
  go_wp2_with (first
    | (refine wl_load 35 X1 rfl rfl rfl Tryd.underlying35 rfl size35 (by omega : 2 + 8 ≤ 10) (rpV_st r) ?_)
    | (go_at_call 32; (with_reducible refine (hK _).mono ?_); rintro e w5 ⟨g, rfl, hg, G5, T5⟩; have T6 := ups T1 T5 T1.size; have hwg := Nat.le_trans T1.size hg))
  clear X1 T1 T5 hK hg
  go_loopw [4, 6] (fun s4 s6 wr => ∃ j : Nat, s4 = .string (bs (P ++ flN r j)) ∧ s6 = .int .i64 j ∧ j ≤ 8 ∧ Box wr g (stV r) 22 ∧ Below w.heap.size w wr) (fun _ s6 _ => 8 - (intOf s6).toNat)
  case atStart => exact ⟨0, by rw [show flN r 0 = [] from rfl, List.append_nil], rfl, Nat.zero_le _, G5, T6⟩
  case round =>
    clear G5 T6
    obtain ⟨j, rfl, rfl, hj, G, T⟩ := hrel
    by_cases hlt : j < 8
    · have j0 : (j : Int) < 8 := by omega
      obtain ⟨n, hn, hc⟩ := stV_at r j hlt
      have hcell : wr.cell? ⟨g, j, none⟩ = some (.int .u64 (n : Int)) := (G.cell j).trans hc
      have hnb := hnl.out n (List.mem_of_getElem? hn)
      have hl := hfl.out j hj
      have hl3 := numL_le10 hnb
      have hK := RNum_any n hnb wr
      have hadd := add_sum (P ++ flN r j) (numL n) (by rw [List.length_append]; omega)
      have hnx := flN_next hn
      replace hnx := Lib.hid hnx
      clear hn hc hnb hl hl3
      generalize numL n = M at *
      generalize flN r j = Y at *
      go_wp2_with (go_at_call 28; (with_reducible refine hK.mono ?_); rintro e w6 ⟨rfl, T6⟩)
      go_roundw
      case rel => exact ⟨j + 1, by rw [hnx.out], by simp, hlt, G.below T6, ups T T6 T.size⟩
      case measure => simp only [intOf]; omega
    · obtain rfl : j = 8 := by omega
      go_wp2
      go_ret2
      exact ⟨by simp, T⟩
end Go.Proofs.YtamjnekdfhocdaaDoor
