/- Each of a table: what its iterator goes over. No condition but what Next and Get answer meanwhile. -/
import Derived.Test.YtenghpgnhmglpaaDoorRtS
namespace Go.Proofs.YtenghpgnhmglpaaDoor
open Go.RowKit Go.Shelf
set_option linter.unusedVariables false
set_option linter.unusedSimpArgs false
attribute [local go_sem] Oper.semAt_some
theorem each_any (p : Option Addr) (w : World) : Calls Tryd.prog 14 #[.pointer p] w fun e w' => e = .returned (.func (.func 32) #[] #[.pointer (some ⟨w.heap.size, 0, none⟩)]) ∧ w' = w.alloc (.cells #[.pointer p] 23) := by
  have hmf : ∀ (fn : Fn) (first cap : Array Value) (w : World), (Instr.makeFunc fn first cap).run Tryd.prog w = .ok (.func fn first cap) w := fun _ _ _ _ => rfl
  go_enter Tryd.func14, Tryd.ntmps14
  go_wp2
  go_ret
  exact ⟨rfl, rfl⟩
/-- The last id that came; 0: none has. -/
def lastI (pre : List Im) : Int := match pre.getLast? with
  | none => 0
  | some z => z.id
def nI : Option Im → Int
  | none => 0
  | some z => z.id
theorem nI_some (z : Im) : nI (some z) = z.id := rfl
theorem nextV_n (o : Option Im) : nextV (o.map (·.id)) = .tuple #[eI (nI o), .bool o.isSome] := by cases o <;> rfl
/-- What is told when such a part of the row has come. -/
def StepT (tv : Value) (L pre : List Im) (W : World) : Prop := ∀ X, Below W.heap.size W X →
  (Calls Tryd.prog 25 #[tv, eI (lastI pre)] X fun e w' => e = .returned (.tuple #[eI (nI L[pre.length]?), .bool L[pre.length]?.isSome]) ∧ Below X.heap.size X w') ∧
  ∀ z, L[pre.length]? = some z → Calls Tryd.prog 15 #[tv, eI z.id] X fun e w' => e = .returned (.tuple #[eU z.v, .bool true]) ∧ Below X.heap.size X w'
theorem lastI_snoc (pre : List Im) (z : Im) : lastI (pre ++ [z]) = z.id := by unfold lastI; rw [List.getLast?_concat]
/-- How many are still to come. -/
def leftI (L : List Im) (s3 s4 : Value) : Nat := match s4 with
  | .bool true => L.countP (fun a => decide (intOf s3 ≤ a.id)) + 1
  | _ => 0
theorem left_less {L : List Im} (hr : Rise L) {k : Nat} (hk : k < L.length) : leftI L (eI (nI L[k + 1]?)) (.bool L[k + 1]?.isSome) < leftI L (eI L[k].id) (.bool true) := by
  by_cases h : k + 1 < L.length
  · rw [List.getElem?_eq_getElem h]
    show L.countP (fun a => decide (L[k + 1].id ≤ a.id)) + 1 < L.countP (fun a => decide (L[k].id ≤ a.id)) + 1
    have hlt : L[k].id < L[k + 1].id := List.pairwise_iff_getElem.1 hr k (k + 1) (by omega) h (by omega)
    have h1 : L.countP (fun a => decide (L[k + 1].id ≤ a.id)) + (L.countP (fun a => decide (L[k].id = a.id))) ≤ L.countP (fun a => decide (L[k].id ≤ a.id)) := by
      clear hr
      generalize L[k].id = x at *
      generalize L[k + 1].id = y at *
      clear h hk
      induction L with
      | nil => simp
      | cons b L ih =>
        rw [List.countP_cons, List.countP_cons, List.countP_cons]
        by_cases a1 : y ≤ b.id
        · have a2 : x ≤ b.id := by omega
          have a3 : ¬ x = b.id := by omega
          simp [a1, a2, a3]; omega
        · by_cases a3 : x = b.id
          · have a2 : x ≤ b.id := by omega
            simp [a1, a2, a3] at ih ⊢; omega
          · by_cases a2 : x ≤ b.id <;> simp [a1, a2, a3] <;> omega
    have h2 : 0 < L.countP (fun a => decide (L[k].id = a.id)) := List.countP_pos_iff.2 ⟨L[k], List.getElem_mem hk, by simp⟩
    omega
  · rw [List.getElem?_eq_none (by omega)]
    show 0 < L.countP _ + 1
    omega
theorem pre_snoc {pre L : List Im} (h : pre <+: L) {z : Im} (hz : L[pre.length]? = some z) : pre ++ [z] <+: L := by
  obtain ⟨s, hs⟩ := h
  subst hs
  rw [List.getElem?_append_right (Nat.le_refl _), Nat.sub_self] at hz
  cases s with
  | nil => simp at hz
  | cons a s => simp at hz; subst hz; exact ⟨s, by simp⟩
theorem pre_all {pre L : List Im} (h : pre <+: L) (hz : L[pre.length]? = none) : pre = L := by
  obtain ⟨s, hs⟩ := h
  subst hs
  rw [List.getElem?_append_right (Nat.le_refl _), Nat.sub_self] at hz
  cases s with
  | nil => simp
  | cons a s => simp at hz
set_option maxHeartbeats 2000000 in
theorem each1_seq (n b n₀ : Nat) (p : Option Addr) (L : List Im) (T : List Im → World → Prop) (w : World) (hn : n₀ ≤ w.heap.size) (h8 : 8 ≤ n) (hr : Rise L) (hT : ∀ pre Y, pre <+: L → Below n₀ w Y → T pre Y → Box Y b #[.pointer p] 23 ∧ StepT (.pointer p) L pre Y) :
    SeqD n 32 #[.pointer (some ⟨b, 0, none⟩)] imE n₀ T (fun xs => xs = L) (fun pre => pre <+: L) (fun pre z => pre ++ [z] <+: L) w := by
  intro l J Jx W hW hJ hJx hJT hY h0
  have hdd : ∀ k : Nat, (Fence.wide.depth.isSome = true → 1 ≤ k) := fun k h => by cases h
  have hEq : ∀ w : World, (binOp BinOp.eql 66 (.func (.yield l) #[] #[]) .nilFunc).run Tryd.prog w = .ok (.bool false) w := fun _ => by kernel_rfl
  obtain ⟨b0, s0⟩ := hT [] W List.nil_prefix (hW.mono hn) (hJT _ _ h0)
  have c0 := b0.cell 0
  have hN := (s0 W (Below.refl _ _)).1
  replace hN : Calls Tryd.prog 25 #[.pointer p, eI 0] W fun e w' => e = .returned (.tuple #[eI (nI L[0]?), .bool L[0]?.isSome]) ∧ Below W.heap.size W w' := hN
  refine callsIn_of_wp Tryd.func32 rfl trivial ?_ rfl
  simp only [Tryd.ntmps32, List.size_toArray, List.length_cons, List.length_nil, Nat.reduceAdd, Nat.reduceSub, Array.replicate_succ, Array.replicate_zero, List.push_toArray, List.append_toArray, List.nil_append, List.cons_append]
  gi_wp2_with ((try refine ⟨trivial, ?_⟩); (try refine ⟨hdd _, ?_⟩); (gi_at_call 25; (with_reducible refine (callsIn_wide.2 hN).mono ?_); rintro e w1 ⟨rfl, hb1⟩))
  have hj1 : J [] w1 := hJ _ _ _ h0 hb1
  have T1 : Below n₀ W w1 := hb1.mono (Nat.le_trans hn hW.size)
  clear c0 hN b0 s0
  gi_loopw [3, 4] (fun s3 s4 wr => ∃ pre : List Im, pre <+: L ∧ s3 = eI (nI L[pre.length]?) ∧ s4 = .bool L[pre.length]?.isSome ∧ J pre wr ∧ Below n₀ W wr ∧ W.heap.size ≤ wr.heap.size) (fun s3 s4 _ => leftI L s3 s4)
  case atStart => exact ⟨[], List.nil_prefix, rfl, rfl, hj1, T1, hb1.size⟩
  case round =>
    obtain ⟨pre, hp, rfl, rfl, hj, hTb, hsz⟩ := hrel
    cases ho : L[pre.length]? with
    | none =>
      have hall := pre_all hp ho
      gi_wp2
      go_end0
      exact ⟨⟨_, rfl⟩, .inl ⟨L, rfl, by rw [← hall]; exact hj⟩⟩
    | some z =>
      have hk : pre.length < L.length := (List.getElem?_eq_some_iff.1 ho).1
      have hzz : L[pre.length] = z := by rw [List.getElem?_eq_getElem hk] at ho; cases ho; rfl
      have hlt := left_less hr hk
      rw [hzz] at hlt
      have hlth := Lib.hid hlt
      obtain ⟨b1, st⟩ := hT pre wr hp ((hW.mono hn).trans hTb) (hJT _ _ hj)
      have c1 := b1.cell 0
      have hG := (st wr (Below.refl _ _)).2 z ho
      have hsn := pre_snoc hp ho
      have hlen : (pre ++ [z]).length = pre.length + 1 := by simp
      have hoh := Lib.hid ho
      clear hlt ho
      simp only [nI_some, Option.isSome_some]
      gi_upto_region 4 with ((try refine ⟨trivial, ?_⟩); (try refine ⟨hdd _, ?_⟩); (gi_at_call 15; (with_reducible refine (callsIn_wide.2 hG).mono ?_); rintro e w3 ⟨rfl, hb3⟩))
      have hj3 : J pre w3 := hJ _ _ _ hj hb3
      have hz3 := hb3.size
      have T3 : Below n₀ W w3 := hTb.trans (hb3.mono (Nat.le_trans hn (Nat.le_trans hW.size hsz)))
      obtain ⟨fn, tmps, assign, body, hy, hR⟩ := hY pre z w3 (by omega) hj3 hsn
      have hB0 : ∀ W3, Below n₀ w3 W3 → Below n₀ W W3 := fun W3 hm => T3.trans hm
      replace hR := RoundIn.mono (F := Fence.wide) (R' := fun e W3 => (e = .returned (.bool true) ∧ J (pre ++ [z]) W3 ∧ Below n₀ W W3 ∧ W.heap.size ≤ W3.heap.size ∧ W3.cell? ⟨b, 0, none⟩ = some (.pointer p) ∧ Calls Tryd.prog 25 #[.pointer p, eI z.id] W3 fun e w' => e = .returned (.tuple #[eI (nI L[pre.length + 1]?), .bool L[pre.length + 1]?.isSome]) ∧ Below W3.heap.size W3 w') ∨ (e = .returned (.bool false) ∧ Jx (pre ++ [z]) W3)) hR (fun e W3 h => by
        rcases h with ⟨h1, h2, h3⟩ | ⟨h1, h2, h3⟩
        · obtain ⟨g1, g2⟩ := hT (pre ++ [z]) W3 hsn ((hW.mono hn).trans (hB0 W3 h3)) (hJT _ _ h2)
          have g3 := (g2 W3 (Below.refl _ _)).1
          rw [lastI_snoc, hlen] at g3
          exact .inl ⟨h1, h2, hB0 W3 h3, Nat.le_trans (by omega) h3.size, g1.cell 0, g3⟩
        · exact .inr ⟨h1, h2⟩)
      dsimp only [imE] at hy
      clear hG c1 b1 st hY hj hT hB0
      gi_wp2_with ((try refine ⟨trivial, ?_⟩); (try refine ⟨hdd _, ?_⟩); first
        | ((with_reducible refine RoundIn.mono hR ?_); clear hR; rintro e W3 (⟨rfl, hj4, hB4, hz4, c4, hN4⟩ | ⟨rfl, hj4⟩); all_goals (try dsimp only))
        | (gi_at_call 25; (with_reducible refine (callsIn_wide.2 hN4).mono ?_); clear hN4; rintro e w5 ⟨rfl, hb5⟩))
      · have hj5 : J (pre ++ [z]) w5 := hJ _ _ _ hj4 hb5
        have hz5 := hb5.size
        refine ⟨⟨pre ++ [z], hsn, by rw [hlen], by rw [hlen], hj5, hB4.trans (hb5.mono (Nat.le_trans hn (Nat.le_trans hW.size hz4))), by omega⟩, ?_⟩
        exact hlth.out
      · gi_wp2
        exact ⟨rfl, _, results_none rfl _ _ _, ⟨_, rfl⟩, .inr ⟨pre ++ [z], hsn, hj4⟩⟩
end Go.Proofs.YtenghpgnhmglpaaDoor
