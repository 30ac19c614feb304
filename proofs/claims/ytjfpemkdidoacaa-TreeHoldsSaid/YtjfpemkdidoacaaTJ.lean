/- A walk over the tree's nodes, by keys, till the one who asks says no: what the calls walk and each answer. No condition. -/
import Derived.Test.YtjfpemkdidoacaaSeq
namespace Go.Proofs.Ytjfpemkdidoacaa
open Go.RowKit Go.Shelf
set_option linter.unusedVariables false
attribute [local go_sem] Oper.semAt_some
abbrev Nx2 := Pt × It
/-- The tree's nodes, by keys. -/
def IsLs (n : Nat) (W : World) : Pt → Tr → List Nx2 → Prop
  | p, .nil, L => p = none ∧ L = []
  | p, .nd m r a b, L => ∃ (B : Nat) (pl pr : Pt) (s : Int) (La Lb : List Nx2), p = some ⟨B, 0, none⟩ ∧ B < n ∧ Box W B (node m r pl pr s) 80 ∧ IsLs n W pl a La ∧ IsLs n W pr b Lb ∧ L = La ++ (p, m) :: Lb
theorem IsLs.below {n : Nat} {W w : World} (hb : Below n W w) : ∀ {p : Pt} {t : Tr} {L : List Nx2}, IsLs n W p t L → IsLs n w p t L
  | _, .nil, _, h => h
  | _, .nd m r a b, _, ⟨B, pl, pr, s, La, Lb, e, hB, hx, hl, hr, hL⟩ => ⟨B, pl, pr, s, La, Lb, e, hB, hx.under hb hB, hl.below hb, hr.below hb, hL⟩
/-- A node that lies below n. -/
def NdAt (n : Nat) (W : World) (x : Nx2) : Prop := ∃ (B : Nat) (r : Bool) (pl pr : Pt) (s : Int), x.1 = some ⟨B, 0, none⟩ ∧ B < n ∧ Box W B (node x.2 r pl pr s) 80 ∧ (Word x.2.1.1 ∧ Inte x.2.1.2 ∧ Word x.2.2)
theorem NdAt.below {n : Nat} {W w : World} {x : Nx2} (h : NdAt n W x) (hb : Below n W w) : NdAt n w x := by
  obtain ⟨B, r, pl, pr, s, e, hB, hx, hw⟩ := h
  exact ⟨B, r, pl, pr, s, e, hB, hx.under hb hB, hw⟩
theorem NdAt.nod {n : Nat} {W : World} {x : Nx2} (h : NdAt n W x) : ∃ r, Nod W x.1 x.2 r := by
  obtain ⟨B, r, pl, pr, s, e, hB, hx, hw⟩ := h
  exact ⟨r, B, pl, pr, s, e, hx, hw⟩
theorem IsTr.list {n : Nat} {W : World} : ∀ {p : Pt} {t : Tr}, IsTr n W p t → ∃ L, IsLs n W p t L ∧ L.map Prod.snd = t.items ∧ ∀ x ∈ L, NdAt n W x
  | _, .nil, h => ⟨[], ⟨h, rfl⟩, rfl, fun x hx => by cases hx⟩
  | p, .nd m r a b, ⟨B, pl, pr, e, hB, hx, hw, hl, hr⟩ => by
    obtain ⟨La, a1, a2, a3⟩ := IsTr.list hl
    obtain ⟨Lb, b1, b2, b3⟩ := IsTr.list hr
    refine ⟨La ++ (p, m) :: Lb, ⟨B, pl, pr, _, La, Lb, e, hB, hx, a1, b1, rfl⟩, by simp [a2, b2, Tr.items], fun x h => ?_⟩
    rcases List.mem_append.1 h with h | h
    · exact a3 x h
    · rcases List.mem_cons.1 h with rfl | h
      · exact ⟨B, r, pl, pr, _, e, hB, hx, hw⟩
      · exact b3 x h
theorem undef_ne (b : Bool) : ¬ undef = Value.bool b := fun h => by cases h
theorem YieldAt.anyDepth {m : Nat} (m' : Nat) {l : Nat} {args : Array Value} {W : World} {R : Ending → World → Prop} (h : YieldAt Fence.wide m Try.prog l args W R) : YieldAt Fence.wide m' Try.prog l args W R := by
  obtain ⟨fn, tmps, assign, body, hy, hR⟩ := h
  exact ⟨fn, tmps, assign, body, hy, hR.1, fun c cs _ => hR.2 c cs (fun d h => by cases h)⟩
set_option maxRecDepth 100000 in
set_option maxHeartbeats 2000000 in
theorem trip_in (l n₀ B0 : Nat) (L0 : List Nx2) (J Jx : List Nx2 → World → Prop)
    (hY : ∀ m pre x W, B0 ≤ W.heap.size → J pre W → pre ++ [x] <+: L0 → YieldAt Fence.wide m Try.prog l #[.pointer x.1] W fun e W' =>
      (e = .returned (.bool true) ∧ J (pre ++ [x]) W' ∧ Mid n₀ B0 W W') ∨ (e = .returned (.bool false) ∧ Jx (pre ++ [x]) W')) (t : Tr) :
    ∀ (n : Nat) (p : Pt) (pre L : List Nx2) (W : World), IsLs n₀ W p t L → B0 ≤ W.heap.size → J pre W → pre ++ L <+: L0 →
      CallsIn Fence.wide n Try.prog 68 #[.pointer p, .func (.yield l) #[] #[]] W fun e W' =>
        (e = .returned (.bool true) ∧ J (pre ++ L) W' ∧ Mid n₀ B0 W W') ∨ (e = .returned (.bool false) ∧ ∃ q, q ≠ [] ∧ q <+: L ∧ Jx (pre ++ q) W') := by
  induction t with
  | nil =>
    intro n p pre L W ht hz hJ _
    obtain ⟨rfl, rfl⟩ := ht
    refine callsIn_of_wp Try.func68 rfl trivial ?_ rfl
    simp only [Try.ntmps68, List.size_toArray, List.length_cons, List.length_nil, Nat.reduceAdd, Nat.reduceSub, Array.replicate_succ, Array.replicate_zero, List.push_toArray, List.append_toArray, List.nil_append, List.cons_append]
    have hu := undef_ne
    gi_wp2
    repeat (first | (refine ⟨trivial, ?_⟩; gi_wp2) | (refine ⟨fun _ h => (by cases h), ?_⟩; gi_wp2))
    go_ret
    exact .inl ⟨rfl, by simpa using hJ, Mid.refl _ _ _⟩
  | nd m r a b ihl ihr =>
    intro n p pre L W ht hz hJ hN
    obtain ⟨B, pl, pr, s, La, Lb, rfl, hB, hx, hl, hr, rfl⟩ := ht
    have hP1 : pre ++ La <+: L0 := List.IsPrefix.trans ⟨(some ⟨B, 0, none⟩, m) :: Lb, by simp⟩ hN
    have hP2 : pre ++ La ++ [(some ⟨B, 0, none⟩, m)] <+: L0 := List.IsPrefix.trans ⟨Lb, by simp⟩ hN
    have hP3 : pre ++ La ++ [(some ⟨B, 0, none⟩, m)] ++ Lb <+: L0 := by simpa using hN
    obtain ⟨c0, c1, c2, c3, c4, c5, c6⟩ := nodC hx
    have hy2 : ∀ W1, J (pre ++ La) W1 → Mid n₀ B0 W W1 → YieldAt Fence.wide (n - 1) Try.prog l #[.pointer (some ⟨B, 0, none⟩)] W1 fun e W2 =>
        (e = .returned (.bool true) ∧ J (pre ++ La ++ [(some ⟨B, 0, none⟩, m)]) W2 ∧ Mid n₀ B0 W W2 ∧ W2.cell? ⟨B, 5, none⟩ = some (.pointer pr) ∧ IsLs n₀ W2 pr b Lb ∧ B0 ≤ W2.heap.size) ∨ (e = .returned (.bool false) ∧ Jx (pre ++ La ++ [(some ⟨B, 0, none⟩, m)]) W2) := fun W1 hJ1 hb1 =>
      YieldAt.mono (hY (n - 1) _ (some ⟨B, 0, none⟩, m) W1 (Nat.le_trans hz hb1.size) hJ1 hP2) fun e W2 h => h.elim
        (fun ⟨he, hj, hb2⟩ => .inl ⟨he, hj, hb1.trans hb2, (nodC (hx.under (hb1.trans hb2).1 hB)).2.2.2.2.2.1, hr.below (hb1.trans hb2).1, Nat.le_trans hz (hb1.trans hb2).size⟩) .inr
    have ih1 := (ihl (n - 1) pl pre La W hl hz hJ hP1).mono (R' := fun e W1 =>
        (e = .returned (.bool true) ∧ YieldAt Fence.wide (n - 1) Try.prog l #[.pointer (some ⟨B, 0, none⟩)] W1 fun e W2 =>
          (e = .returned (.bool true) ∧ J (pre ++ La ++ [(some ⟨B, 0, none⟩, m)]) W2 ∧ Mid n₀ B0 W W2 ∧ W2.cell? ⟨B, 5, none⟩ = some (.pointer pr) ∧ IsLs n₀ W2 pr b Lb ∧ B0 ≤ W2.heap.size) ∨ (e = .returned (.bool false) ∧ Jx (pre ++ La ++ [(some ⟨B, 0, none⟩, m)]) W2)) ∨
        (e = .returned (.bool false) ∧ ∃ q, q ≠ [] ∧ q <+: La ∧ Jx (pre ++ q) W1))
      (fun e W1 h => h.elim (fun ⟨he, hj, hb1⟩ => .inl ⟨he, hy2 W1 hj hb1⟩) .inr)
    clear hy2 ihl
    refine callsIn_of_wp Try.func68 rfl trivial ?_ rfl
    simp only [Try.ntmps68, List.size_toArray, List.length_cons, List.length_nil, Nat.reduceAdd, Nat.reduceSub, Array.replicate_succ, Array.replicate_zero, List.push_toArray, List.append_toArray, List.nil_append, List.cons_append]
    have hu := undef_ne
    have hdd : ∀ k : Nat, (Fence.wide.depth.isSome = true → 1 ≤ k) := fun k h => by cases h
    gi_wp2_with (first
      | ((try refine ⟨trivial, ?_⟩); (try refine ⟨hdd _, ?_⟩); gi_at_call 68; refine ih1.mono ?_; clear ih1; rintro e W1 (⟨rfl, fn, tmps, assign, body, hy, hR⟩ | ⟨rfl, q, hq0, hq, hx1⟩))
      | ((try refine ⟨trivial, ?_⟩); (try refine ⟨hdd _, ?_⟩); refine hR.mono ?_; clear hR; rintro e W2 (⟨rfl, hJ2, hb2, c2', hr2, hz2⟩ | ⟨rfl, hx2⟩))
      | ((try refine ⟨trivial, ?_⟩); (try refine ⟨hdd _, ?_⟩); gi_at_call 68; refine (ihr (n - 1) pr _ Lb _ hr2 hz2 hJ2 hP3).mono ?_; rintro e W3 (⟨rfl, hJ3, hb3⟩ | ⟨rfl, q, hq0, hq, hx3⟩)))
    all_goals (repeat (first | (refine ⟨trivial, ?_⟩; gi_wp2) | (refine ⟨fun _ h => (by cases h), ?_⟩; gi_wp2)))
    all_goals go_ret
    · exact .inl ⟨rfl, by simpa using hJ3, hb2.trans hb3⟩
    · obtain ⟨z, hz'⟩ := hq
      exact .inr ⟨rfl, La ++ (some ⟨B, 0, none⟩, m) :: q, by simp, ⟨z, by simp [← hz']⟩, by simpa using hx3⟩
    · exact .inr ⟨rfl, La ++ [(some ⟨B, 0, none⟩, m)], by simp, ⟨Lb, by simp⟩, by simpa using hx2⟩
    · exact .inr ⟨rfl, q, hq0, hq.trans (by simp), hx1⟩
theorem each_any (p : Pt) (w : World) : Calls Try.prog 53 #[.pointer p] w fun e w' => e = .returned (.func (.func 67) #[] #[.pointer (some ⟨w.heap.size, 0, none⟩)]) ∧ w' = w.alloc (.cells #[.pointer p] 55) := by
  go_enter Try.func53, Try.ntmps53
  go_wp2
  go_ret
  exact ⟨rfl, rfl⟩
set_option maxHeartbeats 1000000 in
theorem each1_seq (n Bt n₀ : Nat) (p : Pt) (t : Tr) (L : List Nx2) (w : World) (hn : n₀ ≤ w.heap.size) (hB : Box w Bt #[.pointer p] 55) (hL : IsLs n₀ w p t L) :
    SeqC n 67 #[.pointer (some ⟨Bt, 0, none⟩)] (fun x : Nx2 => #[.pointer x.1]) n₀ (fun ys => ys = L) (fun pre => pre ≠ [] ∧ pre <+: L) (fun pre x => pre ++ [x] <+: L) w := by
  intro l J Jx W hW _ _ hY h0
  have hp := trip_in l n₀ W.heap.size L J Jx (fun m pre x W1 h1 h2 h3 => YieldAt.anyDepth m (YieldAt.mono (hY pre x W1 h1 h2 h3) fun e W' h => h.elim .inl fun ⟨a, b, _⟩ => .inr ⟨a, b⟩)) t (n - 1) p [] L W (hL.below (hW.mono hn)) (Nat.le_refl _) h0 (by simp)
  have cB := (hB.below hW).cell 0
  have hdd : ∀ k : Nat, (Fence.wide.depth.isSome = true → 1 ≤ k) := fun k h => by cases h
  clear hB hL
  refine callsIn_of_wp Try.func67 rfl trivial ?_ rfl
  simp only [Try.ntmps67, List.size_toArray, List.length_cons, List.length_nil, Nat.reduceAdd, Nat.reduceSub, Array.replicate_succ, Array.replicate_zero, List.push_toArray, List.append_toArray, List.nil_append, List.cons_append]
  gi_wp2_with ((try refine ⟨trivial, ?_⟩); (try refine ⟨hdd _, ?_⟩); gi_at_call 68; refine hp.mono ?_; clear hp; rintro e W1 (⟨rfl, hJ1, _⟩ | ⟨rfl, q, hq0, hq, hx⟩))
  · go_end0
    exact ⟨⟨_, rfl⟩, .inl ⟨_, rfl, by simpa using hJ1⟩⟩
  · go_end0
    exact ⟨⟨_, rfl⟩, .inr ⟨q, ⟨hq0, hq⟩, by simpa using hx⟩⟩
end Go.Proofs.Ytjfpemkdidoacaa
