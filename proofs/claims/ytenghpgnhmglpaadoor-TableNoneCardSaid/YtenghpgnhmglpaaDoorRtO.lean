/- A nil table, and one that nobody made: it tells nothing, and takes nothing. No condition. -/
import Derived.Test.YtenghpgnhmglpaaDoorTbT
namespace Go.Proofs.YtenghpgnhmglpaaDoor
open Go.RowKit Go.Shelf
set_option linter.unusedVariables false
set_option linter.unusedSimpArgs false
attribute [local go_sem] Oper.semAt_some
/-- Nil, or a pointer to such a table. -/
def NoneT (w : World) (p : Option Addr) : Prop := p = none ∨ ∃ B, p = some ⟨B, 0, none⟩ ∧ Box w B #[.map none, .slice none 0 0, eI 0] 50
theorem NoneT.below {w w' : World} {p : Option Addr} (h : NoneT w p) (k : Below w.heap.size w w') : NoneT w' p := by
  rcases h with h | ⟨B, h, b⟩
  · exact .inl h
  · exact .inr ⟨B, h, b.below k⟩
section
variable {w : World} {p : Option Addr}
theorem made_no (h : NoneT w p) : Calls Tryd.prog 26 #[.pointer p] w fun e w' => e = .returned (.bool false) ∧ w = w' := by
  rcases h with rfl | ⟨B, rfl, b⟩
  · exact made_nil w
  · exact made_zero b
theorem wrong_no (h : NoneT w p) (k : Int) : Calls Tryd.prog 34 #[.pointer p, eI k] w fun e w' => e = .returned (eI 1) ∧ w = w' := by
  have hM := made_no h
  have hu := undef_ne
  go_enter Tryd.func34, Tryd.ntmps34
  go_wp2_with (go_at_call 26; (with_reducible refine hM.mono ?_); rintro e w1 ⟨rfl, rfl⟩)
  go_ret
  exact ⟨rfl, rfl⟩
theorem put_no (h : NoneT w p) (k x : Int) : Calls Tryd.prog 16 #[.pointer p, eI k, eU x] w fun e w' => e = .returned (eI 1) ∧ w = w' := by
  have hM := wrong_no h k
  have hu := undef_ne
  go_enter Tryd.func16, Tryd.ntmps16
  go_wp2_with (go_at_call 34; (with_reducible refine hM.mono ?_); rintro e w1 ⟨rfl, rfl⟩)
  go_ret
  exact ⟨rfl, rfl⟩
theorem set_no (h : NoneT w p) (k x : Int) : Calls Tryd.prog 18 #[.pointer p, eI k, eU x] w fun e w' => e = .returned (eI 1) ∧ w = w' := by
  have hM := wrong_no h k
  have hu := undef_ne
  go_enter Tryd.func18, Tryd.ntmps18
  go_wp2_with (go_at_call 34; (with_reducible refine hM.mono ?_); rintro e w1 ⟨rfl, rfl⟩)
  go_ret
  exact ⟨rfl, rfl⟩
theorem drop_no (h : NoneT w p) (k : Int) : Calls Tryd.prog 17 #[.pointer p, eI k] w fun e w' => e = .returned (eI 1) ∧ w = w' := by
  have hM := wrong_no h k
  have hu := undef_ne
  go_enter Tryd.func17, Tryd.ntmps17
  go_wp2_with (go_at_call 34; (with_reducible refine hM.mono ?_); rintro e w1 ⟨rfl, rfl⟩)
  go_ret
  exact ⟨rfl, rfl⟩
theorem find_no (h : NoneT w p) (k : Int) : Calls Tryd.prog 33 #[.pointer p, eI k] w fun e w' => e = .returned (.tuple #[.pointer none, eI 0]) ∧ w = w' := by
  have hM := wrong_no h k
  have hu := undef_ne
  go_enter Tryd.func33, Tryd.ntmps33
  go_wp2_with (go_at_call 34; (with_reducible refine hM.mono ?_); rintro e w1 ⟨rfl, rfl⟩)
  go_ret2
  exact ⟨rfl, rfl⟩
theorem get_no (h : NoneT w p) (k : Int) : Calls Tryd.prog 15 #[.pointer p, eI k] w fun e w' => e = .returned (.tuple #[eU 0, .bool false]) ∧ Below w.heap.size w w' := by
  have hM := find_no h k
  have hu := undef_ne
  go_enter Tryd.func15, Tryd.ntmps15
  go_wp2_with (go_at_call 33; (with_reducible refine hM.mono ?_); rintro e w1 ⟨rfl, rfl⟩)
  go_ret2
  exact ⟨rfl, Below.refl _ _⟩
theorem len_no (h : NoneT w p) : Calls Tryd.prog 13 #[.pointer p] w fun e w' => e = .returned (eI 0) ∧ w = w' := by
  rcases h with rfl | ⟨B, rfl, b⟩
  · go_enter Tryd.func13, Tryd.ntmps13
    go_wp2
    go_ret
    exact ⟨rfl, rfl⟩
  · exact len_any (m := 0) b
theorem next_no (h : NoneT w p) (k : Int) : Calls Tryd.prog 25 #[.pointer p, eI k] w fun e w' => e = .returned (.tuple #[eI 0, .bool false]) ∧ Below w.heap.size w w' := by
  have hM := made_no h
  have hu := undef_ne
  go_enter Tryd.func25, Tryd.ntmps25
  go_wp2_with (go_at_call 26; (with_reducible refine hM.mono ?_); rintro e w1 ⟨rfl, rfl⟩)
  go_ret2
  exact ⟨rfl, Below.refl _ _⟩
theorem each_no (h : NoneT w p) : ∀ X, Below w.heap.size w X → Calls Tryd.prog 14 #[.pointer p] X fun e w' => ∃ b, e = .returned (.func (.func 32) #[] #[.pointer (some ⟨b, 0, none⟩)]) ∧ Below X.heap.size X w' ∧ X.heap.size ≤ b ∧ Box w' b #[.pointer p] 23 ∧ ∀ n n₀, 8 ≤ n → w.heap.size ≤ n₀ → n₀ ≤ w'.heap.size → SeqD n 32 #[.pointer (some ⟨b, 0, none⟩)] imE n₀ (fun _ Y => Box Y b #[.pointer p] 23) (fun xs => xs = []) (fun pre => pre <+: []) (fun pre z => pre ++ [z] <+: []) w' := fun X hX =>
  (each_any p X).mono fun e w' ⟨e1, e2⟩ => by
    have hb : Below X.heap.size X w' := by rw [e2]; exact up1 X _
    refine ⟨X.heap.size, e1, hb, Nat.le_refl _, by rw [e2]; exact Box.new X 23 _, fun n n₀ h8 h1 h2 => each1_seq n _ n₀ _ [] _ w' h2 h8 List.Pairwise.nil (fun pre Y hp hY hB => ⟨hB, fun Z hZ => ⟨?_, fun z hz => by simp at hz⟩⟩)⟩
    have T : Below w.heap.size w Y := (upp hX hb).trans (hY.mono h1)
    exact next_no (h.below (upp T hZ)) _
theorem NoneT.tells (h : NoneT w p) : Tells w (.pointer p) [] :=
  ⟨each_no h, fun X hX => ids_any p [] X (by decide) (fun Y hY => len_no (h.below (upp hX hY))) (each_no (h.below hX)), fun k X _ hX => get_no (h.below hX) k, fun k X _ hX => next_no (h.below hX) k, fun X hX => len_no (h.below hX)⟩
end
theorem copy_no (w : World) : Calls Tryd.prog 10 #[.pointer none, Value.nilFunc] w fun e w' => e = .returned (.pointer none) ∧ Below w.heap.size w w' := by
  have T1 := up1 w (.cells #[Value.nilFunc] 33)
  obtain ⟨w1, hw1⟩ : ∃ x, w.alloc (.cells #[Value.nilFunc] 33) = x := ⟨_, rfl⟩
  have hM := made_nil w1
  have hu := undef_ne
  rw [hw1] at T1
  refine (callsIn_wide (n := 14)).1 ?_
  refine callsIn_of_wp_marks Tryd.func10 rfl trivial ?_ rfl
  simp only [Tryd.ntmps10, List.size_toArray, List.length_cons, List.length_nil, Nat.reduceAdd, Nat.reduceSub, Array.replicate_succ, Array.replicate_zero, List.push_toArray, List.append_toArray, List.nil_append, List.cons_append]
  gi_wp2_with (refine ⟨trivial, ?_⟩; gi_at_call 26; (with_reducible refine (callsIn_wide.2 hM).mono ?_); rintro e w2 ⟨rfl, rfl⟩)
  exact ⟨_, results_tmp rfl _ _ _, rfl, T1⟩
end Go.Proofs.YtenghpgnhmglpaaDoor
