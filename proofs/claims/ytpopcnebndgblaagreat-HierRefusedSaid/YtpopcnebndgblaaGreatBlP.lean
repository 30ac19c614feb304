/- Whether one curve is below another one: the program's own answer. No condition but words, and what the sort is said to do. -/
import Derived.Test.YtpopcnebndgblaaGreatBlM
namespace Go.Proofs.YtpopcnebndgblaaGreat
open Go.RowKit Go.Shelf W
set_option linter.unusedVariables false
set_option maxHeartbeats 2000000 in
theorem blP_no (f l r f' l' r' : Int) (w : World) (mb : Bool) (hM : ∀ w, Calls Tryz.prog 74 #[.agg #[eU f, eU l, eU r]] w fun e w' => e = .returned (.bool mb) ∧ Below w.heap.size w w')
    (h : Hid (mb = false ∨ (mb = true ∧ ∃ nb, (∀ w, Calls Tryz.prog 74 #[.agg #[eU f', eU l', eU r']] w fun e w' => e = .returned (.bool nb) ∧ Below w.heap.size w w') ∧ (nb = false ∨ (nb = true ∧ r' < r))))) :
    Calls Tryz.prog 77 #[.agg #[eU f, eU l, eU r], .agg #[eU f', eU l', eU r']] w fun e w' => e = .returned (.bool false) ∧ Below w.heap.size w w' := by
  have BA := (Box.new w 32 #[eU f, eU l, eU r]).alloc (.cells #[eU f', eU l', eU r'] 32)
  have BB := Box.new (w.alloc (.cells #[eU f, eU l, eU r] 32)) 32 #[eU f', eU l', eU r']
  simp only [World.size_alloc] at BB
  have T := up2 w (.cells #[eU f, eU l, eU r] 32) (.cells #[eU f', eU l', eU r'] 32)
  rcases h.out with rfl | ⟨rfl, nb, hN, h2⟩
  · clear h
    go_enter Tryz.func77, Tryz.ntmps77
    go_wp2_with (go_at_call 74; (with_reducible refine (hM _).mono ?_); rintro e w1 ⟨rfl, hb⟩; replace T := up T hb (by simp; omega); replace BA := BA.below hb; replace BB := BB.below hb; obtain ⟨a0, a1, a2, a3⟩ := BA.tri; obtain ⟨b0, b1, b2, b3⟩ := BB.tri)
    go_ret
    exact ⟨rfl, T⟩
  · clear h
    rcases h2 with rfl | ⟨rfl, h3⟩
    · go_enter Tryz.func77, Tryz.ntmps77
      go_wp2_with (first
        | (go_at_call 74; (with_reducible refine (hM _).mono ?_); rintro e w1 ⟨rfl, hb⟩; replace T := up T hb (by simp; omega); replace BA := BA.below hb; replace BB := BB.below hb; obtain ⟨a0, a1, a2, a3⟩ := BA.tri; obtain ⟨b0, b1, b2, b3⟩ := BB.tri; clear hb hM)
        | (go_at_call 74; (with_reducible refine (hN _).mono ?_); rintro e w2 ⟨rfl, hb⟩; replace T := up T hb T.size; replace BA := BA.below hb; replace BB := BB.below hb; obtain ⟨a0, a1, a2, a3⟩ := BA.tri; obtain ⟨b0, b1, b2, b3⟩ := BB.tri; clear hb hN))
      go_ret
      exact ⟨rfl, T⟩
    · go_enter Tryz.func77, Tryz.ntmps77
      go_wp2_with (first
        | (go_at_call 74; (with_reducible refine (hM _).mono ?_); rintro e w1 ⟨rfl, hb⟩; replace T := up T hb (by simp; omega); replace BA := BA.below hb; replace BB := BB.below hb; obtain ⟨a0, a1, a2, a3⟩ := BA.tri; obtain ⟨b0, b1, b2, b3⟩ := BB.tri; clear hb hM)
        | (go_at_call 74; (with_reducible refine (hN _).mono ?_); rintro e w2 ⟨rfl, hb⟩; replace T := up T hb T.size; replace BA := BA.below hb; replace BB := BB.below hb; obtain ⟨a0, a1, a2, a3⟩ := BA.tri; obtain ⟨b0, b1, b2, b3⟩ := BB.tri; clear hb hN))
      go_ret
      exact ⟨rfl, T⟩
end Go.Proofs.YtpopcnebndgblaaGreat
