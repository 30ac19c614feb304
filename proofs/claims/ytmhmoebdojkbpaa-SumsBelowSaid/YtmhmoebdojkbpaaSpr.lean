/- What is spare at a stretch's last tick. -/
import Derived.Test.YtmhmoebdojkbpaaEnd
namespace Go.Proofs.Ytmhmoebdojkbpaa
open Go.RowKit Go.Shelf Go.Maps W
set_option linter.unusedVariables false
set_option maxRecDepth 100000 in
set_option maxHeartbeats 4000000 in
theorem spare_of (fr tt sl h l rate mh ml eh el lh lo er q : Int) (bb : Bool) (w : World)
    (hM : ∀ w, Calls Try.prog 42 #[eU rate, eU tt] w fun e w' => e = .returned (.agg #[eU mh, eU ml]) ∧ Below w.heap.size w w')
    (hE : ∀ w, Calls Try.prog 53 #[.agg #[eU fr, eU tt, eU sl, eU h, eU l]] w fun e w' => e = .returned (.agg #[eU eh, eU el]) ∧ Below w.heap.size w w')
    (hP : ∀ w, Calls Try.prog 54 #[.agg #[eU mh, eU ml], .agg #[eU eh, eU el]] w fun e w' => e = .returned (.tuple #[.agg #[eU lh, eU lo], .int .i64 er]) ∧ Below w.heap.size w w')
    (hD : Hid ((er = 10 ∧ q = 0 ∧ bb = false) ∨ (er = 0 ∧ bb = true ∧ ∃ r ee : Int, ∀ w, Calls Try.prog 55 #[.agg #[eU lh, eU lo], eU tt] w fun e w' => e = .returned (.tuple #[eU q, eU r, .int .i64 ee]) ∧ Below w.heap.size w w'))) :
    Calls Try.prog 39 #[.agg #[eU fr, eU tt, eU sl, eU h, eU l], eU rate] w fun e w' => e = .returned (.tuple #[eU q, .bool bb]) ∧ Below w.heap.size w w' := by
  have HF : Fv (w.alloc (.cells #[eU fr, eU tt, eU sl, eU h, eU l] 66)) w.heap.size fr tt sl h l := Fv.of_box (Box.new w 66 _)
  have T : Below w.heap.size w (w.alloc (.cells #[eU fr, eU tt, eU sl, eU h, eU l] 66)) := up1 w _
  go_enter Try.func39, Try.ntmps39
  go_upto_region 1 with (fail)
  obtain ⟨W0, hW0⟩ : ∃ W0, (w.alloc (.cells #[eU fr, eU tt, eU sl, eU h, eU l] 66)) = W0 := ⟨_, rfl⟩
  rw [hW0] at HF T ⊢
  clear hW0
  obtain ⟨pF, aF, bF, cF, dF1, eF⟩ := id HF
  have q1 : w.heap.size ≠ W0.heap.size := Nat.ne_of_lt pF
  go_cut [6, 7] from 8 (fun s6 s7 wx => ∃ M : Nat, s6 = .pointer (some ⟨M, 0, none⟩) ∧ s7 = .int .i64 er ∧ Has wx M lh lo ∧ Fv wx w.heap.size fr tt sl h l ∧ Below w.heap.size w wx)
  case first =>
    go_region_held3 (fun w' => w'.cell? ⟨w.heap.size, 0, none⟩ = some (.int .u64 fr) ∧ w'.cell? ⟨w.heap.size, 1, none⟩ = some (.int .u64 tt) ∧ w'.cell? ⟨w.heap.size, 2, none⟩ = some (.int .u64 sl) ∧ w'.cell? ⟨w.heap.size, 3, none⟩ = some (.int .u64 h) ∧ w'.cell? ⟨w.heap.size, 4, none⟩ = some (.int .u64 l))
      (first | exact HF.2 | exact (HF.alloc _).2 | exact ((HF.setNe (Nat.ne_of_lt hR) _).setNe (Nat.ne_of_lt hR) _).2 | go_keep)
      (first
        | (go_at_call 42; (with_reducible refine (hM _).mono ?_); rintro e w1 ⟨rfl, hb⟩; (first | replace hb := undrew hb | replace hb := undrewN hb | skip); (first | (have HN := (Own.new _ 0 0).below hb; have hN := T.size; have hR := HF.1; replace T := up (T.alloc T.size _) hb (T.alloc T.size _).size; replace HF := (HF.alloc _).below hb) | (replace HN := HN.below hb; replace T := up T hb T.size; replace HF := HF.below hb) | (replace T := up T hb T.size; replace HF := HF.below hb)); (try (obtain ⟨⟨xN, yN, zN⟩, fN, gN⟩ := id HN)); obtain ⟨pF, aF, bF, cF, dF1, eF⟩ := id HF; clear hb)
        | (go_at_call 53; (with_reducible refine (hE _).mono ?_); rintro e w2 ⟨rfl, hb⟩; (first | replace hb := undrew hb | replace hb := undrewN hb | skip); (first | (have HN := (Own.new _ 0 0).below hb; have hN := T.size; have hR := HF.1; replace T := up (T.alloc T.size _) hb (T.alloc T.size _).size; replace HF := (HF.alloc _).below hb) | (replace HN := HN.below hb; replace T := up T hb T.size; replace HF := HF.below hb) | (replace T := up T hb T.size; replace HF := HF.below hb)); (try (obtain ⟨⟨xN, yN, zN⟩, fN, gN⟩ := id HN)); obtain ⟨pF, aF, bF, cF, dF1, eF⟩ := id HF; clear hb)
        | (go_at_call 54; (with_reducible refine (hP _).mono ?_); rintro e w3 ⟨rfl, hb⟩; (first | replace hb := undrew hb | replace hb := undrewN hb | skip); (first | (have HN := (Own.new _ 0 0).below hb; have hN := T.size; have hR := HF.1; replace T := up (T.alloc T.size _) hb (T.alloc T.size _).size; replace HF := (HF.alloc _).below hb) | (replace HN := HN.below hb; replace T := up T hb T.size; replace HF := HF.below hb) | (replace T := up T hb T.size; replace HF := HF.below hb)); (try (obtain ⟨⟨xN, yN, zN⟩, fN, gN⟩ := id HN)); obtain ⟨pF, aF, bF, cF, dF1, eF⟩ := id HF; clear hb))
    all_goals
      go_wp2_with fail
      go_meet
      first
        | exact ⟨_, rfl, rfl, Has.new _ _ _, HF.alloc _, T.alloc T.size _⟩
        | exact ⟨_, rfl, rfl, (HN.store lh lo).1, (HF.setNe (Nat.ne_of_lt hR) _).setNe (Nat.ne_of_lt hR) _, (T.setCell hN _).setCell hN _⟩
  case rest =>
    obtain ⟨M, rfl, rfl, HQ, HF2, T2⟩ := hcut
    obtain ⟨_, xQ, yQ⟩ := HQ
    clear hM hP hE HF T pF aF bF cF dF1 eF q1
    obtain ⟨pF, aF, bF, cF, dF1, eF⟩ := id HF2
    rcases hD.out with ⟨rfl, rfl, rfl⟩ | ⟨rfl, rfl, r, ee, hD'⟩
    · go_wp2
      go_ret2
      exact ⟨rfl, T2⟩
    · clear hD
      go_wp2_with (go_at_call 55; (with_reducible refine (hD' _).mono ?_); rintro e w5 ⟨rfl, hb5⟩)
      go_ret2
      exact ⟨rfl, up T2 hb5 T2.size⟩
end Go.Proofs.Ytmhmoebdojkbpaa
