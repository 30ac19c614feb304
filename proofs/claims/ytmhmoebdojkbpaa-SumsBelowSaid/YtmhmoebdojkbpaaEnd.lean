/- What a sum has at a stretch's last tick. -/
import Derived.Test.YtmhmoebdojkbpaaCrn
namespace Go.Proofs.Ytmhmoebdojkbpaa
open Go.RowKit Go.Shelf Go.Maps W
set_option linter.unusedVariables false
/-- Block B holds five words. -/
def Fv (w : World) (B : Nat) (a b c d e : Int) : Prop := B < w.heap.size ∧ (w.cell? ⟨B, 0, none⟩ = some (.int .u64 a) ∧ w.cell? ⟨B, 1, none⟩ = some (.int .u64 b) ∧ w.cell? ⟨B, 2, none⟩ = some (.int .u64 c) ∧ w.cell? ⟨B, 3, none⟩ = some (.int .u64 d) ∧ w.cell? ⟨B, 4, none⟩ = some (.int .u64 e))
theorem Fv.of_box {w : World} {B : Nat} {a b c d e : Int} {t : TypeId} (h : Box w B #[eU a, eU b, eU c, eU d, eU e] t) : Fv w B a b c d e :=
  ⟨h.lt, by simp [World.cell?, show w.heap[B]? = _ from h]⟩
theorem Fv.below {w w' : World} {B : Nat} {a b c d e : Int} (h : Fv w B a b c d e) (hb : Below w.heap.size w w') : Fv w' B a b c d e := by
  obtain ⟨h0, h1, h2, h3, h4, h5⟩ := h
  exact ⟨Nat.lt_of_lt_of_le h0 hb.size, (hb.cell (p := ⟨B, 0, none⟩) h0).trans h1, (hb.cell (p := ⟨B, 1, none⟩) h0).trans h2, (hb.cell (p := ⟨B, 2, none⟩) h0).trans h3, (hb.cell (p := ⟨B, 3, none⟩) h0).trans h4, (hb.cell (p := ⟨B, 4, none⟩) h0).trans h5⟩
theorem Fv.alloc {w : World} {B : Nat} {a b c d e : Int} (h : Fv w B a b c d e) (o : Obj) : Fv (w.alloc o) B a b c d e := h.below (up1 w o)
theorem Fv.setNe {w : World} {B : Nat} {a b c d e : Int} (h : Fv w B a b c d e) {p : Addr} (hne : B ≠ p.block) (v : Value) : Fv (w.setCell p v) B a b c d e := by
  obtain ⟨h0, h1, h2, h3, h4, h5⟩ := h
  have hh : (w.setCell p v).heap[B]? = w.heap[B]? := Below.heap_setCell w p v B hne
  exact ⟨by simpa [World.setCell] using h0, (World.cell?_of_block (a := ⟨B, 0, none⟩) hh).trans h1, (World.cell?_of_block (a := ⟨B, 1, none⟩) hh).trans h2, (World.cell?_of_block (a := ⟨B, 2, none⟩) hh).trans h3, (World.cell?_of_block (a := ⟨B, 3, none⟩) hh).trans h4, (World.cell?_of_block (a := ⟨B, 4, none⟩) hh).trans h5⟩
set_option maxRecDepth 100000 in
set_option maxHeartbeats 4000000 in
theorem end_of (fr tt sl h l d H L mh ml : Int) (w : World) (hd : tt - fr = d) (hdw : IntKind.u64.wrap d = d)
    (hM : ∀ w, Calls Try.prog 42 #[eU sl, eU d] w fun e w' => e = .returned (.agg #[eU mh, eU ml]) ∧ Below w.heap.size w w')
    (hP : ∀ w, Calls Try.prog 26 #[.agg #[eU h, eU l], .agg #[eU mh, eU ml]] w fun e w' => e = .returned (.tuple #[.agg #[eU H, eU L], .int .i64 0]) ∧ Below w.heap.size w w') :
    Calls Try.prog 53 #[.agg #[eU fr, eU tt, eU sl, eU h, eU l]] w fun e w' => e = .returned (.agg #[eU H, eU L]) ∧ Below w.heap.size w w' := by
  have HF : Fv ((w.alloc (.cells #[eU fr, eU tt, eU sl, eU h, eU l] 66)).alloc (.cells #[eU 0, eU 0] 25)) w.heap.size fr tt sl h l := (Fv.of_box (Box.new w 66 _)).alloc _
  have HR : Own ((w.alloc (.cells #[eU fr, eU tt, eU sl, eU h, eU l] 66)).alloc (.cells #[eU 0, eU 0] 25)) (w.heap.size + 1) 0 0 := by simpa using Own.new (w.alloc (.cells #[eU fr, eU tt, eU sl, eU h, eU l] 66)) 0 0
  have T : Below w.heap.size w ((w.alloc (.cells #[eU fr, eU tt, eU sl, eU h, eU l] 66)).alloc (.cells #[eU 0, eU 0] 25)) := up2 w _ _
  go_enter Try.func53, Try.ntmps53
  go_upto_region 1 with (fail)
  obtain ⟨W0, hW0⟩ : ∃ W0, ((w.alloc (.cells #[eU fr, eU tt, eU sl, eU h, eU l] 66)).alloc (.cells #[eU 0, eU 0] 25)) = W0 := ⟨_, rfl⟩
  rw [hW0] at HF HR T ⊢
  clear hW0
  obtain ⟨pF, aF, bF, cF, dF1, eF⟩ := id HF
  have q1 : w.heap.size ≠ W0.heap.size := Nat.ne_of_lt pF
  go_cut [3, 4] from 5 (fun s3 s4 wx => ∃ M : Nat, s3 = .pointer (some ⟨M, 0, none⟩) ∧ Has wx M H L ∧ Own wx (w.heap.size + 1) 0 0 ∧ Below w.heap.size w wx)
  case first =>
    go_region_held3 (fun w' => w'.cell? ⟨w.heap.size, 0, none⟩ = some (.int .u64 fr) ∧ w'.cell? ⟨w.heap.size, 1, none⟩ = some (.int .u64 tt) ∧ w'.cell? ⟨w.heap.size, 2, none⟩ = some (.int .u64 sl) ∧ w'.cell? ⟨w.heap.size, 3, none⟩ = some (.int .u64 h) ∧ w'.cell? ⟨w.heap.size, 4, none⟩ = some (.int .u64 l))
      (first | exact HF.2 | exact (HF.alloc _).2 | exact ((HF.setNe (by have := HN.lt; have := hN; simp; omega) _).setNe (by simp; omega) _).2 | go_keep)
      (first
        | (go_at_call 42; (with_reducible refine (hM _).mono ?_); rintro e w1 ⟨rfl, hb⟩; (first | replace hb := undrew hb | replace hb := undrewN hb | skip); (first | (have HN := (Own.new _ 0 0).below hb; have hN := T.size; have hR := HR.lt; replace T := up (T.alloc T.size _) hb (T.alloc T.size _).size; replace HF := (HF.alloc _).below hb; replace HR := (HR.alloc _).below hb) | (replace HN := HN.below hb; replace T := up T hb T.size; replace HF := HF.below hb; replace HR := HR.below hb) | (replace T := up T hb T.size; replace HF := HF.below hb; replace HR := HR.below hb)); (try (obtain ⟨⟨xN, yN, zN⟩, fN, gN⟩ := id HN)); obtain ⟨pF, aF, bF, cF, dF1, eF⟩ := id HF; clear hb)
        | (go_at_call 26; (with_reducible refine (hP _).mono ?_); rintro e w2 ⟨rfl, hb⟩; (first | replace hb := undrew hb | replace hb := undrewN hb | skip); (first | (have HN := (Own.new _ 0 0).below hb; have hN := T.size; have hR := HR.lt; replace T := up (T.alloc T.size _) hb (T.alloc T.size _).size; replace HF := (HF.alloc _).below hb; replace HR := (HR.alloc _).below hb) | (replace HN := HN.below hb; replace T := up T hb T.size; replace HF := HF.below hb; replace HR := HR.below hb) | (replace T := up T hb T.size; replace HF := HF.below hb; replace HR := HR.below hb)); (try (obtain ⟨⟨xN, yN, zN⟩, fN, gN⟩ := id HN)); obtain ⟨pF, aF, bF, cF, dF1, eF⟩ := id HF; clear hb))
    all_goals
      go_wp2_with fail
      go_meet
      first
        | exact ⟨_, rfl, Has.new _ _ _, HR.alloc _, T.alloc T.size _⟩
        | exact ⟨_, rfl, (HN.store H L).1, (HR.setNe (Nat.ne_of_lt hR) _).setNe (Nat.ne_of_lt hR) _, (T.setCell hN _).setCell hN _⟩
  case rest =>
    obtain ⟨M, rfl, HQ, HR2, T2⟩ := hcut
    obtain ⟨_, xQ, yQ⟩ := HQ
    obtain ⟨⟨xR, yR, zR⟩, fR, gR⟩ := id HR2
    clear hM hP HF HR T pF aF bF cF dF1 eF q1
    go_wp2
    obtain ⟨_, c0, c1⟩ := (HR2.store H L).1
    refine bodyPost_ret (v := .agg #[eU H, eU L]) (by simp [results, Try.results53, go_sem, c0, c1]) rfl ⟨rfl, (T2.setCell (p := ⟨w.heap.size + 1, 0, none⟩) (Nat.le_succ _) _).setCell (p := ⟨w.heap.size + 1, 1, none⟩) (Nat.le_succ _) _⟩
end Go.Proofs.Ytmhmoebdojkbpaa
