/- QueueNone: nobody's queues; its walk. No condition. -/
import Derived.Test.YtlfpaebfpmjclaaQM
namespace Go.Proofs.Ytlfpaebfpmjclaa
open Go.RowKit
set_option linter.unusedVariables false
/-- Nobody made the queue that q points to. -/
def Nob (w : World) (q : Option Addr) : Prop := ∀ w', Below w.heap.size w w' → Calls Try.prog 24 #[.pointer q] w' fun e w2 => e = .returned (.bool true) ∧ w' = w2
theorem Nob.below {w w' : World} {q : Option Addr} (h : Nob w q) (k : Below w.heap.size w w') : Nob w' q := fun w2 k2 => h w2 (ups k k2 k.size)
theorem nob_nil (w : World) : Nob w none := fun w' _ => none_nil w'
theorem nob_zero {w : World} {Z : Nat} (h : Box w Z (quA 0 0 0 0 (.slice none 0 0) 0) 44) : Nob w (some ⟨Z, 0, none⟩) := fun w' k => none_zero Z 0 0 0 _ w' (h.below k)
section
variable {w : World} {q : Option Addr}
theorem nob_len (h : Nob w q) : Calls Try.prog 19 #[.pointer q] w fun e w' => e = .returned (eI 0) ∧ w = w' := by
  have hN := h w (Below.refl _ _)
  clear h
  go_enter Try.func19, Try.ntmps19
  go_wp2_with (go_at_call 24; (with_reducible refine hN.mono ?_); rintro e w1 ⟨rfl, rfl⟩)
  go_ret
  exact ⟨rfl, rfl⟩
theorem nob_bytes (h : Nob w q) : Calls Try.prog 20 #[.pointer q] w fun e w' => e = .returned (eI 0) ∧ w = w' := by
  have hN := h w (Below.refl _ _)
  clear h
  go_enter Try.func20, Try.ntmps20
  go_wp2_with (go_at_call 24; (with_reducible refine hN.mono ?_); rintro e w1 ⟨rfl, rfl⟩)
  go_ret
  exact ⟨rfl, rfl⟩
theorem nob_room (h : Nob w q) : Calls Try.prog 18 #[.pointer q] w fun e w' => e = .returned (.tuple #[eI 0, eI 0]) ∧ w = w' := by
  have hN := h w (Below.refl _ _)
  clear h
  go_enter Try.func18, Try.ntmps18
  go_wp2_with (go_at_call 24; (with_reducible refine hN.mono ?_); rintro e w1 ⟨rfl, rfl⟩)
  go_ret2
  exact ⟨rfl, rfl⟩
theorem nob_head (h : Nob w q) : Calls Try.prog 17 #[.pointer q] w fun e w' => e = .returned (.tuple #[pkV Pk.zero, .bool false]) ∧ Below w.heap.size w w' := by
  have T := up1 w (.cells zA 31)
  have hL := nob_len (h.below T)
  clear h
  go_enter Try.func17, Try.ntmps17
  go_wp2_with (go_at_call 19; (with_reducible refine hL.mono ?_); rintro e w1 ⟨rfl, rfl⟩)
  exact bodyPost_ret (v := .tuple #[pkV Pk.zero, .bool false]) (by simp [results, Try.results17, go_sem, Pk.zero]) rfl ⟨rfl, T⟩
set_option maxHeartbeats 4000000 in
set_option maxRecDepth 100000 in
theorem nob_pop (h : Nob w q) : Calls Try.prog 13 #[.pointer q] w fun e w' => e = .returned (.tuple #[pkV Pk.zero, .bool false]) ∧ Below w.heap.size w w' := by
  have T := up1 w (.cells zA 31)
  have hH := nob_head (h.below T)
  have z := Box.new w 31 zA
  clear h
  go_enter Try.func13, Try.ntmps13
  go_upto_region 2 with (go_at_call 17; (with_reducible refine hH.mono ?_); rintro e w1 ⟨rfl, hb⟩; have T1 := ups T hb T.size; have z1 := z.below hb)
  have T2 := T1.alloc T1.size (.cells (pkC Pk.zero) 31)
  have z2 : Box (w1.alloc (.cells (pkC Pk.zero) 31)) w.heap.size (pkC Pk.zero) 31 := z1.alloc (.cells (pkC Pk.zero) 31)
  obtain ⟨W2, hW2⟩ : ∃ x, w1.alloc (.cells (pkC Pk.zero) 31) = x := ⟨_, rfl⟩
  rw [hW2] at z2 T2 ⊢
  clear hW2
  obtain ⟨_, _, _, _, _, _, _, _⟩ := z2.four
  obtain ⟨e0, e1, e2, e3, _, _, _, _⟩ := (z2.put (p := Pk.zero)).four
  go_wp2
  exact bodyPost_ret (v := .tuple #[pkV Pk.zero, .bool false]) (by simp only [Pk.zero] at e0 e1 e2 e3; simp [results, Try.results13, go_sem, Pk.zero, e0, e1, e2, e3]) rfl ⟨rfl, Below.put0 T2 (Nat.le_refl _) Pk.zero⟩
theorem nob_push (h : Nob w q) (p : Pk) : Calls Try.prog 14 #[.pointer q, pkV p] w fun e w' => e = .returned (eI 1) ∧ Below w.heap.size w w' := by
  have T := up1 w (.cells (pkC p) 31)
  have hN := h _ T
  clear h
  go_enter Try.func14, Try.ntmps14
  go_wp2_with (go_at_call 24; (with_reducible refine hN.mono ?_); rintro e w1 ⟨rfl, rfl⟩)
  go_ret
  exact ⟨rfl, T⟩
set_option maxHeartbeats 4000000 in
set_option maxRecDepth 100000 in
theorem nob_all (h : Nob w q) : Calls Try.prog 21 #[.pointer q] w fun e w' => ∃ a c, e = .returned (.slice a 0 c) ∧ Below w.heap.size w w' := by
  obtain ⟨i0, hi, hz0, hz1, hz2⟩ := info_parts infoP
  have hL0 := nob_len h
  have hLh := Lib.hid (fun w' (hb : Below w.heap.size w w') => nob_len (h.below hb))
  have T0 := Below.refl w.heap.size w
  clear h
  go_enter Try.func21, Try.ntmps21
  go_wp2_with (first
    | (go_at_call 19; (with_reducible refine hL0.mono ?_); rintro e w1 ⟨rfl, rfl⟩)
    | (at_make; refine wpList_make_own _ rfl _ _ 42 rfl w.heap.size 31 i0 _ 4 Try.underlying42 hi hz0 hz1 _ _ _ 0 rfl rfl rfl (by omega) (by decide) (Nat.le_refl _) ?_; intro w2 hown hgrow; have T2 := T0.grown hgrow (Nat.le_refl _) (by intro k hk; cases hk); have hL2 := hLh.out w2 T2)
    | (go_at_call 19; (with_reducible refine hL2.mono ?_); rintro e w3 ⟨rfl, rfl⟩))
  clear hL0 hL2
  go_loopw [3, 10] (fun s3 s10 wr => s10 = .int .i64 0 ∧ s3 = .slice (some ⟨w.heap.size, 0, none⟩) 0 0 ∧ Below w.heap.size w wr) (fun s3 s10 _ => 0)
  case atStart => exact ⟨rfl, rfl, T2⟩
  case round =>
    obtain ⟨rfl, rfl, T⟩ := hrel
    go_wp2
    go_ret
    exact ⟨_, _, rfl, T⟩
end
set_option maxHeartbeats 4000000 in
set_option maxRecDepth 100000 in
theorem QueueNone_walk (p : Pk) (w0 : World) (hp : p.ok) : Calls Try.prog 4 #[pkV p] w0 fun e w' => e = .returned (.bool true) ∧ Below w0.heap.size w0 w' := by
  have T1 := up1 w0 (.cells (pkC p) 31)
  have bp := Box.new w0 31 (pkC p)
  go_enter Try.func4, Try.ntmps4
  go_upto_region 2 with fail
  obtain ⟨W1, hW1⟩ : ∃ x, w0.alloc (.cells (pkC p) 31) = x := ⟨_, rfl⟩
  rw [hW1] at T1 bp ⊢
  clear hW1
  have T2 := T1.alloc T1.size (.cells (quA 0 0 0 0 (.slice none 0 0) 0) 44)
  replace bp := bp.alloc (.cells (quA 0 0 0 0 (.slice none 0 0) 0) 44)
  have bz := Box.new W1 44 (quA 0 0 0 0 (.slice none 0 0) 0)
  have bs := Box.new (W1.alloc (.cells (quA 0 0 0 0 (.slice none 0 0) 0) 44)) 23 #[.pointer none, .pointer (some ⟨W1.heap.size, 0, none⟩)]
  have hsz : (W1.alloc (.cells (quA 0 0 0 0 (.slice none 0 0) 0) 44)).heap.size = W1.heap.size + 1 := by simp
  rw [hsz] at bs
  clear hsz
  have T3 := T2.alloc T2.size (.cells #[.pointer none, .pointer (some ⟨W1.heap.size, 0, none⟩)] 23)
  replace bp := bp.alloc (.cells #[.pointer none, .pointer (some ⟨W1.heap.size, 0, none⟩)] 23)
  replace bz := bz.alloc (.cells #[.pointer none, .pointer (some ⟨W1.heap.size, 0, none⟩)] 23)
  go_upto_region 3 with fail
  obtain ⟨W3, hW3⟩ : ∃ x, (W1.alloc (.cells (quA 0 0 0 0 (.slice none 0 0) 0) 44)).alloc (.cells #[.pointer none, .pointer (some ⟨W1.heap.size, 0, none⟩)] 23) = x := ⟨_, rfl⟩
  rw [hW3] at T3 bp bz bs ⊢
  obtain ⟨Z, hZ⟩ : ∃ Z, W1.heap.size = Z := ⟨_, rfl⟩
  simp only [hZ] at bz bs ⊢
  obtain ⟨S, hS⟩ : ∃ S, Z + 1 = S := ⟨_, rfl⟩
  simp only [hS] at bs ⊢
  clear hW3 hZ hS T1 T2
  have hst := Lib.hid (fun W (h : Below W3.heap.size W3 W) => ups T3 h T3.size)
  have hq0 := Lib.hid (fun W (h : Below W3.heap.size W3 W) => nob_nil W)
  have hq1 := Lib.hid (fun W (h : Below W3.heap.size W3 W) => nob_zero (bz.below h))
  go_wp2
  go_loopw [5] (fun s5 wr => ∃ i : Nat, s5 = .int .i64 i ∧ i ≤ 2 ∧ Below W3.heap.size W3 wr) (fun s5 _ => 2 - (intOf s5).toNat)
  case atStart => exact ⟨0, rfl, by omega, Below.refl _ _⟩
  case round =>
    clear T3
    obtain ⟨i, rfl, hi, T⟩ := hrel
    have hcs := (bs.below T).cell
    rcases (show i = 0 ∨ i = 1 ∨ i = 2 by omega) with rfl | rfl | rfl
    · have hc : wr.cell? ⟨S, 0, none⟩ = some (.pointer none) := hcs 0
      clear hcs
      have hq := hq0.out
      obtain ⟨b0, b1, b2, b3, _, _, _, _⟩ := (bp.below T).four
      have hPo := nob_pop (hq _ T)
      go_upto_region 8 with (go_at_call 13; (with_reducible refine hPo.mono ?_); rintro e w1 ⟨rfl, hb⟩; have T1 := ups T hb T.size; have T2 := T1.alloc T1.size (.cells (pkC Pk.zero) 31))
      have hHe := nob_head (hq _ T2)
      clear hPo b0 b1 b2 b3
      go_upto_region 9 with (go_at_call 17; (with_reducible refine hHe.mono ?_); rintro e w2 ⟨rfl, hb2⟩; have T3 := ups T2 hb2 T2.size; have T4 := T3.alloc T3.size (.cells (pkC Pk.zero) 31))
      clear hHe
      have hRo := nob_room (hq _ T4)
      have hPu := nob_push (hq _ T4) p
      obtain ⟨b0, b1, b2, b3, _, _, _, _⟩ := (bp.below T4).four
      go_wp2_with (first
        | (go_at_call 18; (with_reducible refine hRo.mono ?_); rintro e w3 ⟨rfl, rfl⟩)
        | (go_at_call 14; (with_reducible refine hPu.mono ?_); rintro e w4 ⟨rfl, hb4⟩; have T5 := ups T4 hb4 T4.size; have hLe := nob_len (hq _ T5); have hBy := nob_bytes (hq _ T5); have hAl := nob_all (hq _ T5))
        | (go_at_call 19; (with_reducible refine hLe.mono ?_); rintro e w5 ⟨rfl, rfl⟩)
        | (go_at_call 20; (with_reducible refine hBy.mono ?_); rintro e w5 ⟨rfl, rfl⟩)
        | (go_at_call 21; (with_reducible refine hAl.mono ?_); rintro e w6 ⟨ua, uc, rfl, hb6⟩; have T6 := ups T5 hb6 T5.size))
      exact ⟨⟨1, rfl, by omega, T6⟩, by simp [intOf]⟩
    · have hc : wr.cell? ⟨S, 1, none⟩ = some (.pointer (some ⟨Z, 0, none⟩)) := hcs 1
      clear hcs
      have hq := hq1.out
      obtain ⟨b0, b1, b2, b3, _, _, _, _⟩ := (bp.below T).four
      have hPo := nob_pop (hq _ T)
      go_upto_region 8 with (go_at_call 13; (with_reducible refine hPo.mono ?_); rintro e w1 ⟨rfl, hb⟩; have T1 := ups T hb T.size; have T2 := T1.alloc T1.size (.cells (pkC Pk.zero) 31))
      have hHe := nob_head (hq _ T2)
      clear hPo b0 b1 b2 b3
      go_upto_region 9 with (go_at_call 17; (with_reducible refine hHe.mono ?_); rintro e w2 ⟨rfl, hb2⟩; have T3 := ups T2 hb2 T2.size; have T4 := T3.alloc T3.size (.cells (pkC Pk.zero) 31))
      clear hHe
      have hRo := nob_room (hq _ T4)
      have hPu := nob_push (hq _ T4) p
      obtain ⟨b0, b1, b2, b3, _, _, _, _⟩ := (bp.below T4).four
      go_wp2_with (first
        | (go_at_call 18; (with_reducible refine hRo.mono ?_); rintro e w3 ⟨rfl, rfl⟩)
        | (go_at_call 14; (with_reducible refine hPu.mono ?_); rintro e w4 ⟨rfl, hb4⟩; have T5 := ups T4 hb4 T4.size; have hLe := nob_len (hq _ T5); have hBy := nob_bytes (hq _ T5); have hAl := nob_all (hq _ T5))
        | (go_at_call 19; (with_reducible refine hLe.mono ?_); rintro e w5 ⟨rfl, rfl⟩)
        | (go_at_call 20; (with_reducible refine hBy.mono ?_); rintro e w5 ⟨rfl, rfl⟩)
        | (go_at_call 21; (with_reducible refine hAl.mono ?_); rintro e w6 ⟨ua, uc, rfl, hb6⟩; have T6 := ups T5 hb6 T5.size))
      exact ⟨⟨2, rfl, by omega, T6⟩, by simp [intOf]⟩
    · have hCo := Copy_nil wr
      clear hcs
      go_wp2_with (go_at_call 11; (with_reducible refine hCo.mono ?_); rintro e w1 ⟨rfl, rfl⟩)
      go_ret
      exact ⟨rfl, hst.out _ T⟩
end Go.Proofs.Ytlfpaebfpmjclaa
