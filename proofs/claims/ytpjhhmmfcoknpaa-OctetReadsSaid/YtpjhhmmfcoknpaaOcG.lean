/- What the chapter's examples answer (awake); the law's read. No condition. -/
import Derived.Test.YtpjhhmmfcoknpaaOcF
import Derived.Deep.RegionHeld3
namespace Go.Proofs.Ytpjhhmmfcoknpaa
open Go.RowKit
set_option linter.unusedVariables false
theorem rd_odd : rdNum [128, 0] = none := ((Mid.start [128, 0]).next (by decide) (by decide)).zero (by decide) rfl
theorem rd_300 : rdNum [172, 2, 3] = some (300, [3]) := rdNum_num (n := 300) (by decide) [3]
theorem rd_3 : rdNum [3] = some (3, []) := rdNum_num (n := 3) (by decide) []
set_option maxHeartbeats 16000000 in
set_option maxRecDepth 100000 in
theorem awake_any (w : World) : Calls Try.prog 30 #[] w fun e w' => e = .returned (.bool true) ∧ Below w.heap.size w w' := by
  have hz := zero28 w
  have hPen := Pen.new w
  have T := But.of (B := w.heap.size) (up1 w (.cells (penC []) 28))
  generalize penC [] = p0 at *
  have h1 : Calls Try.prog 14 #[ptr w.heap.size, .int .u64 300] (w.alloc (.cells p0 28)) fun e w' => e = .returned unitV ∧ Pen w' w.heap.size [172, 2] ∧ But w.heap.size (w.alloc (.cells p0 28)) w' := Num_any hPen 300 (by decide) (by decide)
  have h2 : ∀ W, Pen W w.heap.size [172, 2] → Calls Try.prog 14 #[ptr w.heap.size, .int .u64 0] W fun e w' => e = .returned unitV ∧ Pen w' w.heap.size [172, 2, 0] ∧ But w.heap.size W w' := fun W h => Num_any h 0 (by decide) (by decide)
  have h3 : ∀ W, Pen W w.heap.size [172, 2, 0] → Calls Try.prog 14 #[ptr w.heap.size, .int .u64 128] W fun e w' => e = .returned unitV ∧ Pen w' w.heap.size [172, 2, 0, 128, 1] ∧ But w.heap.size W w' := fun W h => Num_any h 128 (by decide) (by decide)
  have h4 : ∀ W, Pen W w.heap.size [172, 2, 0, 128, 1] → Calls Try.prog 34 #[ptr w.heap.size, .int .i64 (-1)] W fun e w' => e = .returned unitV ∧ Pen w' w.heap.size [172, 2, 0, 128, 1, 1] ∧ But w.heap.size W w' := fun W h => Int_any h (-1) (by decide) (by decide)
  have h5 : ∀ W, Pen W w.heap.size [172, 2, 0, 128, 1, 1] → Calls Try.prog 34 #[ptr w.heap.size, .int .i64 1] W fun e w' => e = .returned unitV ∧ Pen w' w.heap.size [172, 2, 0, 128, 1, 1, 2] ∧ But w.heap.size W w' := fun W h => Int_any h 1 (by decide) (by decide)
  have h6 : ∀ W, Pen W w.heap.size [172, 2, 0, 128, 1, 1, 2] → Calls Try.prog 34 #[ptr w.heap.size, .int .i64 (-2)] W fun e w' => e = .returned unitV ∧ Pen w' w.heap.size [172, 2, 0, 128, 1, 1, 2, 3] ∧ But w.heap.size W w' := fun W h => Int_any h (-2) (by decide) (by decide)
  have h7 : ∀ W, Pen W w.heap.size [172, 2, 0, 128, 1, 1, 2, 3] → Calls Try.prog 35 #[ptr w.heap.size, .bool true] W fun e w' => e = .returned unitV ∧ Pen w' w.heap.size [172, 2, 0, 128, 1, 1, 2, 3, 1] ∧ But w.heap.size W w' := fun W h => Flag_any h true (by decide)
  have h8 : ∀ W, Pen W w.heap.size [172, 2, 0, 128, 1, 1, 2, 3, 1] → Calls Try.prog 13 #[ptr w.heap.size] W fun e w' => e = .returned (.tuple #[.string { data := #[172, 2, 0, 128, 1, 1, 2, 3, 1] }, .int .i64 0]) ∧ Below W.heap.size W w' := fun W h => Done_any h (by decide)
  have h9 : ∀ W, Calls Try.prog 15 #[.string { data := #[128, 0] }] W fun e w' => e = .returned (ptr W.heap.size) ∧ Eye w' W.heap.size ⟨[128, 0], false⟩ ∧ Below W.heap.size W w' := fun W => Open_any W [128, 0]
  have h10 : ∀ W, Calls Try.prog 15 #[.string { data := #[172, 2, 3] }] W fun e w' => e = .returned (ptr W.heap.size) ∧ Eye w' W.heap.size ⟨[172, 2, 3], false⟩ ∧ Below W.heap.size W w' := fun W => Open_any W [172, 2, 3]
  have h11 : ∀ W E, Eye W E ⟨[128, 0], false⟩ → Calls Try.prog 20 #[ptr E] W fun e w' => (∃ z : Nat, e = .returned (.int .u64 z)) ∧ Eye w' E Ey.fail ∧ But E W w' := fun W E h => (ENum_any h (fun h => by cases h) (by decide)).mono fun e w' ⟨a, b, c⟩ => ⟨⟨_, a⟩, by rw [(nu_none rd_odd).2] at b; exact b, c⟩
  have h12 : ∀ W E, Eye W E ⟨[172, 2, 3], false⟩ → Calls Try.prog 20 #[ptr E] W fun e w' => e = .returned (.int .u64 300) ∧ Eye w' E ⟨[3], false⟩ ∧ But E W w' := fun W E h => (ENum_any h (fun h => by cases h) (by decide)).mono fun e w' ⟨a, b, c⟩ => ⟨by rw [(nu_some (s := ⟨[172, 2, 3], false⟩) rd_300).1] at a; exact a, by rw [(nu_some rd_300).2] at b; exact b, c⟩
  have h13 : ∀ W E, Eye W E ⟨[3], false⟩ → Calls Try.prog 22 #[ptr E] W fun e w' => e = .returned (.int .i64 (-2)) ∧ Eye w' E ⟨[], false⟩ ∧ But E W w' := fun W E h => (EInt_any h (fun h => by cases h) (by decide)).mono fun e w' ⟨a, b, c⟩ => ⟨by rw [(nu_some (s := ⟨[3], false⟩) rd_3).1] at a; exact a, by rw [(nu_some rd_3).2] at b; exact b, c⟩
  have h14 : ∀ W E, Eye W E ⟨[], false⟩ → Calls Try.prog 28 #[ptr E] W fun e w' => e = .returned (.int .i64 0) ∧ W = w' := fun W E h => End_any h
  have h15 : ∀ W E, Eye W E Ey.fail → Calls Try.prog 26 #[ptr E] W fun e w' => e = .returned (.bool true) ∧ W = w' := fun W E h => Failed_any h
  have h16 : ∀ W E, Eye W E Ey.fail → Calls Try.prog 28 #[ptr E] W fun e w' => e = .returned (.int .i64 140) ∧ W = w' := fun W E h => End_any h
  have k0 : w.heap.size ≤ (w.alloc (.cells p0 28)).heap.size := T.size
  go_enter Try.func30, Try.ntmps30
  go_wp2_with (first
    | (go_at_call 14; (with_reducible refine h1.mono ?_); rintro e w1 ⟨rfl, P1, B1⟩; have g2 := h2 _ P1)
    | (go_at_call 14; (with_reducible refine g2.mono ?_); rintro e w2 ⟨rfl, P2, B2⟩; have g3 := h3 _ P2)
    | (go_at_call 14; (with_reducible refine g3.mono ?_); rintro e w3 ⟨rfl, P3, B3⟩; have g4 := h4 _ P3)
    | (go_at_call 34; (with_reducible refine g4.mono ?_); rintro e w4 ⟨rfl, P4, B4⟩; have g5 := h5 _ P4)
    | (go_at_call 34; (with_reducible refine g5.mono ?_); rintro e w5 ⟨rfl, P5, B5⟩; have g6 := h6 _ P5)
    | (go_at_call 34; (with_reducible refine g6.mono ?_); rintro e w6 ⟨rfl, P6, B6⟩; have g7 := h7 _ P6)
    | (go_at_call 35; (with_reducible refine g7.mono ?_); rintro e w7 ⟨rfl, P7, B7⟩; have g8 := h8 _ P7; have T7 := Lib.hid (((((((T.trans B1).trans B2).trans B3).trans B4).trans B5).trans B6).trans B7))
    | (go_at_call 13; (with_reducible refine g8.mono ?_); rintro e w8 ⟨rfl, B8⟩; have g9 := h9 w8)
    | (go_at_call 15; (with_reducible refine g9.mono ?_); rintro e w9 ⟨rfl, E9, B9⟩; have g11 := h11 _ _ E9)
    | (go_at_call 20; (with_reducible refine g11.mono ?_); rintro e w10 ⟨⟨z, rfl⟩, E10, B10⟩; have g10 := h10 w10)
    | (go_at_call 15; (with_reducible refine g10.mono ?_); rintro e w11 ⟨rfl, E11, B11⟩; have g12 := h12 _ _ E11; have F11 := E10.below B11)
    | (go_at_call 20; (with_reducible refine g12.mono ?_); rintro e w12 ⟨rfl, E12, B12⟩; have g13 := h13 _ _ E12; have F12 := F11.but B12 (Nat.ne_of_lt E10.lt))
    | (go_at_call 22; (with_reducible refine g13.mono ?_); rintro e w13 ⟨rfl, E13, B13⟩; have g14 := h14 _ _ E13; have F13 := F12.but B13 (Nat.ne_of_lt E10.lt); have g15 := h15 _ _ F13; have g16 := h16 _ _ F13)
    | (go_at_call 28; (with_reducible refine g14.mono ?_); rintro e w14 ⟨rfl, rfl⟩)
    | (go_at_call 26; (with_reducible refine g15.mono ?_); rintro e w15 ⟨rfl, rfl⟩)
    | (go_at_call 28; (with_reducible refine g16.mono ?_); rintro e w16 ⟨rfl, rfl⟩))
  have Z7 := T7.out.below (Nat.le_refl _) (Nat.le_refl _)
  have Z8 := ups Z7 B8 Z7.size
  have Z9 := ups Z8 B9 Z8.size
  have Z10 := B10.up Z9 Z8.size
  have Z11 := ups Z10 B11 Z10.size
  have Z12 := B12.up Z11 Z10.size
  have Z13 := B13.up Z12 Z10.size
  go_ret
  exact ⟨rfl, Z13⟩
/-- What is left behind a thing's reading; whether it is read as it was. -/
noncomputable def thE (t : Th) (s : Ey) : Ey := if t.k % 4 = 0 then byE s else if t.k % 4 = 1 then nuE s else if t.k % 4 = 2 then nuE s else flE s
noncomputable def thB (t : Th) (S : List UInt8) : Bool := if t.k % 4 = 0 then ((byV S : Int) == (t.n : Int) % 256) else if t.k % 4 = 1 then ((nuV S : Int) == (t.n : Int)) else if t.k % 4 = 2 then (sg (nuV S) == i64 t.n) else (flV S == ((t.n : Int) % 2 == 1))
theorem But.undrew {w w' : World} {B : Nat} (h : But B w.drew w') : But B w w' := (But.of ((Below.refl w.heap.size w).drew)).trans h
theorem Eye.drew {w : World} {E : Nat} {s : Ey} (h : Eye w E s) : Eye w.drew E s := h
theorem thE_ok {t : Th} {s : Ey} (h : s.ok) : (thE t s).ok := by
  unfold thE
  split
  · exact byE_ok h
  · split
    · exact nuE_ok h
    · split
      · exact nuE_ok h
      · exact flE_ok h
theorem thE_len (t : Th) (s : Ey) : (thE t s).left.length ≤ s.left.length := by
  unfold thE
  split
  · exact byE_len s
  · split
    · exact nuE_len s
    · split
      · exact nuE_len s
      · exact flE_len s
set_option maxHeartbeats 16000000 in
set_option maxRecDepth 100000 in
theorem read_any {w : World} {E : Nat} {s : Ey} (h : Eye w E s) (t : Th) (ht : t.ok) (ho : s.ok) (hlen : s.left.length < 576460752303423488) :
    Calls Try.prog 32 #[thV t, ptr E] w fun e w' => e = .returned (.bool (thB t s.left)) ∧ Eye w' E (thE t s) ∧ But E w w' := by
  have hEye : Eye (w.alloc (.cells #[.int .u8 (t.k : Int), .int .u64 (t.n : Int)] 31)) E s := Box.alloc h _
  have hBx := Box.new w 31 #[.int .u8 (t.k : Int), .int .u64 (t.n : Int)]
  have hne : w.heap.size ≠ E := Nat.ne_of_gt h.lt
  have T : But E w (w.alloc (.cells #[.int .u8 (t.k : Int), .int .u64 (t.n : Int)] 31)) := But.of (up1 w _)
  have c0 : (w.alloc (.cells #[.int .u8 (t.k : Int), .int .u64 (t.n : Int)] 31)).cell? ⟨w.heap.size, 0, none⟩ = some (.int .u8 (t.k : Int)) := hBx.cell 0
  have hlt1 : w.heap.size < (w.alloc (.cells #[.int .u8 (t.k : Int), .int .u64 (t.n : Int)] 31)).heap.size := hBx.lt
  have c1 : (w.alloc (.cells #[.int .u8 (t.k : Int), .int .u64 (t.n : Int)] 31)).cell? ⟨w.heap.size, 1, none⟩ = some (.int .u64 (t.n : Int)) := hBx.cell 1
  unfold thE thB
  rcases (by omega : t.k % 4 = 0 ∨ t.k % 4 = 1 ∨ t.k % 4 = 2 ∨ t.k % 4 = 3) with hk | hk | hk | hk
  · rw [if_pos hk, if_pos hk]
    have hki : (t.k : Int) % 4 = 0 := by omega
    have hK : ∀ W, Eye W E s → Calls Try.prog 18 #[ptr E] W fun e w' => e = .returned (.int .u8 (byV s.left : Int)) ∧ Eye w' E (byE s) ∧ But E W w' := fun W h => EByte_any h
    have hK0 := hK _ hEye
    have hK1 := hK _ hEye.drew
    obtain ⟨v, hv⟩ : ∃ v, byV s.left = v := ⟨_, rfl⟩
    rw [hv] at hK0 hK1 ⊢
    clear hv
    clear hK h
    have hw : IntKind.u8.wrap (t.n : Int) = (t.n : Int) % 256 := by rw [IntKind.wrap_u8]
    go_enter Try.func32, Try.ntmps32
    go_upto_region 3 with fail
    go_region_held3 (fun w' => w'.cell? ⟨w.heap.size, 1, none⟩ = some (.int .u64 (t.n : Int)))
      (first | exact c1 | exact (B1.cell hlt1 hne).trans c1)
      (first | (go_at_call 18; (with_reducible refine hK0.mono ?_); rintro e w1 ⟨rfl, E1, B1⟩) | (go_at_call 18; (with_reducible refine hK1.mono ?_); rintro e w1 ⟨rfl, E1, B1⟩))
    go_wp2
    go_ret
    exact ⟨by simp, E1, T.trans B1.undrew⟩
  · rw [if_neg (by omega), if_pos hk, if_neg (by omega), if_pos hk]
    have hki : (t.k : Int) % 4 = 1 := by omega
    have hK : ∀ W, Eye W E s → Calls Try.prog 20 #[ptr E] W fun e w' => e = .returned (.int .u64 (nuV s.left : Int)) ∧ Eye w' E (nuE s) ∧ But E W w' := fun W h => ENum_any h ho hlen
    have hK0 := hK _ hEye
    have hK1 := hK _ hEye.drew
    obtain ⟨v, hv⟩ : ∃ v, nuV s.left = v := ⟨_, rfl⟩
    rw [hv] at hK0 hK1 ⊢
    clear hv
    clear hK h
    go_enter Try.func32, Try.ntmps32
    go_upto_region 5 with fail
    go_region_held3 (fun w' => w'.cell? ⟨w.heap.size, 1, none⟩ = some (.int .u64 (t.n : Int)))
      (first | exact c1 | exact (B1.cell hlt1 hne).trans c1)
      (first | (go_at_call 20; (with_reducible refine hK0.mono ?_); rintro e w1 ⟨rfl, E1, B1⟩) | (go_at_call 20; (with_reducible refine hK1.mono ?_); rintro e w1 ⟨rfl, E1, B1⟩))
    go_wp2
    go_ret
    exact ⟨by simp, E1, T.trans B1.undrew⟩
  · rw [if_neg (by omega), if_neg (by omega), if_pos hk, if_neg (by omega), if_neg (by omega), if_pos hk]
    have hki : (t.k : Int) % 4 = 2 := by omega
    have hK : ∀ W, Eye W E s → Calls Try.prog 22 #[ptr E] W fun e w' => e = .returned (.int .i64 (sg (nuV s.left))) ∧ Eye w' E (nuE s) ∧ But E W w' := fun W h => EInt_any h ho hlen
    have hK0 := hK _ hEye
    have hK1 := hK _ hEye.drew
    obtain ⟨v, hv⟩ : ∃ v, sg (nuV s.left) = v := ⟨_, rfl⟩
    rw [hv] at hK0 hK1 ⊢
    clear hv
    clear hK h
    have hw := i64_wrap ht.2
    go_enter Try.func32, Try.ntmps32
    go_upto_region 7 with fail
    go_region_held3 (fun w' => w'.cell? ⟨w.heap.size, 1, none⟩ = some (.int .u64 (t.n : Int)))
      (first | exact c1 | exact (B1.cell hlt1 hne).trans c1)
      (first | (go_at_call 22; (with_reducible refine hK0.mono ?_); rintro e w1 ⟨rfl, E1, B1⟩) | (go_at_call 22; (with_reducible refine hK1.mono ?_); rintro e w1 ⟨rfl, E1, B1⟩))
    go_wp2
    go_ret
    exact ⟨by simp, E1, T.trans B1.undrew⟩
  · rw [if_neg (by omega), if_neg (by omega), if_neg (by omega), if_neg (by omega), if_neg (by omega), if_neg (by omega)]
    have hki : (t.k : Int) % 4 = 3 := by omega
    have hK : ∀ W, Eye W E s → Calls Try.prog 24 #[ptr E] W fun e w' => e = .returned (.bool (flV s.left)) ∧ Eye w' E (flE s) ∧ But E W w' := fun W h => EFlag_any h
    have hK0 := hK _ hEye
    have hK1 := hK _ hEye.drew
    obtain ⟨v, hv⟩ : ∃ v, flV s.left = v := ⟨_, rfl⟩
    rw [hv] at hK0 hK1 ⊢
    clear hv
    clear hK h
    go_enter Try.func32, Try.ntmps32
    go_upto_region 8 with fail
    go_region_held3 (fun w' => w'.cell? ⟨w.heap.size, 1, none⟩ = some (.int .u64 (t.n : Int)))
      (first | exact c1 | exact (B1.cell hlt1 hne).trans c1)
      (first | (go_at_call 24; (with_reducible refine hK0.mono ?_); rintro e w1 ⟨rfl, E1, B1⟩) | (go_at_call 24; (with_reducible refine hK1.mono ?_); rintro e w1 ⟨rfl, E1, B1⟩))
    go_wp2
    go_ret
    exact ⟨by simp [Int.tmod_eq_emod_of_nonneg], E1, T.trans B1.undrew⟩
end Go.Proofs.Ytpjhhmmfcoknpaa
