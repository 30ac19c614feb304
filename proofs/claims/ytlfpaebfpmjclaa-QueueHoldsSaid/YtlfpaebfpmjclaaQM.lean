/- QueueRoom: its walk. No condition. -/
import Derived.Test.YtlfpaebfpmjclaaQL
namespace Go.Proofs.Ytlfpaebfpmjclaa
open Go.RowKit
set_option linter.unusedVariables false
/-- A queue and a packet's block beside it. -/
def OnB (w0 W : World) (B : Nat) (P R : Int) (L : List Pk) (N : Nat) (p : Pk) : Prop := ∃ χ, Fr w0 χ W ∧ Qu W χ 1 B P R L ∧ Bx W χ 2 N (pkC p) 31
section
variable {w0 w w' : World} {B N : Nat} {P R : Int} {L : List Pk} {p : Pk}
theorem OnB.on (h : OnB w0 w B P R L N p) : On w0 w B P R L := by obtain ⟨χ, h1, h2, h3⟩ := h; exact ⟨χ, h1, h2⟩
theorem OnB.box (h : OnB w0 w B P R L N p) : Box w N (pkC p) 31 := by obtain ⟨χ, h1, h2, h3⟩ := h; exact h3.1
theorem OnB.world (h : OnB w0 w B P R L N p) : Below w0.heap.size w0 w := h.on.world
theorem OnB.below (h : OnB w0 w B P R L N p) (k : Below w.heap.size w w') : OnB w0 w' B P R L N p := by obtain ⟨χ, h1, h2, h3⟩ := h; exact ⟨χ, h1.below k, h2.below k, h3.below k⟩
theorem On.make (h : On w0 w B P R L) (p : Pk) : OnB w0 (w.alloc (.cells (pkC p) 31)) B P R L w.heap.size p := by
  obtain ⟨χ, h1, h2⟩ := h
  have k := up1 w (.cells (pkC p) 31)
  exact ⟨recol χ w.heap.size 2, h1.next (Col.new (c := 1) k 2) (by decide), h2.new k 2, Box.new _ _ _, recol_ge (Nat.le_refl _)⟩
theorem onb_push (h : OnB w0 w B P R L N p) (q : Pk) (hok : q.ok) : Calls Try.prog 14 #[.pointer (some ⟨B, 0, none⟩), pkV q] w fun e w' => e = .returned (eI (pushE P R L q)) ∧ OnB w0 w' B P R (pushL P R L q) N p := by
  obtain ⟨χ, h1, h2, h3⟩ := h
  exact (qu_push h2 q hok).mono fun e w' ⟨x, χ', y, z⟩ => ⟨x, χ', h1.next z (by decide), y, h3.other z (by decide)⟩
theorem onb_pop (h : OnB w0 w B P R L N p) : Calls Try.prog 13 #[.pointer (some ⟨B, 0, none⟩)] w fun e w' => e = .returned (.tuple #[pkV (headP L), .bool (headB L)]) ∧ OnB w0 w' B P R L.tail N p := by
  obtain ⟨χ, h1, h2, h3⟩ := h
  exact (qu_pop h2).mono fun e w' ⟨x, χ', y, z⟩ => ⟨x, χ', h1.next z (by decide), y, h3.other z (by decide)⟩
end
abbrev AcC (w : World) (b o : Nat) (p : Pk) (pop : Bool) : Prop :=
  w.cell? ⟨b, o, none⟩ = some (.int .u64 p.id) ∧ w.cell? ⟨b, o + 1, none⟩ = some (.int .i64 p.cls) ∧ w.cell? ⟨b, o + 2, none⟩ = some (.int .i64 p.len) ∧ w.cell? ⟨b, o + 3, none⟩ = some (.int .u64 p.tick) ∧ w.cell? ⟨b, o + 4, none⟩ = some (.bool pop)
/-- An act's cells, in whatever world behind. -/
theorem act_at {w0 : World} {a : Option Addr} {n c : Nat} {xs : Nat → Aq} (hI : IsActs w0 a n c xs) (k : Nat) (hk : k < n) : ∃ b o, a = some ⟨b, o, none⟩ ∧ b < w0.heap.size ∧ ∀ w', Below w0.heap.size w0 w' → AcC w' b (o + k * 5) (xs k).p (xs k).pop := by
  rcases hI.2 with h | ⟨b, o, e, h⟩
  · omega
  · exact ⟨b, o, e, h.1, fun w' hb => (h.below hb).2 k hk⟩
theorem runL_pop {P R : Int} {xs : Nat → Aq} {k : Nat} (h : (xs k).pop = true) : runL P R xs [] (k + 1) = (runL P R xs [] k).tail := by
  show actL P R (runL P R xs [] k) (xs k) = _
  unfold actL; rw [if_pos h]
theorem runL_push {P R : Int} {xs : Nat → Aq} {k : Nat} (h : (xs k).pop = false) : runL P R xs [] (k + 1) = pushL P R (runL P R xs [] k) (xs k).p := by
  show actL P R (runL P R xs [] k) (xs k) = _
  unfold actL; rw [if_neg (by rw [h]; decide)]
theorem bsum_take {P R : Int} {L : List Pk} (h : Fit P R L) (k : Nat) : 0 ≤ bsum (L.take k) ∧ bsum (L.take k) ≤ bsum L := by
  have a := bsum_lo (L.take k) (fun p hp => (h.each p (List.mem_of_mem_take hp)).2.1)
  have b := bsum_lo (L.drop k) (fun p hp => (h.each p (List.mem_of_mem_drop hp)).2.1)
  have c : bsum (L.take k ++ L.drop k) = bsum L := by rw [List.take_append_drop]
  rw [bsum_append] at c
  omega
set_option maxHeartbeats 8000000 in
set_option maxRecDepth 100000 in
theorem QueueRoom_walk (P R : Int) (a : Option Addr) (n c : Nat) (xs : Nat → Aq) (w0 : World) (hI : IsActs w0 a n c xs) (hok : ∀ i, (xs i).ok) (hcm : c ≤ maxLen) (hnn : a = none → n = 0 ∧ c = 0) :
    Calls Try.prog 6 #[eI P, eI R, .slice a n c] w0 fun e w' => e = .returned (.bool true) ∧ Below w0.heap.size w0 w' := by
  have hA := awake_any w0
  by_cases hP : roomy P R
  · have hN : ∀ w, Below w0.heap.size w0 w → Calls Try.prog 9 #[eI P, eI R] w fun e w' => ∃ C, e = .returned (.pointer (some ⟨C, 0, none⟩)) ∧ On w0 w' C P R [] := fun w hw => on_new hw hP
    by_cases hn : n ≤ 200
    · have j0 : ¬ (200 : Int) < (n : Int) := by omega
      have j1 : (n : Int) ≤ (c : Int) := by have := hI.1; omega
      have hIh := Lib.hid hI
      have hoh := Lib.hid hok
      have hPh := Lib.hid hP
      clear hI hok hcm hnn hP
      go_enter Try.func6, Try.ntmps6
      go_wp2_with (first
        | (go_at_call 22; (with_reducible refine hA.mono ?_); rintro e w1 ⟨rfl, T⟩; have hN1 := hN _ T)
        | (go_at_call 9; (with_reducible refine hN1.mono ?_); rintro e w2 ⟨B, rfl, H⟩))
      clear hN1 hN hA T
      go_loopw [8] (fun s8 wr => ∃ k : Nat, s8 = .int .i64 k ∧ k ≤ n ∧ On w0 wr B P R (runL P R xs [] k)) (fun s8 _ => n - (intOf s8).toNat)
      case atStart => exact ⟨0, rfl, by omega, H⟩
      case round =>
        clear H
        obtain ⟨k, rfl, hk, H⟩ := hrel
        obtain ⟨hF, hR⟩ := H.fit
        have hR0 := hPh.out
        unfold roomy at hR0
        have f1 := hF.many
        have f2 := hF.room
        have f3 := hF.bytes
        by_cases hlt : k < n
        · have i1 : (k : Int) < (n : Int) := by omega
          have i2 : (0 : Int) ≤ (k : Int) := by omega
          have hw1 : IntKind.i64.wrap ((k : Int) + 1) = (k : Int) + 1 := i64_id (by omega)
          obtain ⟨b, o, rfl, hbw, hx⟩ := act_at hIh.out k hlt
          obtain ⟨L, hL⟩ : ∃ L, runL P R xs [] k = L := ⟨_, rfl⟩
          rw [hL] at H f1 f2 f3
          obtain ⟨X, hX⟩ : ∃ X, P - (L.length : Int) = X := ⟨_, rfl⟩
          obtain ⟨Y, hY⟩ : ∃ Y, R - bsum L = Y := ⟨_, rfl⟩
          have e1 : IntKind.i64.wrap (X + (L.length : Int)) = P := by rw [i64_id (by omega)]; omega
          have e2 : IntKind.i64.wrap (Y + bsum L) = R := by rw [i64_id (by omega)]; omega
          have e3 : ¬ X < 0 := by omega
          have e4 : ¬ Y < 0 := by omega
          have hRm := on_room H
          rw [hX, hY] at hRm
          cases hpop : (xs k).pop with
          | true =>
            have hs : runL P R xs [] (k + 1) = L.tail := by rw [runL_pop hpop, hL]
            replace hs := Lib.hid hs
            replace hX := Lib.hid hX
            replace hY := Lib.hid hY
            replace hx := Lib.hid hx
            clear hL hF hR hR0 f1 f2 f3
            go_upto_region 10 with (go_at_call 18; (with_reducible refine hRm.mono ?_); rintro e w1 ⟨rfl, hb⟩; replace H := H.below hb; clear hb)
            obtain ⟨x0, x1, x2, x3, x4⟩ := hx.out _ H.world
            rw [hpop] at x4
            go_wp2_with (first
              | (go_at_call 19; (with_reducible refine (on_len H).mono ?_); rintro e w2 ⟨rfl, rfl⟩)
              | (go_at_call 20; (with_reducible refine (on_bytes H).mono ?_); rintro e w2 ⟨rfl, rfl⟩)
              | (go_at_call 13; (with_reducible refine (on_pop H).mono ?_); rintro e w3 ⟨rfl, H3⟩))
            exact ⟨⟨k + 1, rfl, by omega, by rw [hs.out]; exact H3⟩, by simp [intOf]; omega⟩
          | false =>
            have hs : runL P R xs [] (k + 1) = pushL P R L (xs k).p := by rw [runL_push hpop, hL]
            have hpk := hoh.out k
            have hE : (((xs k).p.len < 1 ∨ 65535 < (xs k).p.len) ∧ pushE P R L (xs k).p = 100) ∨ (¬ ((xs k).p.len < 1 ∨ 65535 < (xs k).p.len) ∧ (X ≤ 0 ∨ Y < (xs k).p.len) ∧ pushE P R L (xs k).p = 110) ∨ (¬ ((xs k).p.len < 1 ∨ 65535 < (xs k).p.len) ∧ 0 < X ∧ (xs k).p.len ≤ Y ∧ pushE P R L (xs k).p = 0) := by
              by_cases h1 : (xs k).p.len < 1 ∨ 65535 < (xs k).p.len
              · exact .inl ⟨h1, pushE_len h1⟩
              · by_cases h2 : P ≤ (L.length : Int) ∨ R < bsum L + (xs k).p.len
                · exact .inr (.inl ⟨h1, by omega, pushE_full h1 h2⟩)
                · exact .inr (.inr ⟨h1, by omega, by omega, pushE_ok h1 h2⟩)
            obtain ⟨p, hp⟩ : ∃ p, (xs k).p = p := ⟨_, rfl⟩
            simp only [hp, hpop] at hx
            simp only [hp] at hs hE
            have hpok : p.ok := by rw [← hp]; exact hpk
            replace hs := Lib.hid hs
            replace hX := Lib.hid hX
            replace hY := Lib.hid hY
            replace hx := Lib.hid hx
            replace hpok := Lib.hid hpok
            clear hL hF hR hR0 f1 f2 f3 hpk hp hpop
            go_upto_region 10 with (go_at_call 18; (with_reducible refine hRm.mono ?_); rintro e w1 ⟨rfl, hb⟩; replace H := H.below hb; clear hb)
            clear hRm
            obtain ⟨x0, x1, x2, x3, x4⟩ := hx.out _ H.world
            go_upto_region 14 with (first
              | (go_at_call 19; (with_reducible refine (on_len H).mono ?_); rintro e w2 ⟨rfl, rfl⟩)
              | (go_at_call 20; (with_reducible refine (on_bytes H).mono ?_); rintro e w2 ⟨rfl, rfl⟩))
            have H5 := H.make p
            clear H
            go_upto_region 15 with fail
            obtain ⟨W5, hW5⟩ : ∃ x, w1.alloc (.cells (pkC p) 31) = x := ⟨_, rfl⟩
            rw [hW5] at H5 ⊢
            clear hW5
            obtain ⟨b0, b1, b2, b3, _, _, _, _⟩ := H5.box.four
            rcases hE with ⟨h1, hE⟩ | ⟨h1, h2, hE⟩ | ⟨h1, h2, h3, hE⟩
            · by_cases h4 : p.len < 1
              · clear h1
                have hPu := onb_push H5 p hpok.out
                rw [hE] at hPu
                go_upto_region 16 with (go_at_call 14; (with_reducible refine hPu.mono ?_); clear H5; rintro e w6 ⟨rfl, H6⟩)
                obtain ⟨b0, b1, b2, b3, _, _, _, _⟩ := H6.box.four
                go_wp2
                exact ⟨⟨k + 1, rfl, by omega, by rw [hs.out]; exact H6.on⟩, by simp [intOf]; omega⟩
              · have h5 : 65536 ≤ p.len := by omega
                clear h1
                have hPu := onb_push H5 p hpok.out
                rw [hE] at hPu
                go_upto_region 16 with (go_at_call 14; (with_reducible refine hPu.mono ?_); clear H5; rintro e w6 ⟨rfl, H6⟩)
                obtain ⟨b0, b1, b2, b3, _, _, _, _⟩ := H6.box.four
                go_wp2
                exact ⟨⟨k + 1, rfl, by omega, by rw [hs.out]; exact H6.on⟩, by simp [intOf]; omega⟩
            · have h4 : ¬ p.len < 1 := by omega
              have h5 : ¬ 65536 ≤ p.len := by omega
              by_cases h6 : 0 < X
              · have h7 : ¬ p.len ≤ Y := by omega
                clear h1 h2
                have hPu := onb_push H5 p hpok.out
                rw [hE] at hPu
                go_upto_region 16 with (go_at_call 14; (with_reducible refine hPu.mono ?_); clear H5; rintro e w6 ⟨rfl, H6⟩)
                obtain ⟨b0, b1, b2, b3, _, _, _, _⟩ := H6.box.four
                go_wp2
                exact ⟨⟨k + 1, rfl, by omega, by rw [hs.out]; exact H6.on⟩, by simp [intOf]; omega⟩
              · clear h1 h2
                have hPu := onb_push H5 p hpok.out
                rw [hE] at hPu
                go_upto_region 16 with (go_at_call 14; (with_reducible refine hPu.mono ?_); clear H5; rintro e w6 ⟨rfl, H6⟩)
                obtain ⟨b0, b1, b2, b3, _, _, _, _⟩ := H6.box.four
                go_wp2
                exact ⟨⟨k + 1, rfl, by omega, by rw [hs.out]; exact H6.on⟩, by simp [intOf]; omega⟩
            · have h4 : ¬ p.len < 1 := by omega
              have h5 : ¬ 65536 ≤ p.len := by omega
              clear h1
              have hPu := onb_push H5 p hpok.out
              rw [hE] at hPu
              go_upto_region 16 with (go_at_call 14; (with_reducible refine hPu.mono ?_); clear H5; rintro e w6 ⟨rfl, H6⟩)
              obtain ⟨b0, b1, b2, b3, _, _, _, _⟩ := H6.box.four
              go_wp2
              exact ⟨⟨k + 1, rfl, by omega, by rw [hs.out]; exact H6.on⟩, by simp [intOf]; omega⟩
        · obtain rfl : k = n := by omega
          have i1 : ¬ (k : Int) < (k : Int) := by omega
          obtain ⟨L, hL⟩ : ∃ L, runL P R xs [] k = L := ⟨_, rfl⟩
          rw [hL] at H f1 f2 f3 hF
          have hAl := on_all H
          replace hF := Lib.hid hF
          have hLl : L.length ≤ 4096 := by omega
          clear hL hR hR0 hlt f1 f2 f3
          go_wp2_with (go_at_call 21; (with_reducible refine hAl.mono ?_); rintro e w1 ⟨u, rfl, hO, hb⟩; replace H := H.below hb; replace hO := own_mono hO (Nat.zero_le _); obtain ⟨ua, uc, rfl, hlc, _⟩ := own_len hO; clear hb)
          clear hAl
          have j2 : (L.length : Int) ≤ (uc : Int) := by omega
          go_loopw [14, 16] (fun s14 s16 wr => ∃ i : Nat, s16 = .int .i64 i ∧ i ≤ L.length ∧ s14 = .int .i64 (bsum (L.take i)) ∧ On w0 wr B P R L ∧ wr.ownsRow 0 31 4 (.slice ua L.length uc) L.length (rowV L)) (fun _ s16 _ => L.length - (intOf s16).toNat)
          case atStart => exact ⟨0, rfl, by omega, rfl, H, hO⟩
          case round =>
            clear H hO
            obtain ⟨i, rfl, hi, rfl, H, hO⟩ := hrel
            obtain ⟨t0, t1⟩ := bsum_take hF.out i
            have t2 := hF.out.room
            have t3 := hPh.out.2
            by_cases hlt : i < L.length
            · have i3 : (i : Int) < (L.length : Int) := by omega
              have i4 : (0 : Int) ≤ (i : Int) := by omega
              obtain ⟨g, cap, cur, e, _, _, _, _, _, hc⟩ := own_some hO (by omega)
              cases e
              obtain ⟨x0, x1, x2, x3⟩ := own_at (base := 0) (cap := uc) hc i _ (List.getElem?_eq_getElem hlt)
              have hs : bsum (L.take (i + 1)) = bsum (L.take i) + L[i].len := by rw [take_at L i hlt, bsum_snoc]
              have hw1 : IntKind.i64.wrap ((i : Int) + 1) = (i : Int) + 1 := i64_id (by omega)
              obtain ⟨t4, t5⟩ := bsum_take hF.out (i + 1)
              have hw2 : IntKind.i64.wrap (bsum (L.take i) + L[i].len) = bsum (L.take (i + 1)) := by rw [i64_id (by omega)]; omega
              generalize L[i] = p at *
              generalize hS : bsum (L.take i) = S at *
              generalize hS2 : bsum (L.take (i + 1)) = S2 at *
              clear hc hs hS t0 t1 t4 t5 t3
              replace hS2 := Lib.hid hS2
              go_wp2
              exact ⟨⟨i + 1, rfl, by omega, by rw [hS2.out], H, hO⟩, by simp [intOf]; omega⟩
            · obtain rfl : i = L.length := by omega
              have i3 : ¬ (L.length : Int) < (L.length : Int) := by omega
              rw [List.take_length]
              clear t0 t1 t2 t3
              go_wp2_with (first
                | (go_at_call 19; (with_reducible refine (on_len H).mono ?_); rintro e w2 ⟨rfl, rfl⟩)
                | (go_at_call 20; (with_reducible refine (on_bytes H).mono ?_); rintro e w2 ⟨rfl, rfl⟩))
              go_ret
              exact ⟨rfl, H.world⟩
    · have j0 : (200 : Int) < (n : Int) := by omega
      clear hI hok hcm hnn
      go_enter Try.func6, Try.ntmps6
      go_wp2_with (first
        | (go_at_call 22; (with_reducible refine hA.mono ?_); rintro e w1 ⟨rfl, T⟩; have hN1 := hN _ T)
        | (go_at_call 9; (with_reducible refine hN1.mono ?_); rintro e w2 ⟨B, rfl, H⟩))
      go_ret
      exact ⟨rfl, H.world⟩
  · have hN : ∀ w, Calls Try.prog 9 #[eI P, eI R] w fun e w' => e = .returned (.pointer none) ∧ w = w' := fun w => New_no P R w hP
    clear hI hok hcm hnn
    go_enter Try.func6, Try.ntmps6
    go_wp2_with (first
      | (go_at_call 22; (with_reducible refine hA.mono ?_); rintro e w1 ⟨rfl, T⟩)
      | (go_at_call 9; (with_reducible refine (hN _).mono ?_); rintro e w2 ⟨rfl, rfl⟩))
    go_ret
    exact ⟨rfl, T⟩
end Go.Proofs.Ytlfpaebfpmjclaa
