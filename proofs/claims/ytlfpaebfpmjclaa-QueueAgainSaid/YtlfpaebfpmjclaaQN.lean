/- QueueAgain: its walk. No condition. -/
import Derived.Test.YtlfpaebfpmjclaaQM
namespace Go.Proofs.Ytlfpaebfpmjclaa
open Go.RowKit
set_option linter.unusedVariables false
theorem onb_new {w0 w : World} {P R : Int} {N : Nat} {p : Pk} (hw : Below w0.heap.size w0 w) (hb : Box w N (pkC p) 31) (hN : w0.heap.size ≤ N) (hP : roomy P R) : Calls Try.prog 9 #[eI P, eI R] w fun e w' => ∃ C, e = .returned (.pointer (some ⟨C, 0, none⟩)) ∧ OnB w0 w' C P R [] N p :=
  (qu_new w (fun k => if k < w0.heap.size then 0 else 2) 1 hP).mono fun e w' ⟨C, x, y, z⟩ => ⟨C, x, _, ⟨fun k hk => by rw [recol_lt (Nat.lt_of_lt_of_le hk hw.size), if_pos hk], ups hw z hw.size⟩, y, hb.below z, by rw [recol_lt hb.lt, if_neg (by omega)]⟩
set_option maxHeartbeats 8000000 in
set_option maxRecDepth 100000 in
theorem QueueAgain_walk (P R : Int) (a : Option Addr) (n c : Nat) (xs : Nat → Aq) (p : Pk) (w0 : World) (hI : IsActs w0 a n c xs) (hok : ∀ i, (xs i).ok) (hcm : c ≤ maxLen) (hnn : a = none → n = 0 ∧ c = 0) (hp : p.ok) :
    Calls Try.prog 7 #[eI P, eI R, .slice a n c, pkV p] w0 fun e w' => e = .returned (.bool true) ∧ Below w0.heap.size w0 w' := by
  have T0 := up1 w0 (.cells (pkC p) 31)
  have hA := awake_any (w0.alloc (.cells (pkC p) 31))
  have bp := Box.new w0 31 (pkC p)
  by_cases hP : roomy P R
  · have hN : ∀ w, Below w0.heap.size w0 w → Box w w0.heap.size (pkC p) 31 → Calls Try.prog 9 #[eI P, eI R] w fun e w' => ∃ C, e = .returned (.pointer (some ⟨C, 0, none⟩)) ∧ OnB w0 w' C P R [] w0.heap.size p := fun w hw hb => onb_new hw hb (Nat.le_refl _) hP
    by_cases hn : n ≤ 200
    · have j0 : ¬ (200 : Int) < (n : Int) := by omega
      have j1 : (n : Int) ≤ (c : Int) := by have := hI.1; omega
      have hIh := Lib.hid hI
      have hoh := Lib.hid hok
      have hPh := Lib.hid hP
      have hph := Lib.hid hp
      have hNz : w0.heap.size = w0.heap.size := rfl
      clear hI hok hcm hnn hP hp hNz
      go_enter Try.func7, Try.ntmps7
      go_wp2_with (first
        | (go_at_call 22; (with_reducible refine hA.mono ?_); rintro e w1 ⟨rfl, T⟩; have hN1 := hN _ (ups T0 T T0.size) (bp.below T))
        | (go_at_call 9; (with_reducible refine hN1.mono ?_); rintro e w2 ⟨B, rfl, H⟩))
      clear hN1 hN hA T T0 bp
      obtain ⟨N, hN⟩ : ∃ N, w0.heap.size = N := ⟨_, rfl⟩
      go_loopw [10] (fun s10 wr => ∃ k : Nat, s10 = .int .i64 k ∧ k ≤ n ∧ OnB w0 wr B P R (runL P R xs [] k) w0.heap.size p) (fun s10 _ => n - (intOf s10).toNat)
      case atStart => exact ⟨0, rfl, by omega, H⟩
      case round =>
        clear H hN
        obtain ⟨k, rfl, hk, H⟩ := hrel
        by_cases hlt : k < n
        · have i1 : (k : Int) < (n : Int) := by omega
          have i2 : (0 : Int) ≤ (k : Int) := by omega
          have hw1 : IntKind.i64.wrap ((k : Int) + 1) = (k : Int) + 1 := i64_id (by omega)
          obtain ⟨b, o, rfl, hbw, hx⟩ := act_at hIh.out k hlt
          obtain ⟨L, hL⟩ : ∃ L, runL P R xs [] k = L := ⟨_, rfl⟩
          rw [hL] at H
          cases hpop : (xs k).pop with
          | true =>
            have hs : runL P R xs [] (k + 1) = L.tail := by rw [runL_pop hpop, hL]
            simp only [hpop] at hx
            obtain ⟨x0, x1, x2, x3, x4⟩ := hx _ H.world
            replace hs := Lib.hid hs
            clear hL hx hpop
            go_wp2_with (go_at_call 13; (with_reducible refine (onb_pop H).mono ?_); rintro e w3 ⟨rfl, H3⟩)
            exact ⟨⟨k + 1, rfl, by omega, by rw [hs.out]; exact H3⟩, by simp [intOf]; omega⟩
          | false =>
            have hs : runL P R xs [] (k + 1) = pushL P R L (xs k).p := by rw [runL_push hpop, hL]
            have hpk : (xs k).p.ok := hoh.out k
            simp only [hpop] at hx
            generalize (xs k).p = q at *
            obtain ⟨x0, x1, x2, x3, x4⟩ := hx _ H.world
            have hPu := onb_push H q hpk
            generalize pushE P R L q = E at *
            replace hs := Lib.hid hs
            clear hL hx hpop hpk
            go_wp2_with (go_at_call 14; (with_reducible refine hPu.mono ?_); rintro e w3 ⟨rfl, H3⟩)
            exact ⟨⟨k + 1, rfl, by omega, by rw [hs.out]; exact H3⟩, by simp [intOf]; omega⟩
        · obtain rfl : k = n := by omega
          have i1 : ¬ (k : Int) < (k : Int) := by omega
          obtain ⟨L, hL⟩ : ∃ L, runL P R xs [] k = L := ⟨_, rfl⟩
          rw [hL] at H
          have hLn := on_len H.on
          clear hL
          go_wp2_with (go_at_call 19; (with_reducible refine hLn.mono ?_); rintro e w3 ⟨rfl, rfl⟩)
          clear hLn
          go_loopw [11] (fun s11 wr => ∃ M : List Pk, s11 = .int .i64 M.length ∧ OnB w0 wr B P R M w0.heap.size p) (fun s11 _ => (intOf s11).toNat)
          case atStart => exact ⟨L, rfl, H⟩
          case round =>
            clear H
            obtain ⟨M, rfl, H⟩ := hrel
            cases M with
            | cons q M =>
              have hPo : Calls Try.prog 13 #[.pointer (some ⟨B, 0, none⟩)] wr fun e w' => e = .returned (.tuple #[pkV q, .bool true]) ∧ OnB w0 w' B P R M w0.heap.size p := onb_pop H
              have hm : ((q :: M).length : Int) = (M.length : Int) + 1 := by simp
              obtain ⟨m, hmm⟩ : ∃ m : Int, ((q :: M).length : Int) = m := ⟨_, rfl⟩
              have hl : M.length ≤ 4096 := by
                have h1 := H.on.fit.1.many
                have h2 := hPh.out.1
                simp at h1; omega
              rw [hmm] at hm ⊢
              have i2 : (0 : Int) < m := by omega
              have e1 : IntKind.i64.wrap (m - 1) = (M.length : Int) := by rw [i64_id (by omega)]; omega
              have hlt : M.length < m.toNat := by omega
              clear hmm hm hl H
              go_upto_region 16 with (go_at_call 13; (with_reducible refine hPo.mono ?_); rintro e w3 ⟨rfl, H3⟩; have H4 := H3.below (up1 w3 (.cells (pkC q) 31)))
              clear hPo H3
              go_wp2_with (go_at_call 19; (with_reducible refine (on_len H4.on).mono ?_); rintro e w4 ⟨rfl, rfl⟩)
              exact ⟨⟨M, rfl, H4⟩, by simp [intOf]; omega⟩
            | nil =>
              have hPo : Calls Try.prog 13 #[.pointer (some ⟨B, 0, none⟩)] wr fun e w' => e = .returned (.tuple #[.agg #[.int .u64 0, .int .i64 0, .int .i64 0, .int .u64 0], .bool false]) ∧ OnB w0 w' B P R [] w0.heap.size p := onb_pop H
              have hBy : ∀ w, OnB w0 w B P R [] w0.heap.size p → Calls Try.prog 20 #[.pointer (some ⟨B, 0, none⟩)] w fun e w' => e = .returned (eI 0) ∧ w = w' := fun w h => on_bytes h.on
              have hAl : ∀ w, OnB w0 w B P R [] w0.heap.size p → Calls Try.prog 21 #[.pointer (some ⟨B, 0, none⟩)] w fun e w' => ∃ ua uc, e = .returned (.slice ua 0 uc) ∧ Below w.heap.size w w' := fun w h => (on_all h.on).mono fun e w' ⟨u, x, y, z⟩ => by
                obtain ⟨ua, uc, rfl, _, _⟩ := own_len y
                exact ⟨ua, uc, x, z⟩
              have hE : ((p.len < 1 ∨ 65535 < p.len) ∧ pushE P R [] p = 100) ∨ (¬ (p.len < 1 ∨ 65535 < p.len) ∧ R < p.len ∧ pushE P R [] p = 110) ∨ (¬ (p.len < 1 ∨ 65535 < p.len) ∧ p.len ≤ R ∧ pushE P R [] p = 0) := by
                have hR := hPh.out
                unfold roomy at hR
                by_cases h1 : p.len < 1 ∨ 65535 < p.len
                · exact .inl ⟨h1, pushE_len h1⟩
                · by_cases h2 : R < p.len
                  · exact .inr (.inl ⟨h1, h2, pushE_full h1 (.inr (by simp [bsum]; exact h2))⟩)
                  · exact .inr (.inr ⟨h1, by omega, pushE_ok h1 (by simp [bsum]; omega)⟩)
              have i2 : ¬ (0 : Int) < ((([] : List Pk).length : Nat) : Int) := by simp
              go_upto_region 19 with (go_at_call 13; (with_reducible refine hPo.mono ?_); rintro e w3 ⟨rfl, H3⟩; have H4 := H3.below (up1 w3 (.cells zA 31)))
              clear hPo H3 H
              go_upto_region 21 with (first
                | (go_at_call 20; (with_reducible refine (hBy _ H4).mono ?_); rintro e w4 ⟨rfl, rfl⟩)
                | (go_at_call 21; (with_reducible refine (hAl _ H4).mono ?_); rintro e w4 ⟨ua, uc, rfl, hb⟩; replace H4 := H4.below hb))
              clear hBy hAl hb
              obtain ⟨_, _, _, _, _, _, _, _⟩ := H4.box.four
              have hPu := onb_push H4 p hph.out
              rcases hE with ⟨h1, hE⟩ | ⟨h1, h2, hE⟩ | ⟨h1, h2, hE⟩
              · rw [hE] at hPu
                by_cases h4 : p.len < 1
                · clear h1
                  go_upto_region 22 with (go_at_call 14; (with_reducible refine hPu.mono ?_); clear H4; rintro e w6 ⟨rfl, H6⟩)
                  obtain ⟨_, _, _, _, _, _, _, _⟩ := H6.box.four
                  go_wp2
                  go_ret
                  exact ⟨rfl, H6.world⟩
                · have h5 : 65536 ≤ p.len := by omega
                  clear h1
                  go_upto_region 22 with (go_at_call 14; (with_reducible refine hPu.mono ?_); clear H4; rintro e w6 ⟨rfl, H6⟩)
                  obtain ⟨_, _, _, _, _, _, _, _⟩ := H6.box.four
                  go_wp2
                  go_ret
                  exact ⟨rfl, H6.world⟩
              · rw [hE, pushL_no (by rw [hE]; decide)] at hPu
                have h4 : ¬ p.len < 1 := by omega
                have h5 : ¬ 65536 ≤ p.len := by omega
                have h6 : ¬ p.len ≤ R := by omega
                clear h1 h2
                go_upto_region 22 with (go_at_call 14; (with_reducible refine hPu.mono ?_); clear H4; rintro e w6 ⟨rfl, H6⟩)
                obtain ⟨_, _, _, _, _, _, _, _⟩ := H6.box.four
                have hHe : Calls Try.prog 17 #[.pointer (some ⟨B, 0, none⟩)] w6 fun e w' => e = .returned (.tuple #[.agg #[.int .u64 0, .int .i64 0, .int .i64 0, .int .u64 0], .bool false]) ∧ Below w6.heap.size w6 w' := on_head H6.on
                go_upto_region 25 with (go_at_call 17; (with_reducible refine hHe.mono ?_); rintro e w7 ⟨rfl, hb⟩; have H7 := H6.below hb; have H8 := H7.below (up1 w7 (.cells zA 31)))
                obtain ⟨_, _, _, _, _, _, _, _⟩ := H8.box.four
                go_wp2
                go_ret
                exact ⟨by first | rfl | simp [h6], H8.world⟩
              · rw [hE, pushL_ok hE] at hPu
                have h4 : ¬ p.len < 1 := by omega
                have h5 : ¬ 65536 ≤ p.len := by omega
                clear h1
                go_upto_region 22 with (go_at_call 14; (with_reducible refine hPu.mono ?_); clear H4; rintro e w6 ⟨rfl, H6⟩)
                obtain ⟨_, _, _, _, _, _, _, _⟩ := H6.box.four
                have hHe : Calls Try.prog 17 #[.pointer (some ⟨B, 0, none⟩)] w6 fun e w' => e = .returned (.tuple #[pkV p, .bool true]) ∧ Below w6.heap.size w6 w' := on_head H6.on
                go_upto_region 25 with (go_at_call 17; (with_reducible refine hHe.mono ?_); rintro e w7 ⟨rfl, hb⟩; have H7 := H6.below hb; have H8 := H7.below (up1 w7 (.cells (pkC p) 31)); have bz := Box.new w7 31 (pkC p))
                obtain ⟨_, _, _, _, _, _, _, _⟩ := H8.box.four
                obtain ⟨_, _, _, _, _, _, _, _⟩ := bz.four
                go_wp2
                go_ret
                exact ⟨rfl, H8.world⟩
    · have j0 : (200 : Int) < (n : Int) := by omega
      clear hI hok hcm hnn
      go_enter Try.func7, Try.ntmps7
      go_wp2_with (first
        | (go_at_call 22; (with_reducible refine hA.mono ?_); rintro e w1 ⟨rfl, T⟩; have hN1 := hN _ (ups T0 T T0.size) (bp.below T))
        | (go_at_call 9; (with_reducible refine hN1.mono ?_); rintro e w2 ⟨B, rfl, H⟩))
      go_ret
      exact ⟨rfl, H.world⟩
  · have hN : ∀ w, Calls Try.prog 9 #[eI P, eI R] w fun e w' => e = .returned (.pointer none) ∧ w = w' := fun w => New_no P R w hP
    clear hI hok hcm hnn
    go_enter Try.func7, Try.ntmps7
    go_wp2_with (first
      | (go_at_call 22; (with_reducible refine hA.mono ?_); rintro e w1 ⟨rfl, T⟩)
      | (go_at_call 9; (with_reducible refine (hN _).mono ?_); rintro e w2 ⟨rfl, rfl⟩))
    go_ret
    exact ⟨rfl, ups T0 T T0.size⟩
end Go.Proofs.Ytlfpaebfpmjclaa
