/- What the document's own Dot answers. Conditions: words; rows as long as an int can count. -/
import Derived.Test.YtdnljjpfmnfdoaaOwn
import Derived.Test.YtdnljjpfmnfdoaaRefMul
import Derived.Deep.RegionHeld3
import Derived.LoopTactic
import Derived.Deep.CutRange
namespace Go.Proofs.Ytdnljjpfmnfdoaa
open Go.RowKit W
set_option linter.unusedVariables false
/-- A cell that holds a word. -/
def At (w : World) (b o : Nat) (v : Int) : Prop := b < w.heap.size ∧ w.cell? ⟨b, o, none⟩ = some (.int .u64 v)
theorem At.below {W w : World} {b o : Nat} {v : Int} (h : At W b o v) (hb : Below W.heap.size W w) : At w b o v :=
  ⟨Nat.lt_of_lt_of_le h.1 hb.size, (hb.cell (p := ⟨b, o, none⟩) h.1).trans h.2⟩
theorem At.alloc {w : World} {b o : Nat} {v : Int} (h : At w b o v) (x : Obj) : At (w.alloc x) b o v := h.below (up1 w x)
theorem At.setNe {w : World} {b o : Nat} {v : Int} (h : At w b o v) {a : Addr} (hl : b ≠ a.block) (u : Value) : At (w.setCell a u) b o v := by
  obtain ⟨h1, h2⟩ := h
  have e : (w.setCell a u).heap[b]? = w.heap[b]? := Below.heap_setCell w a u b hl
  exact ⟨by simpa [World.setCell] using h1, (World.cell?_of_block (a := ⟨b, o, none⟩) e).trans h2⟩

set_option maxRecDepth 100000 in
set_option maxHeartbeats 8000000 in
theorem rDot_pos (f g : Nat → Int) (n la ca lb cb ba oa bb ob : Nat) (w : World) (hn : n = min la lb) (hla : la ≤ 9223372036854775807) (hlb : lb ≤ 9223372036854775807)
    (hf : ∀ j, j < n → Word (f j)) (hg : ∀ j, j < n → Word (g j)) (hba : ba < w.heap.size) (hbb : bb < w.heap.size)
    (cf : ∀ j, j < n → w.cell? ⟨ba, oa + j, none⟩ = some (.int .u64 (f j))) (cg : ∀ j, j < n → w.cell? ⟨bb, ob + j, none⟩ = some (.int .u64 (g j))) :
    Calls Try.prog 19 #[.slice (some ⟨ba, oa, none⟩) la ca, .slice (some ⟨bb, ob, none⟩) lb cb] w fun e w' =>
      e = .returned (.tuple #[.agg #[.int .u64 (sH (S f g n)), .int .u64 (sL (S f g n))], .int .i64 (sE (S f g n))]) ∧ Below w.heap.size w w' := by
  have hcf := Lib.hid cf
  have hcg := Lib.hid cg
  have hmono := Lib.hid (S_mono hf hg)
  have hf' := Lib.hid hf
  have hg' := Lib.hid hg
  clear cf cg hf hg
  have hla' : n ≤ la := by omega
  have hlb' : n ≤ lb := by omega
  have hn' := Lib.hid hn
  clear hn
  go_enter Try.func19, Try.ntmps19
  go_wp2
  go_loopw [7] (fun s7 wr => ∃ k : Nat, k ≤ n ∧ s7 = .int .i64 k ∧ S f g k < 340282366920938463463374607431768211456 ∧ Own wr (w.heap.size + 1) (S f g k / 18446744073709551616) (S f g k % 18446744073709551616) ∧ Own wr w.heap.size 0 0 ∧ Below w.heap.size w wr) (fun s7 _ => n - (intOf s7).toNat)
  case atStart => exact ⟨0, Nat.zero_le _, rfl, by unfold S; omega, by have := Own.new (w.alloc (.cells #[.int .u64 0, .int .u64 0] 24)) 0 0; simpa [S] using this, (Own.new w 0 0).alloc _, up2 _ _ _⟩
  case round =>
    obtain ⟨k, hk, rfl, hS, HA, HB, T⟩ := hrel
    by_cases hlt : k < n
    · have CA : At _ ba (oa + k) (f k) := ⟨Nat.lt_of_lt_of_le hba T.size, (T.cell (p := ⟨ba, oa + k, none⟩) hba).trans (hcf.out k hlt)⟩
      have CB : At _ bb (ob + k) (g k) := ⟨Nat.lt_of_lt_of_le hbb T.size, (T.cell (p := ⟨bb, ob + k, none⟩) hbb).trans (hcg.out k hlt)⟩
      have wf := hf'.out k hlt
      have wg := hg'.out k hlt
      have hSk := Lib.hid (show S f g (k + 1) = S f g k + f k * g k from rfl)
      have hm0 := (hmono.out k hk).1
      obtain ⟨e1, e2, e3⟩ := p_s (S f g k) (f k) (g k)
      have hP := fun w => rPlus_any (S f g k / 18446744073709551616) (S f g k % 18446744073709551616) (xH (f k) (g k)) (xL (f k) (g k)) w (by unfold Word; omega) (by unfold Word; omega) (xH_word wf wg) (xL_word _ _)
      have hM := fun w => rMul_any (f k) (g k) w wf wg
      rw [e1, e2, e3, ← hSk.out] at hP
      clear e1 e2 e3
      obtain ⟨sh, esh⟩ : ∃ x, S f g k / 18446744073709551616 = x := ⟨_, rfl⟩
      obtain ⟨sl, esl⟩ : ∃ x, S f g k % 18446744073709551616 = x := ⟨_, rfl⟩
      rw [esh, esl] at HA hP
      clear esh esl
      have i1 : (k : Int) < (la : Int) := by omega
      have i2 : (0 : Int) ≤ (k : Int) := by omega
      have i4 : (k : Int) < (lb : Int) := by omega
      have i5 : k < la := by omega
      have i6 : k < lb := by omega
      go_upto_region 5 with fail
      go_cut [8, 9] from 10 to 40 (fun s8 s9 wx => ∃ N : Nat, s8 = .pointer (some ⟨N, 0, none⟩) ∧ s9 = .int .i64 (sE (S f g (k + 1))) ∧ Own wx N (sH (S f g (k + 1))) (sL (S f g (k + 1))) ∧ Own wx (w.heap.size + 1) sh sl ∧ Own wx w.heap.size 0 0 ∧ Below w.heap.size w wx)
      case first =>
        obtain ⟨⟨xA, yA, zA⟩, fA, gA⟩ := id HA
        obtain ⟨xCA, yCA⟩ := id CA
        obtain ⟨xCB, yCB⟩ := id CB
        go_region_held3 (fun w' => w'.cell? ⟨w.heap.size + 1, 0, none⟩ = some (.int .u64 sh) ∧ w'.cell? ⟨w.heap.size + 1, 1, none⟩ = some (.int .u64 sl) ∧ w'.cell? ⟨ba, oa + k, none⟩ = some (.int .u64 (f k)) ∧ w'.cell? ⟨bb, ob + k, none⟩ = some (.int .u64 (g k)))
          (first | exact ⟨HA.1.2.1, HA.1.2.2, CA.2, CB.2⟩ | exact ⟨(HA.alloc _).1.2.1, (HA.alloc _).1.2.2, (CA.alloc _).2, (CB.alloc _).2⟩ | exact ⟨((HA.setNe (Nat.ne_of_lt (by omega)) _).setNe (Nat.ne_of_lt (by omega)) _).1.2.1, ((HA.setNe (Nat.ne_of_lt (by omega)) _).setNe (Nat.ne_of_lt (by omega)) _).1.2.2, ((CA.setNe (Nat.ne_of_lt (by omega)) _).setNe (Nat.ne_of_lt (by omega)) _).2, ((CB.setNe (Nat.ne_of_lt (by omega)) _).setNe (Nat.ne_of_lt (by omega)) _).2⟩ | go_keep)
          (first
            | (go_at_call 21; (with_reducible refine (hM _).mono ?_); rintro e w1 ⟨rfl, hb⟩; (first | replace hb := undrew hb | replace hb := undrewN hb | skip); obtain ⟨hcc, hff⟩ := bcell hb; have hzz := hb.size; have l1 := HA.1.1; have l2 := CA.1; have l3 := CB.1; have l4 := HB.1.1; (first | replace HN := HN.below hb | have HN := (Own.new _ 0 0).below hb | skip); (first | replace HA := HA.below hb | replace HA := (HA.alloc _).below hb); (first | replace HB := HB.below hb | replace HB := (HB.alloc _).below hb); (first | replace CA := CA.below hb | replace CA := (CA.alloc _).below hb); (first | replace CB := CB.below hb | replace CB := (CB.alloc _).below hb); (first | replace T := up T hb T.size | replace T := up (T.alloc T.size _) hb (T.alloc T.size _).size); (try (obtain ⟨⟨xN, yN, zN⟩, fN, gN⟩ := id HN)))
            | (go_at_call 11; (with_reducible refine (hP _).mono ?_); rintro e w1 ⟨rfl, hb⟩; (first | replace hb := undrew hb | replace hb := undrewN hb | skip); obtain ⟨hcc, hff⟩ := bcell hb; have hzz := hb.size; have l1 := HA.1.1; have l2 := CA.1; have l3 := CB.1; have l4 := HB.1.1; (first | replace HN := HN.below hb | have HN := (Own.new _ 0 0).below hb | skip); (first | replace HA := HA.below hb | replace HA := (HA.alloc _).below hb); (first | replace HB := HB.below hb | replace HB := (HB.alloc _).below hb); (first | replace CA := CA.below hb | replace CA := (CA.alloc _).below hb); (first | replace CB := CB.below hb | replace CB := (CB.alloc _).below hb); (first | replace T := up T hb T.size | replace T := up (T.alloc T.size _) hb (T.alloc T.size _).size); (try (obtain ⟨⟨xN, yN, zN⟩, fN, gN⟩ := id HN))))
        all_goals
          go_wp2_with fail
          go_meet
          first
            | exact ⟨_, rfl, rfl, Own.new _ _ _, HA.alloc _, HB.alloc _, T.alloc T.size _⟩
            | exact ⟨_, rfl, rfl, HN.store _ _, (HA.setNe (Nat.ne_of_lt (by omega)) _).setNe (Nat.ne_of_lt (by omega)) _, (HB.setNe (Nat.ne_of_lt (by omega)) _).setNe (Nat.ne_of_lt (by omega)) _, (T.setCell (by dsimp only; omega) _).setCell (by dsimp only; omega) _⟩
      case rest =>
        clear HA HB T hP hM CA CB
        obtain ⟨N, rfl, rfl, HN, HA, HB, T⟩ := hcut
        by_cases hS2 : S f g (k + 1) < 340282366920938463463374607431768211456
        · obtain ⟨e1, e2, e3⟩ := s_ok hS2
          rw [e2, e3] at HN
          rw [e1]
          clear e1 e2 e3
          obtain ⟨⟨xA, yA, zA⟩, fA, gA⟩ := id HA
          obtain ⟨⟨xB, yB, zB⟩, fB, gB⟩ := id HB
          obtain ⟨⟨xN, yN, zN⟩, fN, gN⟩ := id HN
          go_wp2
          go_roundw
          case rel => exact ⟨k + 1, by omega, by go_num, hS2, HA.store _ _, (HB.setNe (by simp) _).setNe (by simp) _, (T.setCell (by simp) _).setCell (by simp) _⟩
          case measure => simp [intOf]; omega
        · have hfin : sE (S f g n) = 10 ∧ sH (S f g n) = 0 ∧ sL (S f g n) = 0 := by
            have := (hmono.out (k + 1) hlt).2 (n - (k + 1)) (by omega)
            rw [show k + 1 + (n - (k + 1)) = n by omega] at this
            exact s_no (by omega)
          obtain ⟨e1, e2, e3⟩ := s_no hS2
          rw [e2, e3] at HN
          rw [e1]
          clear e1 e2 e3
          obtain ⟨⟨xA, yA, zA⟩, fA, gA⟩ := id HA
          obtain ⟨⟨xB, yB, zB⟩, fB, gB⟩ := id HB
          obtain ⟨⟨xN, yN, zN⟩, fN, gN⟩ := id HN
          have hfin' := Lib.hid hfin
          clear hfin
          go_wp2
          exact bodyPost_ret (v := .tuple #[.agg #[.int .u64 0, .int .u64 0], .int .i64 10]) (by simp [results, Try.results19, go_sem, yB, zB]) rfl ⟨by rw [hfin'.out.1, hfin'.out.2.1, hfin'.out.2.2], (T.setCell (by simp) _).setCell (by simp) _⟩
    · obtain rfl : k = n := by omega
      obtain ⟨⟨xA, yA, zA⟩, fA, gA⟩ := id HA
      obtain ⟨⟨xB, yB, zB⟩, fB, gB⟩ := id HB
      have hn := hn'.out
      have hnn : la ≤ k ∨ lb ≤ k := by omega
      have hend : Hid (sE (S f g k) = 0 ∧ sH (S f g k) = S f g k / 18446744073709551616 ∧ sL (S f g k) = S f g k % 18446744073709551616) := Lib.hid (s_ok hS)
      by_cases hn1 : k < la
      · have hn2 : ¬ k < lb := by omega
        clear hn hnn
        have hd : decide (k < lb) = false := by simpa using hn2
        go_wp2
        exact bodyPost_ret (v := .tuple #[.agg #[.int .u64 (S f g k / 18446744073709551616), .int .u64 (S f g k % 18446744073709551616)], .int .i64 0]) (by simp [results, Try.results19, go_sem, yB, zB]) rfl ⟨by rw [hend.out.1, hend.out.2.1, hend.out.2.2], (T.setCell (by simp) _).setCell (by simp) _⟩
      · clear hn hnn
        have hd : decide (k < la) = false := by simpa using hn1
        go_wp2
        exact bodyPost_ret (v := .tuple #[.agg #[.int .u64 (S f g k / 18446744073709551616), .int .u64 (S f g k % 18446744073709551616)], .int .i64 0]) (by simp [results, Try.results19, go_sem, yB, zB]) rfl ⟨by rw [hend.out.1, hend.out.2.1, hend.out.2.2], (T.setCell (by simp) _).setCell (by simp) _⟩
end Go.Proofs.Ytdnljjpfmnfdoaa
