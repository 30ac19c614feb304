/- When the document's curves are late first: found by halves. Conditions: words; at most 1000 curves. Whether the document's curves are kept. Conditions: words; at most 1000 curves. What the document's curves have to spare. Conditions: words; at most 999 curves. A slice of curves that came in: its cells, as curves. No condition. -/
import Derived.Test.YtjbpaapglamilaaGJ
import Derived.IntWalk
import Derived.Test.YtjbpaapglamilaaGI
import Derived.Deep.Slices
import Derived.Deep.Fields
import Derived.ChangeSame
import Derived.OpenShut
namespace Go.Proofs.Ytjbpaapglamilaa
open Go.RowKit W
set_option linter.unusedVariables false
/-- Between low and high they are late first: not up to low; at high, and from the first one on. -/
def LI (xs : List Cv) (rate lo hi a b : Int) : Prop := a ≤ lo ∧ lo < hi ∧ hi ≤ b ∧ (∀ t, 0 ≤ t → t ≤ lo → ¬ lateAt xs rate t) ∧ lateAt xs rate hi
theorem LI.late {xs : List Cv} {rate lo hi a b : Int} (h : LI xs rate lo hi a b) (ha : 0 ≤ a) (hb : b ≤ 9223372036854775807) (he : hi = lo + 1) : IsLate xs rate hi := by
  obtain ⟨h1, h2, h3, h4, h5⟩ := h
  exact .inr ⟨by omega, by omega, h5, fun t t0 t1 => h4 t t0 (by omega)⟩
theorem LI.high {xs : List Cv} {rate lo hi a b m : Int} (h : LI xs rate lo hi a b) (h1 : lo < m) (h2 : m < hi) (hl : lateAt xs rate m) : LI xs rate lo m a b := by
  obtain ⟨g1, g2, g3, g4, g5⟩ := h
  exact ⟨g1, h1, by omega, g4, hl⟩
theorem LI.low {xs : List Cv} {rate lo hi a b m : Int} (h : LI xs rate lo hi a b) (hs : ∀ c ∈ xs, ¬ inside c a b) (ha : 0 ≤ a) (h1 : lo < m) (h2 : m < hi) (hl : ¬ lateAt xs rate m) : LI xs rate m hi a b := by
  obtain ⟨g1, g2, g3, g4, g5⟩ := h
  refine ⟨by omega, h2, g3, fun t t0 t1 => ?_, g5⟩
  by_cases q : t ≤ lo
  · exact g4 t t0 q
  · intro l
    exact hl (late_on hs ha (g4 a ha g1) t m (by omega) t1 (by omega) l)
/-- Not late up to the corner before i. -/
def LJ (xs : List Cv) (rate : Int) (i : Nat) : Prop := ∀ h : i - 1 < (dF xs).length, ∀ t, 0 ≤ t → t ≤ (dF xs)[i - 1] → ¬ lateAt xs rate t
theorem LJ.next {xs : List Cv} {rate : Int} {i : Nat} (hw : ∀ c ∈ xs, c.word) (h : LJ xs rate i) (hi : 1 ≤ i) (hl : i < (dF xs).length) (hn : ¬ lateAt xs rate (dF xs)[i]) : LJ xs rate (i + 1) := by
  obtain ⟨f1, f2, f3, f4, f5⟩ := dF_facts hw
  intro hk t t0 t1
  have e : i + 1 - 1 = i := by omega
  have t1' : t ≤ (dF xs)[i] := by simpa only [e] using t1
  by_cases q : t ≤ (dF xs)[i - 1]'(by omega)
  · exact h (by omega) t t0 q
  · have hh := f4 (i - 1) (by omega)
    have e2 : i - 1 + 1 = i := by omega
    simp only [e2] at hh
    exact late_between hh.2 (f2 (i - 1) (by omega)).1 (h (by omega) _ (f2 (i - 1) (by omega)).1 (Int.le_refl _)) hn t (by omega) t1'
theorem LJ.start {xs : List Cv} {rate : Int} (hw : ∀ c ∈ xs, c.word) : LJ xs rate 1 := by
  obtain ⟨f1, f2, f3, f4, f5⟩ := dF_facts hw
  intro hk t t0 t1
  have : t = 0 := by have := f3 hk; simp only [Nat.sub_self] at t1; omega
  subst this
  exact not_late_zero hw rate
theorem LJ.done {xs : List Cv} {rate : Int} (hw : ∀ c ∈ xs, c.word) (h : LJ xs rate (dF xs).length) : IsLate xs rate 9223372036854775808 := by
  obtain ⟨f1, f2, f3, f4, f5⟩ := dF_facts hw
  refine .inl ⟨rfl, fun t t0 t1 => ?_⟩
  have e : (dF xs).length - 1 = (corF xs).length := by omega
  refine h (by omega) t t0 ?_
  simp only [e]
  rw [f5 (by omega)]; omega
theorem LJ.in {xs : List Cv} {rate : Int} {i : Nat} (hw : ∀ c ∈ xs, c.word) (h : LJ xs rate i) (hi : 1 ≤ i) (hl : i < (dF xs).length) (hn : lateAt xs rate (dF xs)[i]) :
    LI xs rate ((dF xs)[i - 1]'(by omega)) (dF xs)[i] ((dF xs)[i - 1]'(by omega)) (dF xs)[i] ∧ (∀ c ∈ xs, ¬ inside c ((dF xs)[i - 1]'(by omega)) (dF xs)[i]) ∧ 0 ≤ (dF xs)[i - 1]'(by omega) ∧ (dF xs)[i] ≤ 9223372036854775807 := by
  obtain ⟨f1, f2, f3, f4, f5⟩ := dF_facts hw
  have hh := f4 (i - 1) (by omega)
  have e2 : i - 1 + 1 = i := by omega
  simp only [e2] at hh
  exact ⟨⟨Int.le_refl _, hh.1, Int.le_refl _, fun t t0 t1 => h (by omega) t t0 t1, hn⟩, hh.2, (f2 _ (by omega)).1, (f2 _ hl).2⟩
theorem new_one (w1 : World) : ∀ j u, [eU 9223372036854775807][j]? = some u → (w1.alloc (.cells #[eU 9223372036854775807] 22)).cell? ((⟨w1.heap.size, 0, none⟩ : Addr).add j) = some u := by
  intro j u hj
  match j, hj with
  | 0, hj => simp at hj; subst hj; simp [Addr.add]
theorem row_cell {w : World} {base : Nat} {g n cap : Nat} {ds : List Int} {l : List Value} (h : w.ownsRow base 22 1 (.slice (some ⟨g, 0, none⟩) n cap) n l) (e : ds.map eU = l) {j : Nat} (hj : j < ds.length) :
    w.cell? ⟨g, j, none⟩ = some (.int .u64 ds[j]) := by
  subst e
  have := h.cells (g := g) rfl j (eU ds[j]) (by simp [List.getElem?_eq_getElem hj])
  rw [show (⟨g, 0, none⟩ : Addr).add j = ⟨g, j, none⟩ by unfold Addr.add; split <;> simp_all] at this
  exact this
/-- A row that is not empty is there. -/
theorem owns_slice {w : World} {base n : Nat} {v : Value} {cs : List Value} (h : w.ownsRow base 22 1 v n cs) (hn : 0 < n) : ∃ g cap, v = .slice (some ⟨g, 0, none⟩) n cap ∧ base ≤ g ∧ n ≤ cap ∧ cap ≤ maxLen := by
  rcases h.2 with ⟨h1, h2⟩ | ⟨g, cap, cur, h1, h2, h3, h4, h5, _⟩
  · omega
  · exact ⟨g, cap, h1, h2, h4, h5⟩
set_option maxRecDepth 100000 in
set_option maxHeartbeats 2000000 in
theorem kLate_any (xs : List Cv) (rate n : Int) (a : Option Addr) (k c : Nat) (w : World) (hx : ∀ c ∈ xs, c.word) (hr : Word rate) (hn : xs.length ≤ 1000) (h : IsCvs w a k c xs) (hL : IsLate xs rate n) :
    Calls Try.prog 51 #[.slice a k c, .int .u64 rate] w fun e w' => e = .returned (.int .u64 n) ∧ Below w.heap.size w w' := by
  have hC := kCorners_any xs a k c w hx hn h
  have hT := Lib.hid (fun (w1 : World) (hb : Below w.heap.size w w1) (t : Int) (ht : Word t) => kLate1_any xs rate t a k c w1 hx hr ht hn (h.below hb))
  have hu := Lib.hid (fun (m : Int) (hm : IsLate xs rate m) => (hL.unique hm : n = m))
  have hlen := (corF_length xs).1
  have hpos := (corF_length xs).2
  have hs := Lib.hid (LJ.start (rate := rate) hx)
  have hdl : (dF xs).length = (corF xs).length + 1 := (dF_facts hx).1
  have hdm : (dF xs).map eU = (corF xs).map eU ++ [eU 9223372036854775807] := by unfold dF; simp
  have hfs := Lib.hid (dF_facts hx)
  clear hL h
  obtain ⟨cs, ecs⟩ : ∃ cs, corF xs = cs := ⟨_, rfl⟩
  obtain ⟨ds, eds⟩ : ∃ ds, dF xs = ds := ⟨_, rfl⟩
  rw [ecs] at hC hlen hpos
  rw [ecs, eds] at hdl hdm
  clear ecs
  replace hx := Lib.hid hx
  replace eds := Lib.hid eds
  replace hdm := Lib.hid hdm
  have hmx : cs.length + 1 ≤ maxLen := by unfold maxLen; omega
  have hby : (cs.length + 1) * 8 ≤ 140737488355328 := by omega
  have hn2 : ∀ u ∈ [eU 9223372036854775807], u.oneCell' = true := by intro u hu; simp at hu; subst hu; rfl
  replace hn2 := Lib.hid hn2
  obtain ⟨i0, hi, hz0, hz1, hz2⟩ := info_parts infoU
  go_enter Try.func51, Try.ntmps51
  go_wp2_with (first
    | (go_at_call 57; (with_reducible refine (hC).mono ?_); rintro e w1 ⟨v, rfl, hown, hb⟩; obtain ⟨g, cap, rfl, hg1, hg2, hg3⟩ := owns_slice hown hpos; have hown2 := Lib.hid (hown.alloc (.cells #[eU 9223372036854775807] 22)); have hgl := hown.lt g rfl; replace hb := Lib.hid hb; have hsz := hb.out.size; have hn1 := Lib.hid (new_one w1); clear hown)
    | (at_builtin; refine wpList_append_own _ rfl _ _ 89 rfl w.heap.size 22 i0 (.int .u64 0) 1 8 Try.underlying89 hi hz0 hz1 hz2 rfl (by decide) (.slice (some ⟨g, 0, none⟩) cs.length cap) cs.length (cs.map eU) rfl hown2.out ⟨w1.heap.size, 0, none⟩ 1 1 [eU 9223372036854775807] rfl rfl hn1.out hn2.out hmx hby (by simp; omega) ?_; intro v2 w5 hown5 hgrow5 _))
  have T5 := Lib.hid ((hb.out.alloc hb.out.size (.cells #[eU 9223372036854775807] 22)).grown hgrow5 (by simp; omega) (fun j e => by simp [Value.ownBlock] at e; omega))
  obtain ⟨g2, cap2, rfl, hq1, hq2, hq3⟩ := owns_slice hown5 (by omega)
  have hcell := Lib.hid (fun (wr : World) (hr : Below w5.heap.size w5 wr) (j : Nat) (hj : j < ds.length) => row_cell (owns_below hown5 hr) hdm.out hj)
  clear hown5 hgrow5 hn1 hown2 hn2 hmx hby
  go_loopw [6] (fun s6 wr => ∃ j : Nat, s6 = .int .i64 ((j : Int) + 1) ∧ j + 1 ≤ ds.length ∧ LJ xs rate (j + 1) ∧ Below w5.heap.size w5 wr) (fun s6 _ => ds.length - (intOf s6).toNat)
  case atStart => exact ⟨0, by simp, by omega, hs.out, Below.refl _ _⟩
  case round =>
    obtain ⟨j, rfl, hj, hLJ, hb5⟩ := hrel
    by_cases hlt : j + 1 < ds.length
    · have c2 := hcell.out wr hb5 (j + 1) hlt
      have hd2 : 0 ≤ ds[j + 1] ∧ ds[j + 1] ≤ 9223372036854775807 := by have := hfs.out.2.1 (j + 1); rw [eds.out] at this; simpa using this hlt
      have j0 : (0 : Int) ≤ (j : Int) + 1 := by omega
      have j1 : (j : Int) + 1 < (cs.length : Int) + 1 := by omega
      have j2 : ((j : Int) + 1).toNat = j + 1 := by omega
      have hLw := hT.out
      have hTb := up T5.out hb5 T5.out.size
      have hM := fun w1 (hb : Below w.heap.size w w1) => hT.out w1 hb ds[j + 1] ⟨by omega, by omega⟩
      by_cases hl : lateAt xs rate ds[j + 1]
      · have hin := LJ.in hx.out hLJ (by omega) (by rw [eds.out]; exact hlt) (by simpa only [eds.out] using hl)
        simp only [eds.out, Nat.add_sub_cancel] at hin
        have hjl : j < ds.length := by omega
        rw [decide_eq_true hl] at hM
        clear hl hLJ
        have hc1 := Lib.hid (fun wr hb => hcell.out wr hb j hjl)
        have hc2 := Lib.hid (fun wr hb => hcell.out wr hb (j + 1) hlt)
        obtain ⟨d2, ed2⟩ : ∃ d2, ds[j + 1] = d2 := ⟨_, rfl⟩
        obtain ⟨d1, ed1⟩ : ∃ d1, ds[j] = d1 := ⟨_, rfl⟩
        rw [ed2] at c2 hM hin hc2
        rw [ed1] at hin hc1
        clear hd2 ed2 ed1 hLw
        replace hin := Lib.hid hin
        go_upto_region 6 with (go_at_call 58; (with_reducible refine (hM _ hTb).mono ?_); rintro e w6 ⟨rfl, hb6⟩)
        replace hb5 := up hb5 hb6 hb5.size
        replace hTb := Lib.hid (up T5.out hb5 T5.out.size)
        clear hb6 c2
        replace hb5 := Lib.hid hb5
        have c1 := hc1.out _ hb5.out
        have c2 := hc2.out _ hb5.out
        have k1 : IntKind.i64.wrap ((j : Int) + 1 - 1) = (j : Int) := by rw [show (j : Int) + 1 - 1 = j by omega]; exact IntWalk.i64_in _ (by omega)
        have k2 : (0 : Int) ≤ (j : Int) := by omega
        have k3 : ((j : Int)).toNat = j := by omega
        have k4 : (j : Int) < (cs.length : Int) + 1 := by omega
        go_quiet (fail)
        replace hb5 := Lib.hid (below_drewN hb5.out nq)
        generalize w6.drewN nq = w7 at hb5 ⊢
        clear k1 k2 k3 k4 c1 c2 hTb hc1 hc2 hM j0 j1 j2
        go_wp2
        go_loopw [7, 8] (fun s7 s8 wr => ∃ lo hi : Int, s7 = .int .u64 lo ∧ s8 = .int .u64 hi ∧ LI xs rate lo hi d1 d2 ∧ Below w5.heap.size w5 wr) (fun s7 s8 _ => (intOf s8 - intOf s7).toNat)
        case atStart => exact ⟨d1, d2, rfl, rfl, hin.out.1, hb5.out⟩
        case round =>
          obtain ⟨lo, hi, rfl, rfl, hI, hb8⟩ := hrel
          obtain ⟨-, hinn, hd0, hd9⟩ := hin.out
          obtain ⟨i1, i2, i3, i4, i5⟩ := id hI
          have p1 : IntKind.u64.wrap (lo + 1) = lo + 1 := IntWalk.u64_in _ (by omega)
          have hTb := up T5.out hb8 T5.out.size
          by_cases hlt2 : lo + 1 < hi
          · have p2 : IntKind.u64.wrap (hi - lo) = hi - lo := IntWalk.u64_in _ (by omega)
            obtain ⟨m, em⟩ : ∃ m, lo + (hi - lo) / 2 = m := ⟨_, rfl⟩
            have p3 : IntKind.u64.wrap (lo + (hi - lo) / 2) = m := by rw [em]; exact IntWalk.u64_in _ (by omega)
            have q1 : lo < m := by omega
            have q2 : m < hi := by omega
            have hM := hT.out wr hTb m ⟨by omega, by omega⟩
            by_cases t : lateAt xs rate m
            · have hN := Lib.hid (hI.high q1 q2 t)
              rw [decide_eq_true t] at hM
              clear i4 i5 em t hI hinn hTb
              go_wp2_with (go_at_call 58; (with_reducible refine hM.mono ?_); rintro e w9 ⟨rfl, hb9⟩)
              go_roundw
              case rel => exact ⟨lo, m, rfl, rfl, hN.out, up hb8 hb9 hb8.size⟩
              case measure => simp [intOf]; omega
            · have hN := Lib.hid (hI.low hinn hd0 q1 q2 t)
              rw [decide_eq_false t] at hM
              clear i4 i5 em t hI hinn hTb
              go_wp2_with (go_at_call 58; (with_reducible refine hM.mono ?_); rintro e w9 ⟨rfl, hb9⟩)
              go_roundw
              case rel => exact ⟨m, hi, rfl, rfl, hN.out, up hb8 hb9 hb8.size⟩
              case measure => simp [intOf]; omega
          · have e : n = hi := hu.out hi (hI.late hd0 hd9 (by omega))
            subst e
            go_wp2
            go_ret
            exact ⟨rfl, hTb⟩
      · have hnx := Lib.hid (LJ.next hx.out hLJ (by omega) (by rw [eds.out]; exact hlt) (by simpa only [eds.out] using hl))
        rw [decide_eq_false hl] at hM
        clear hl hLJ hLw
        obtain ⟨d2, ed2⟩ : ∃ d2, ds[j + 1] = d2 := ⟨_, rfl⟩
        rw [ed2] at c2 hM
        clear hd2 ed2
        go_wp2_with (go_at_call 58; (with_reducible refine (hM _ hTb).mono ?_); rintro e w6 ⟨rfl, hb6⟩)
        go_roundw
        case rel => exact ⟨j + 1, by go_num, by omega, hnx.out, up hb5 hb6 hb5.size⟩
        case measure => simp [intOf]; omega
    · have e : j + 1 = ds.length := by omega
      have en := hu.out 9223372036854775808 (LJ.done hx.out (by rw [eds.out, ← e]; exact hLJ))
      subst en
      have j1 : ¬ (j : Int) + 1 < (cs.length : Int) + 1 := by omega
      go_wp2
      go_ret
      exact ⟨rfl, up T5.out hb5 T5.out.size⟩
end Go.Proofs.Ytjbpaapglamilaa
namespace Go.Proofs.Ytjbpaapglamilaa
open Go.RowKit W
set_option linter.unusedVariables false
theorem kKept_any (xs : List Cv) (rate n : Int) (a : Option Addr) (k c : Nat) (w : World) (hx : ∀ c ∈ xs, c.word) (hr : Word rate) (hn : xs.length ≤ 1000) (h : IsCvs w a k c xs) (hL : IsLate xs rate n) :
    Calls Try.prog 42 #[.slice a k c, .int .u64 rate] w fun e w' => e = .returned (.bool (decide (n = 9223372036854775808))) ∧ Below w.heap.size w w' := by
  have hA := kLate_any xs rate n a k c w hx hr hn h hL
  by_cases e : n = 9223372036854775808
  · have e' : (n == 9223372036854775808) = true := by simp [e]
    rw [decide_eq_true e]
    clear hL h hn hx hr
    subst e
    go_enter Try.func42, Try.ntmps42
    go_wp2_with (go_at_call 51; (with_reducible refine hA.mono ?_); rintro e w1 ⟨rfl, hb⟩)
    go_ret
    exact ⟨rfl, hb⟩
  · have e' : (n == 9223372036854775808) = false := by simp [e]
    rw [decide_eq_false e]
    clear hL h hn hx hr
    go_enter Try.func42, Try.ntmps42
    go_wp2_with (go_at_call 51; (with_reducible refine hA.mono ?_); rintro e w1 ⟨rfl, hb⟩)
    go_ret
    exact ⟨rfl, hb⟩
end Go.Proofs.Ytjbpaapglamilaa
namespace Go.Proofs.Ytjbpaapglamilaa
open Go.RowKit W
set_option linter.unusedVariables false
/-- Bit by bit: K holds at n; not at n and D. -/
def SI (K : Int → Prop) (n bit : Int) : Prop :=
  0 ≤ n ∧ n ≤ 1048576 ∧ K n ∧ ∃ D, (1048576 < n + D ∨ ¬ K (n + D)) ∧ ((bit = 0 ∧ D = 1) ∨ ∃ e : Nat, e ≤ 20 ∧ bit = 2 ^ e ∧ D = 2 * 2 ^ e)
theorem SI.start {K : Int → Prop} (h : K 0) : SI K 0 1048576 := ⟨by omega, by omega, h, 2097152, .inl (by omega), .inr ⟨20, by omega, by decide, by decide⟩⟩
theorem SI.half {bit D : Int} (h : (bit = 0 ∧ D = 1) ∨ ∃ e : Nat, e ≤ 20 ∧ bit = 2 ^ e ∧ D = 2 * 2 ^ e) (hb : 0 < bit) : D = bit + bit ∧ ((bit / 2 = 0 ∧ bit = 1) ∨ ∃ e : Nat, e ≤ 20 ∧ bit / 2 = 2 ^ e ∧ bit = 2 * 2 ^ e) := by
  rcases h with ⟨h, _⟩ | ⟨e, he, rfl, rfl⟩
  · omega
  · refine ⟨by omega, ?_⟩
    cases e with
    | zero => exact .inl ⟨by decide, by decide⟩
    | succ e =>
      refine .inr ⟨e, by omega, ?_, ?_⟩
      · rw [Int.pow_succ]; omega
      · rw [Int.pow_succ]; omega
theorem SI.skip {K : Int → Prop} {n bit : Int} (h : SI K n bit) (hb : 0 < bit) (hn : 1048576 < n + bit ∨ ¬ K (n + bit)) : SI K n (bit / 2) := by
  obtain ⟨h1, h2, h3, D, h4, h5⟩ := h
  obtain ⟨e, h6⟩ := SI.half h5 hb
  exact ⟨h1, h2, h3, bit, hn, h6⟩
theorem SI.take {K : Int → Prop} {n bit : Int} (h : SI K n bit) (hb : 0 < bit) (hn : n + bit ≤ 1048576) (hk : K (n + bit)) : SI K (n + bit) (bit / 2) := by
  obtain ⟨h1, h2, h3, D, h4, h5⟩ := h
  obtain ⟨e, h6⟩ := SI.half h5 hb
  subst e
  exact ⟨by omega, hn, hk, bit, by rw [← Int.add_assoc] at h4; exact h4, h6⟩
theorem SI.done {K : Int → Prop} {n : Int} (h : SI K n 0) : 0 ≤ n ∧ n ≤ 1048576 ∧ K n ∧ (n = 1048576 ∨ ¬ K (n + 1)) := by
  obtain ⟨h1, h2, h3, D, h4, h5⟩ := h
  have e : D = 1 := by
    rcases h5 with ⟨_, h⟩ | ⟨e, _, h, _⟩
    · exact h
    · have : (0 : Int) < 2 ^ e := Int.pow_pos (by decide)
      omega
  subst e
  exact ⟨h1, h2, h3, by rcases h4 with h | h
                        · left; omega
                        · exact .inr h⟩
theorem SI.bit {K : Int → Prop} {n bit : Int} (h : SI K n bit) : 0 ≤ bit ∧ bit ≤ 1048576 := by
  obtain ⟨h1, h2, h3, D, h4, h5⟩ := h
  rcases h5 with ⟨h, _⟩ | ⟨e, he, h, _⟩
  · omega
  · have h0 : (0 : Int) < 2 ^ e := Int.pow_pos (by decide)
    have h1 : (2 : Int) ^ e ≤ 2 ^ 20 := by
      have : (2 : Nat) ^ e ≤ 2 ^ 20 := Nat.pow_le_pow_right (by decide) he
      exact_mod_cast this
    have h2 : (2 : Int) ^ 20 = 1048576 := by decide
    omega
/-- Curves, cell by cell. -/
def cvC : List Cv → List Value
  | [] => []
  | c :: l => eU c.f :: eU c.l :: eU c.r :: cvC l
theorem cvC_length (xs : List Cv) : (cvC xs).length = xs.length * 3 := by
  induction xs with
  | nil => rfl
  | cons c l ih => simp [cvC, ih]; omega
theorem cvC_append (a b : List Cv) : cvC (a ++ b) = cvC a ++ cvC b := by
  induction a with
  | nil => rfl
  | cons c l ih => simp [cvC, ih]
theorem cvC_get (xs : List Cv) (i : Nat) (h : i < xs.length) : (cvC xs)[i * 3]? = some (eU xs[i].f) ∧ (cvC xs)[i * 3 + 1]? = some (eU xs[i].l) ∧ (cvC xs)[i * 3 + 2]? = some (eU xs[i].r) := by
  induction xs generalizing i with
  | nil => simp at h
  | cons c l ih =>
    cases i with
    | zero => simp [cvC]
    | succ i =>
      have hi : i < l.length := by simpa using h
      have e0 : (i + 1) * 3 = i * 3 + 1 + 1 + 1 := by omega
      have e2 : i * 3 + 1 + 1 + 1 + 2 = i * 3 + 2 + 1 + 1 + 1 := by omega
      rw [e0, e2]
      simpa [cvC] using ih i hi
theorem cvC_cells {w : World} {b o : Nat} {xs : List Cv} (h : CvRow w b o xs) (j : Nat) (u : Value) (hj : (cvC xs)[j]? = some u) : w.cell? ((⟨b, o, none⟩ : Addr).add j) = some u := by
  have hlt : j < xs.length * 3 := by
    rw [← cvC_length]
    rcases Nat.lt_or_ge j (cvC xs).length with g | g
    · exact g
    · rw [List.getElem?_eq_none g] at hj; cases hj
  have hadd : (⟨b, o, none⟩ : Addr).add j = ⟨b, o + j, none⟩ := by unfold Addr.add; split <;> simp_all
  rw [hadd]
  have hi : j / 3 < xs.length := by omega
  obtain ⟨g0, g1, g2⟩ := cvC_get xs (j / 3) hi
  obtain ⟨k0, k1, k2⟩ := h.2 (j / 3) hi
  rcases (show j % 3 = 0 ∨ j % 3 = 1 ∨ j % 3 = 2 by omega) with r | r | r
  · have e : j / 3 * 3 = j := by omega
    rw [e] at g0 k0
    rw [hj] at g0; cases g0; exact k0
  · have e : j / 3 * 3 + 1 = j := by omega
    rw [e] at g1; rw [Nat.add_assoc, e] at k1
    rw [hj] at g1; cases g1; exact k1
  · have e : j / 3 * 3 + 2 = j := by omega
    rw [e] at g2; rw [Nat.add_assoc, e] at k2
    rw [hj] at g2; cases g2; exact k2
theorem cvC_one (xs : List Cv) : ∀ u ∈ cvC xs, u.oneCell' = true := by
  induction xs with
  | nil => simp [cvC]
  | cons c l ih =>
    intro u hu
    simp only [cvC, List.mem_cons] at hu
    rcases hu with rfl | rfl | rfl | hu
    · rfl
    · rfl
    · rfl
    · exact ih u hu
/-- A row of curves that a call made. -/
theorem cvC_row {w : World} {base g n cap : Nat} {xs : List Cv} (h : w.ownsRow base 25 3 (.slice (some ⟨g, 0, none⟩) n cap) n (cvC xs)) : CvRow w g 0 xs := by
  have hg : g < w.heap.size := by
    rcases h.2 with ⟨e, _⟩ | ⟨g', cap', cur, e, hb, hg, _⟩
    · cases e
    · cases e; exact (Array.getElem?_eq_some_iff.1 hg).1
  refine ⟨hg, fun i hi => ?_⟩
  obtain ⟨g0, g1, g2⟩ := cvC_get xs i hi
  have hadd : ∀ j, (⟨g, 0, none⟩ : Addr).add j = ⟨g, 0 + j, none⟩ := fun j => by unfold Addr.add; split <;> simp_all
  have c0 := h.cells (g := g) rfl _ _ g0
  have c1 := h.cells (g := g) rfl _ _ g1
  have c2 := h.cells (g := g) rfl _ _ g2
  rw [hadd] at c0 c1 c2
  exact ⟨c0, c1, c2⟩
theorem infoC : (Try.prog.info? 25).map (fun i => (i.zero, i.size, i.bytes)) = some (some (.agg #[.int .u64 0, .int .u64 0, .int .u64 0]), 3, 24) := by kernel_rfl
/-- Whether they are kept, as a test. -/
theorem kKept_b (xs : List Cv) (rate : Int) (b : Bool) (a : Option Addr) (k c : Nat) (w : World) (hx : ∀ c ∈ xs, c.word) (hr : Word rate) (hn : xs.length ≤ 1000) (h : IsCvs w a k c xs) (hb : b = true ↔ kept xs rate) :
    Calls Try.prog 42 #[.slice a k c, .int .u64 rate] w fun e w' => e = .returned (.bool b) ∧ Below w.heap.size w w' := by
  obtain ⟨n, hL⟩ := late_ex xs rate
  have := kKept_any xs rate n a k c w hx hr hn h hL
  have e : decide (n = 9223372036854775808) = b := by
    have h1 := kept_iff hL
    cases b with
    | true => exact decide_eq_true (h1.1 (hb.1 rfl))
    | false => exact decide_eq_false (fun q => by have := hb.2 (h1.2 q); cases this)
  rw [e] at this
  exact this
theorem three_one (x : Int) : ∀ u ∈ [eU 0, eU 0, eU x], u.oneCell' = true := by
  intro u hu
  simp only [List.mem_cons, List.not_mem_nil, or_false] at hu
  rcases hu with rfl | rfl | rfl <;> rfl
theorem three_new (w : World) (x : Int) : ∀ j u, [eU 0, eU 0, eU x][j]? = some u → (w.alloc (.cells #[eU 0, eU 0, eU x] 25)).cell? ((⟨w.heap.size, 0, none⟩ : Addr).add j) = some u := by
  intro j u hj
  match j, hj with
  | 0, hj => simp at hj; subst hj; simp [Addr.add]
  | 1, hj => simp at hj; subst hj; simp [Addr.add]
  | 2, hj => simp at hj; subst hj; simp [Addr.add]
theorem row_line (xs : List Cv) (x : Int) {w : World} {base : Nat} {v : Value} (h : w.ownsRow base 25 3 v (0 + xs.length + 1) ([] ++ cvC xs ++ [eU 0, eU 0, eU x])) :
    ∃ g cap, v = .slice (some ⟨g, 0, none⟩) (xs.length + 1) cap ∧ IsCvs w (some ⟨g, 0, none⟩) (xs.length + 1) cap (xs ++ [⟨0, 0, x⟩]) := by
  rw [Nat.zero_add] at h
  rcases h.2 with ⟨e, h2⟩ | ⟨g, cap, cur, e, h2, h3, h4, h5, _⟩
  · omega
  · subst e
    refine ⟨g, cap, rfl, by simp, h4, .inr ⟨g, 0, rfl, ?_⟩⟩
    refine cvC_row (n := xs.length + 1) (cap := cap) (base := base) ?_
    rw [cvC_append]
    exact h
theorem line_words {xs : List Cv} {x : Int} (h : ∀ c ∈ xs, c.word) (hx : Word x) : ∀ c ∈ xs ++ [⟨0, 0, x⟩], c.word := by
  intro c hc
  rcases List.mem_append.1 hc with q | q
  · exact h c q
  · rw [List.mem_singleton.1 q]; exact ⟨⟨Int.le_refl 0, by show (0 : Int) < _; omega⟩, ⟨Int.le_refl 0, by show (0 : Int) < _; omega⟩, hx⟩
theorem row_line_nil (xs : List Cv) (ex : xs = []) (x : Int) {w : World} {base : Nat} {v : Value} (h : w.ownsRow base 25 3 v (0 + 1) ([] ++ [eU 0, eU 0, eU x])) :
    ∃ g cap, v = .slice (some ⟨g, 0, none⟩) 1 cap ∧ IsCvs w (some ⟨g, 0, none⟩) 1 cap (xs ++ [⟨0, 0, x⟩]) := by
  subst ex
  exact row_line [] x h
end Go.Proofs.Ytjbpaapglamilaa
namespace Go.Proofs.Ytjbpaapglamilaa
open Go.ChangeShapes Go.WideShapes Go.Deep Go.RowKit W
set_option linter.unusedVariables false
section
variable {H : Type} {enc : TypeId × Value → H} {P : Program} {w : World} {base : Nat} {spare : Nat → Bool} {held : Bool}
/-- One element: three cells that are words. -/
theorem open_cv {e : TypeId} {f0 f1 f2 : Field} {n : Nat} {a : Addr} {cs : List Value} {x : DataW H × List MemPlace} (he : P.underlying e = some (.struct #[f0, f1, f2])) (u0 : P.underlying f0.type = some (.int .u64)) (u1 : P.underlying f1.type = some (.int .u64)) (u2 : P.underlying f2.type = some (.int .u64))
    (o0 : f0.offset = 0 ∧ P.cellsOf f0.type = 1) (o1 : f1.offset = 1 ∧ P.cellsOf f1.type = 1) (o2 : f2.offset = 2 ∧ P.cellsOf f2.type = 1)
    (hc : w.cells? base a 3 = some cs) (h : DataW.trod enc P w base spare held n e cs = some x) :
    ∃ v : Cv, v.word ∧ w.cell? (a.add 0) = some (.int .u64 v.f) ∧ w.cell? (a.add 1) = some (.int .u64 v.l) ∧ w.cell? (a.add 2) = some (.int .u64 v.r) := by
  obtain ⟨_, hl, hat⟩ := World.cells?_some hc
  obtain ⟨ys, m, _, _, _, hys, hf⟩ := DataW.trod_struct he h
  match cs, hl with
  | [c0, c1, c2], _ =>
    match ys, hys with
    | [y0, y1, y2], _ =>
      have g0 := hf 0 f0 rfl
      have g1 := hf 1 f1 rfl
      have g2 := hf 2 f2 rfl
      rw [o0.1, o0.2] at g0
      rw [o1.1, o1.2] at g1
      rw [o2.1, o2.2] at g2
      obtain ⟨n0, e0, _, w0⟩ := DataW.trod_int u0 (x := y0) (by simpa using g0)
      obtain ⟨n1, e1, _, w1⟩ := DataW.trod_int u1 (x := y1) (by simpa using g1)
      obtain ⟨n2, e2, _, w2⟩ := DataW.trod_int u2 (x := y2) (by simpa using g2)
      simp at e0 e1 e2
      subst e0 e1 e2
      exact ⟨⟨n0, n1, n2⟩, ⟨word_of w0, word_of w1, word_of w2⟩, hat 0 (by omega), hat 1 (by omega), hat 2 (by omega)⟩
/-- The slice: curves, all of words. -/
theorem open_cvs {t e : TypeId} {f0 f1 f2 : Field} {fuel : Nat} {cs : List Value} {x : DataW H × List MemPlace} (ht : P.underlying t = some (.slice e)) (he : P.underlying e = some (.struct #[f0, f1, f2])) (u0 : P.underlying f0.type = some (.int .u64)) (u1 : P.underlying f1.type = some (.int .u64)) (u2 : P.underlying f2.type = some (.int .u64))
    (hone : oneCellFields P #[f0, f1, f2] = true) (hC : P.cellsOf e = 3) (h : DataW.trod enc P w base spare held fuel t cs = some x) :
    ∃ (a : Option Addr) (n c : Nat) (xs : List Cv), cs = [.slice a n c] ∧ IsCvs w a n c xs ∧ (∀ v ∈ xs, v.word) ∧ c ≤ maxLen ∧ (a = none → n = 0 ∧ c = 0) := by
  rcases open_slice ht h with ⟨h0, _⟩ | ⟨a, len, cap, m, n, D, Pl, hcs, hb, hl, hm, hmm, hx, hi⟩
  · exact ⟨none, 0, 0, [], h0, ⟨rfl, Nat.le_refl _, .inl rfl⟩, by simp, by decide, fun _ => ⟨rfl, rfl⟩⟩
  · have hlm : len ≤ m := by rw [hmm]; split <;> omega
    have key : ∀ i, i < len → ∃ v : Cv, v.word ∧ w.cell? (a.add (i * 3)) = some (.int .u64 v.f) ∧ w.cell? (a.add (i * 3 + 1)) = some (.int .u64 v.l) ∧ w.cell? (a.add (i * 3 + 2)) = some (.int .u64 v.r) := by
      intro i hil
      obtain ⟨cs', hc, ht'⟩ := hi i (by omega)
      rw [hC] at hc
      obtain ⟨v, hv, g0, g1, g2⟩ := open_cv he u0 u1 u2 (hone_of hone 0 f0 rfl) (hone_of hone 1 f1 rfl) (hone_of hone 2 f2 rfl) hc ht'
      rw [add_add] at g0 g1 g2
      exact ⟨v, hv, g0, g1, g2⟩
    obtain ⟨F, hF⟩ : ∃ F : Nat → Cv, ∀ i, i < len → (F i).word ∧ w.cell? (a.add (i * 3)) = some (.int .u64 (F i).f) ∧ w.cell? (a.add (i * 3 + 1)) = some (.int .u64 (F i).l) ∧ w.cell? (a.add (i * 3 + 2)) = some (.int .u64 (F i).r) := by
      refine ⟨fun i => if q : i < len then Classical.choose (key i q) else ⟨0, 0, 0⟩, fun i hil => ?_⟩
      simp only [hil, dif_pos]
      exact Classical.choose_spec (key i hil)
    refine ⟨some a, len, cap, (List.range len).map F, hcs, ⟨by simp, hl, ?_⟩, ?_, hm, fun q => by cases q⟩
    · by_cases hz : len = 0
      · exact .inl hz
      · have c0 := (hF 0 (by omega)).2.1
        obtain ⟨b, off, spot⟩ := a
        have hspot : spot = none := by simpa [Addr.add] using World.cell?_spot c0
        subst hspot
        have hadd : ∀ j, (⟨b, off, none⟩ : Addr).add j = ⟨b, off + j, none⟩ := fun j => by unfold Addr.add; split <;> simp_all
        rw [hadd] at c0
        refine .inr ⟨b, off, rfl, World.block_lt_of_cell? w _ c0, fun i hil => ?_⟩
        have hil' : i < len := by simpa using hil
        obtain ⟨_, g0, g1, g2⟩ := hF i hil'
        rw [hadd] at g0 g1 g2
        simp only [List.getElem_map, List.getElem_range]
        exact ⟨g0, g1, g2⟩
    · intro v hv
      obtain ⟨i, hil, rfl⟩ := List.mem_map.1 hv
      exact (hF i (List.mem_range.1 hil)).1
end
end Go.Proofs.Ytjbpaapglamilaa
