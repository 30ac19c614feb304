/- What packet.Text answers: a packet's text, or none. Condition: the library's table of powers of ten holds them. -/
import Derived.Test.YtdmgalcfgignpaaDoorPkF
import Derived.Test.YtdmgalcfgignpaaDoorPkR
import Derived.OwnWalk
import Derived.RegionTactic
import Derived.Laws.EntriesVeiled
namespace Go.Proofs.YtdmgalcfgignpaaDoor
open Go.RowKit W
set_option linter.unusedVariables false

/-- Block B is a block of those values. -/
def Box (W : World) (B : Nat) (vs : Array Value) (t : TypeId) : Prop := W.heap[B]? = some (.cells vs t (0, 0))
theorem Box.lt {W : World} {B : Nat} {t : TypeId} {v : Array Value} (h : Box W B v t) : B < W.heap.size := (Array.getElem?_eq_some_iff.1 h).1
theorem Box.new (W : World) (t : TypeId) (v : Array Value) : Box (W.alloc (.cells v t)) W.heap.size v t := heap_alloc_new W _
theorem Box.alloc {W : World} {B : Nat} {t : TypeId} {v : Array Value} (h : Box W B v t) (o : Obj) : Box (W.alloc o) B v t := (Below.heap_alloc W o B h.lt).trans h
theorem Box.below {W w : World} {B : Nat} {t : TypeId} {v : Array Value} (h : Box W B v t) (hb : Below W.heap.size W w) : Box w B v t := (hb.block B h.lt).trans h
theorem Box.cell {W : World} {B : Nat} {vs : Array Value} {t : TypeId} (h : Box W B vs t) (i : Nat) : W.cell? ⟨B, i, none⟩ = vs[i]? := by
  have e : W.heap[B]? = some (.cells vs t (0, 0)) := h
  simp [World.cell?, e]
theorem Box.thaw {W : World} {B : Nat} {vs : Array Value} {t : TypeId} (h : Box W B vs t) (i : Nat) : W.frozen? ⟨B, i, none⟩ = false := by
  have e : W.heap[B]? = some (.cells vs t (0, 0)) := h
  simp [World.frozen?, e]
theorem Box.grown {W w : World} {B : Nat} {vs : Array Value} {t : TypeId} {row : Option Nat} (h : Box W B vs t) (g : W.grownBy w row) (hr : some B ≠ row) : Box w B vs t := (g.block B h.lt hr).trans h

theorem numbers_any (w : World) :
    Calls Tryd.prog 22 #[] w fun e w' => e = .returned (.agg #[.func (.func 36) #[] #[], .func (.func 37) #[] #[], .func (.func 38) #[] #[], .func (.func 39) #[] #[]]) ∧ Below w.heap.size w w' := by
  go_enter Tryd.func22, Tryd.ntmps22
  go_wp2
  exact bodyPost_ret (v := .agg #[.func (.func 36) #[] #[], .func (.func 37) #[] #[], .func (.func 38) #[] #[], .func (.func 39) #[] #[]]) (by simp [results, Tryd.results22, go_sem]) rfl ⟨rfl, up1 _ _⟩
theorem id_any (i c l t : Int) (w : World) :
    Calls Tryd.prog 36 #[.agg #[.int .u64 i, .int .i64 c, .int .i64 l, .int .u64 t]] w fun e w' => e = .returned (.tuple #[.int .u64 i, .bool true]) ∧ Below w.heap.size w w' := by
  go_enter Tryd.func36, Tryd.ntmps36
  go_wp2
  go_ret2
  exact ⟨rfl, up1 _ _⟩
theorem at_any (i c l t : Int) (w : World) :
    Calls Tryd.prog 39 #[.agg #[.int .u64 i, .int .i64 c, .int .i64 l, .int .u64 t]] w fun e w' => e = .returned (.tuple #[.int .u64 t, .bool true]) ∧ Below w.heap.size w w' := by
  go_enter Tryd.func39, Tryd.ntmps39
  go_wp2
  go_ret2
  exact ⟨rfl, up1 _ _⟩
theorem class_ok (i c l t : Int) (w : World) (h0 : 0 ≤ c) (h1 : c < 9223372036854775808) :
    Calls Tryd.prog 37 #[.agg #[.int .u64 i, .int .i64 c, .int .i64 l, .int .u64 t]] w fun e w' => e = .returned (.tuple #[.int .u64 c, .bool true]) ∧ Below w.heap.size w w' := by
  have e1 : IntKind.u64.wrap c = c := by rw [IntKind.wrap_u64]; omega
  have e2 : decide (0 ≤ c) = true := by simp [h0]
  go_enter Tryd.func37, Tryd.ntmps37
  go_wp2
  go_region
  all_goals (go_wp2; go_ret2; exact ⟨by simp, (up1 _ _).drew⟩)
theorem class_no (i c l t : Int) (w : World) (h0 : c < 0) :
    Calls Tryd.prog 37 #[.agg #[.int .u64 i, .int .i64 c, .int .i64 l, .int .u64 t]] w fun e w' => e = .returned (.tuple #[.int .u64 (IntKind.u64.wrap c), .bool false]) ∧ Below w.heap.size w w' := by
  have e2 : decide (0 ≤ c) = false := by simp; omega
  go_enter Tryd.func37, Tryd.ntmps37
  go_wp2
  go_region
  all_goals (go_wp2; go_ret2; exact ⟨by simp, (up1 _ _).drew⟩)
theorem length_ok (i c l t : Int) (w : World) (h0 : 0 ≤ l) (h1 : l < 9223372036854775808) :
    Calls Tryd.prog 38 #[.agg #[.int .u64 i, .int .i64 c, .int .i64 l, .int .u64 t]] w fun e w' => e = .returned (.tuple #[.int .u64 l, .bool true]) ∧ Below w.heap.size w w' := by
  have e1 : IntKind.u64.wrap l = l := by rw [IntKind.wrap_u64]; omega
  have e2 : decide (0 ≤ l) = true := by simp [h0]
  go_enter Tryd.func38, Tryd.ntmps38
  go_wp2
  go_region
  all_goals (go_wp2; go_ret2; exact ⟨by simp, (up1 _ _).drew⟩)
theorem length_no (i c l t : Int) (w : World) (h0 : l < 0) :
    Calls Tryd.prog 38 #[.agg #[.int .u64 i, .int .i64 c, .int .i64 l, .int .u64 t]] w fun e w' => e = .returned (.tuple #[.int .u64 (IntKind.u64.wrap l), .bool false]) ∧ Below w.heap.size w w' := by
  have e2 : decide (0 ≤ l) = false := by simp; omega
  go_enter Tryd.func38, Tryd.ntmps38
  go_wp2
  go_region
  all_goals (go_wp2; go_ret2; exact ⟨by simp, (up1 _ _).drew⟩)

theorem infoS : (Tryd.prog.info? 9).map (fun i => (i.zero, i.size, i.bytes)) = some (some (.string ⟨#[]⟩), 1, 16) := by kernel_rfl

theorem join4 (a b c d : List UInt8) : Lib.join [a, b, c, d] [32] = a ++ 32 :: (b ++ 32 :: (c ++ 32 :: d)) := by
  simp [Lib.join, List.intercalate]

/-- A packet's four numbers as strings. -/
def strs (p : Pk) : List ByteArray := [dec p.id.toNat, dec p.cls.toNat, dec p.len.toNat, dec p.tick.toNat]
def strV (p : Pk) : List Value := (strs p).map Value.string
theorem strV_len (p : Pk) : (strV p).length = 4 := rfl
theorem own_below {w w' : World} {base : Nat} {e : TypeId} {size : Nat} {v : Value} {n : Nat} {xs : List Value} (h : w.ownsRow base e size v n xs) (hb : Below w.heap.size w w') : w'.ownsRow base e size v n xs :=
  h.kept (row := none) ⟨hb.os, hb.tape, hb.output, hb.size, fun k hk _ => hb.block k hk⟩ (by cases hv : v.ownBlock <;> simp)
theorem own_some {w : World} {base : Nat} {e : TypeId} {size : Nat} {v : Value} {n : Nat} {xs : List Value} (h : w.ownsRow base e size v n xs) (hn : 0 < n) :
    ∃ g cap, v = .slice (some ⟨g, 0, none⟩) n cap ∧ base ≤ g ∧ g < w.heap.size ∧ n ≤ cap ∧ cap ≤ maxLen ∧ ∀ j u, xs[j]? = some u → w.cell? ((⟨g, 0, none⟩ : Addr).add j) = some u := by
  have hc := fun g (e : v.ownBlock = some g) => h.cells e
  have hl := h.lt
  rcases h.2 with ⟨_, h0⟩ | ⟨g, cap, cur, rfl, hb, _, hk, hm, _, _⟩
  · omega
  · exact ⟨g, cap, rfl, hb, (hl g rfl).2, hk, hm, hc g rfl⟩
theorem one_news (w : World) (x : Value) (t : TypeId) : ∀ j u, [x][j]? = some u → (w.alloc (.cells #[x] t)).cell? ((⟨w.heap.size, 0, none⟩ : Addr).add j) = some u := by
  intro j u hj
  match j, hj with
  | 0, hj =>
    have e : (w.alloc (.cells #[x] t)).cell? ⟨w.heap.size, 0, none⟩ = (#[x] : Array Value)[0]? := World.cell?_alloc_new _ _ _ _
    have a : (⟨w.heap.size, 0, none⟩ : Addr).add 0 = ⟨w.heap.size, 0, none⟩ := Lib.add_plain _ _ _
    rw [a, e]
    simpa using hj
  | j + 1, hj => simp at hj
theorem one_str (x : ByteArray) : ∀ u ∈ [Value.string x], u.oneCell' = true := by
  intro u hu
  simp only [List.mem_singleton] at hu
  subst hu; rfl
theorem ix0 (W : World) : (Instr.index 54 (.agg #[.func (.func 36) #[] #[], .func (.func 37) #[] #[], .func (.func 38) #[] #[], .func (.func 39) #[] #[]]) (.int .i64 0)).run Tryd.prog W = .ok (.func (.func 36) #[] #[]) W := by simp [Instr.index, go_sem]
theorem ix1 (W : World) : (Instr.index 54 (.agg #[.func (.func 36) #[] #[], .func (.func 37) #[] #[], .func (.func 38) #[] #[], .func (.func 39) #[] #[]]) (.int .i64 1)).run Tryd.prog W = .ok (.func (.func 37) #[] #[]) W := by simp [Instr.index, go_sem]
theorem ix2 (W : World) : (Instr.index 54 (.agg #[.func (.func 36) #[] #[], .func (.func 37) #[] #[], .func (.func 38) #[] #[], .func (.func 39) #[] #[]]) (.int .i64 2)).run Tryd.prog W = .ok (.func (.func 38) #[] #[]) W := by simp [Instr.index, go_sem]
theorem ix3 (W : World) : (Instr.index 54 (.agg #[.func (.func 36) #[] #[], .func (.func 37) #[] #[], .func (.func 38) #[] #[], .func (.func 39) #[] #[]]) (.int .i64 3)).run Tryd.prog W = .ok (.func (.func 39) #[] #[]) W := by simp [Instr.index, go_sem]
theorem FormatU_any (x : Int) (hx : Word x) (w : World) (ht : Tab w) :
    Calls Tryd.prog 23 #[.int .u64 x, .int .i64 10] w fun e w' => e = .returned (.string (dec x.toNat)) ∧ Below w.heap.size w w' := by
  obtain ⟨u, rfl⟩ : ∃ u : Nat, x = (u : Int) := ⟨x.toNat, by have := hx.1; omega⟩
  rw [Int.toNat_natCast]
  exact FormatUint_any u (by have := hx.2; omega) w ht

set_option maxHeartbeats 4000000 in
set_option maxRecDepth 100000 in
theorem Text_good (p : Pk) (hp : p.ok) (g : p.good) (w : World) (ht : Tab w) :
    Calls Tryd.prog 8 #[.agg #[.int .u64 p.id, .int .i64 p.cls, .int .i64 p.len, .int .u64 p.tick]] w fun e w' => e = .returned (.tuple #[.string ⟨(txt p).toArray⟩, .int .i64 0]) ∧ Below w.heap.size w w' := by
  obtain ⟨i, c, l, t⟩ := p
  obtain ⟨wi, ⟨_, wc⟩, ⟨_, wl⟩, wt⟩ := hp
  obtain ⟨gc, gl⟩ := g
  simp only at wi wc wl wt gc gl ⊢
  have hN := numbers_any
  have h0 := fun w => id_any i c l t w
  have h1 := fun w => class_ok i c l t w gc wc
  have h2 := fun w => length_ok i c l t w gl wl
  have h3 := fun w => at_any i c l t w
  have F0 := fun w => FormatU_any i wi w
  have F1 := fun w => FormatU_any c ⟨gc, by omega⟩ w
  have F2 := fun w => FormatU_any l ⟨gl, by omega⟩ w
  have F3 := fun w => FormatU_any t wt w
  have x0 := ix0
  have x1 := ix1
  have x2 := ix2
  have x3 := ix3
  obtain ⟨i0, hi, hz0, hz1, hz2⟩ := info_parts infoS
  have BX := Box.new w 24 #[.int .u64 i, .int .i64 c, .int .i64 l, .int .u64 t]
  have T := up1 w (.cells #[.int .u64 i, .int .i64 c, .int .i64 l, .int .u64 t] 24)
  have hJ : ∀ (g cap : Nat) (w' : World), g < w'.heap.size → 4 ≤ cap → (∀ j u, (strV ⟨i, c, l, t⟩)[j]? = some u → w'.cell? ((⟨g, 0, none⟩ : Addr).add j) = some u) →
      Calls Tryd.prog 24 #[.slice (some ⟨g, 0, none⟩) 4 cap, .string ⟨#[32]⟩] w' fun e w'' => e = .returned (.string ⟨(txt ⟨i, c, l, t⟩).toArray⟩) ∧ Below w'.heap.size w' w'' := by
    intro g cap w' hg hc hcell
    have hlen := txt_length ⟨i, c, l, t⟩ ⟨wi, ⟨by assumption, wc⟩, ⟨by assumption, wl⟩, wt⟩ ⟨gc, gl⟩
    have ej : Lib.join ((strs ⟨i, c, l, t⟩).map (·.data.toList)) (⟨#[32]⟩ : ByteArray).data.toList = txt ⟨i, c, l, t⟩ := join4 _ _ _ _
    have h := Tryd.strings_Join g 0 cap (strs ⟨i, c, l, t⟩) ⟨#[32]⟩ w' (fun j x hx => by
      have h := hcell j (.string x) (by unfold strV; rw [List.getElem?_map, hx]; rfl)
      rwa [Lib.add_plain] at h) hg (by simp [strs]) hc (by rw [ej]; omega)
    rw [ej] at h
    exact h
  generalize hS : strV ⟨i, c, l, t⟩ = S at hJ
  have hJ := Lib.hid hJ
  have t0 : S.take 1 = S.take 0 ++ [.string (dec i.toNat)] := by rw [← hS]; rfl
  have t1 : S.take 2 = S.take 1 ++ [.string (dec c.toNat)] := by rw [← hS]; rfl
  have t2 : S.take 3 = S.take 2 ++ [.string (dec l.toNat)] := by rw [← hS]; rfl
  have t3 : S.take 4 = S.take 3 ++ [.string (dec t.toNat)] := by rw [← hS]; rfl
  have t4 : S.take 4 = S := by rw [← hS]; rfl
  replace t0 := Lib.hid t0
  replace t1 := Lib.hid t1
  replace t2 := Lib.hid t2
  replace t3 := Lib.hid t3
  replace t4 := Lib.hid t4
  clear hS
  go_enter Tryd.func8, Tryd.ntmps8
  go_wp2_with (first
    | (go_at_call 22; (with_reducible refine (hN _).mono ?_); rintro e w1 ⟨rfl, hb1⟩; replace BX := BX.below hb1; replace T := ups T hb1 T.size; clear hb1))
  go_loopw [4, 10] (fun v j wr => ∃ k : Nat, k ≤ 4 ∧ j = .int .i64 k ∧ wr.ownsRow (w.heap.size + 1) 9 1 v k (S.take k) ∧ Box wr w.heap.size #[.int .u64 i, .int .i64 c, .int .i64 l, .int .u64 t] 24 ∧ Below w.heap.size w wr) (fun _ j _ => 4 - (Lib.intOf j).toNat)
  case atStart => exact ⟨0, by omega, rfl, World.ownsRow_nil _ _ _ _, BX, T⟩
  case round =>
    obtain ⟨k, hk, rfl, hown, hbox, hbw⟩ := hrel
    have c0 : wr.cell? ⟨w.heap.size, 0, none⟩ = some (.int .u64 i) := hbox.cell 0
    have c1 : wr.cell? ⟨w.heap.size, 1, none⟩ = some (.int .i64 c) := hbox.cell 1
    have c2 : wr.cell? ⟨w.heap.size, 2, none⟩ = some (.int .i64 l) := hbox.cell 2
    have c3 : wr.cell? ⟨w.heap.size, 3, none⟩ = some (.int .u64 t) := hbox.cell 3
    by_cases h4 : k < 4
    · rcases (by omega : k = 0 ∨ k = 1 ∨ k = 2 ∨ k = 3) with rfl | rfl | rfl | rfl
      · go_wp2_with (first
        | (go_at_call 36; (with_reducible refine (h0 _).mono ?_); rintro e w2 ⟨rfl, hb2⟩; replace hown := own_below hown hb2; replace hbox := hbox.below hb2; replace hbw := ups hbw hb2 hbw.size; clear hb2)
        | (go_at_call 23; (with_reducible refine (F0 _ (ht.below hbw)).mono ?_); rintro e w3 ⟨rfl, hb3⟩; replace hown := own_below hown hb3; replace hbox := hbox.below hb3; replace hbw := ups hbw hb3 hbw.size; clear hb3)
        | (at_builtin; refine wpList_append_own _ rfl _ _ 52 rfl (w.heap.size + 1) 9 i0 (.string ⟨#[]⟩) 1 16 Tryd.underlying52 hi hz0 hz1 hz2 rfl (by decide) _ _ _ rfl (hown.alloc _) ⟨_, 0, none⟩ 1 1 [.string (dec i.toNat)] rfl rfl (one_news _ _ _) (one_str _) (by unfold maxLen; omega) (by omega) (by have := hbox.lt; simp; omega) ?_; intro v' w' hown' hgrow _))
        go_wp2
        rw [← t0.out] at hown'
        exact ⟨⟨1, by omega, rfl, hown', (hbox.alloc _).grown hgrow (fun e => by have := (hown.lt _ e.symm).1; omega), (hbw.alloc hbw.size _).grown hgrow (by have := hbw.size; simp; omega) (fun k e => by have := (hown.lt k e).1; omega)⟩, by simp [Lib.intOf]⟩
      · go_wp2_with (first
        | (go_at_call 37; (with_reducible refine (h1 _).mono ?_); rintro e w2 ⟨rfl, hb2⟩; replace hown := own_below hown hb2; replace hbox := hbox.below hb2; replace hbw := ups hbw hb2 hbw.size; clear hb2)
        | (go_at_call 23; (with_reducible refine (F1 _ (ht.below hbw)).mono ?_); rintro e w3 ⟨rfl, hb3⟩; replace hown := own_below hown hb3; replace hbox := hbox.below hb3; replace hbw := ups hbw hb3 hbw.size; clear hb3)
        | (at_builtin; refine wpList_append_own _ rfl _ _ 52 rfl (w.heap.size + 1) 9 i0 (.string ⟨#[]⟩) 1 16 Tryd.underlying52 hi hz0 hz1 hz2 rfl (by decide) _ _ _ rfl (hown.alloc _) ⟨_, 0, none⟩ 1 1 [.string (dec c.toNat)] rfl rfl (one_news _ _ _) (one_str _) (by unfold maxLen; omega) (by omega) (by have := hbox.lt; simp; omega) ?_; intro v' w' hown' hgrow _))
        go_wp2
        rw [← t1.out] at hown'
        exact ⟨⟨2, by omega, rfl, hown', (hbox.alloc _).grown hgrow (fun e => by have := (hown.lt _ e.symm).1; omega), (hbw.alloc hbw.size _).grown hgrow (by have := hbw.size; simp; omega) (fun k e => by have := (hown.lt k e).1; omega)⟩, by simp [Lib.intOf]⟩
      · go_wp2_with (first
        | (go_at_call 38; (with_reducible refine (h2 _).mono ?_); rintro e w2 ⟨rfl, hb2⟩; replace hown := own_below hown hb2; replace hbox := hbox.below hb2; replace hbw := ups hbw hb2 hbw.size; clear hb2)
        | (go_at_call 23; (with_reducible refine (F2 _ (ht.below hbw)).mono ?_); rintro e w3 ⟨rfl, hb3⟩; replace hown := own_below hown hb3; replace hbox := hbox.below hb3; replace hbw := ups hbw hb3 hbw.size; clear hb3)
        | (at_builtin; refine wpList_append_own _ rfl _ _ 52 rfl (w.heap.size + 1) 9 i0 (.string ⟨#[]⟩) 1 16 Tryd.underlying52 hi hz0 hz1 hz2 rfl (by decide) _ _ _ rfl (hown.alloc _) ⟨_, 0, none⟩ 1 1 [.string (dec l.toNat)] rfl rfl (one_news _ _ _) (one_str _) (by unfold maxLen; omega) (by omega) (by have := hbox.lt; simp; omega) ?_; intro v' w' hown' hgrow _))
        go_wp2
        rw [← t2.out] at hown'
        exact ⟨⟨3, by omega, rfl, hown', (hbox.alloc _).grown hgrow (fun e => by have := (hown.lt _ e.symm).1; omega), (hbw.alloc hbw.size _).grown hgrow (by have := hbw.size; simp; omega) (fun k e => by have := (hown.lt k e).1; omega)⟩, by simp [Lib.intOf]⟩
      · go_wp2_with (first
        | (go_at_call 39; (with_reducible refine (h3 _).mono ?_); rintro e w2 ⟨rfl, hb2⟩; replace hown := own_below hown hb2; replace hbox := hbox.below hb2; replace hbw := ups hbw hb2 hbw.size; clear hb2)
        | (go_at_call 23; (with_reducible refine (F3 _ (ht.below hbw)).mono ?_); rintro e w3 ⟨rfl, hb3⟩; replace hown := own_below hown hb3; replace hbox := hbox.below hb3; replace hbw := ups hbw hb3 hbw.size; clear hb3)
        | (at_builtin; refine wpList_append_own _ rfl _ _ 52 rfl (w.heap.size + 1) 9 i0 (.string ⟨#[]⟩) 1 16 Tryd.underlying52 hi hz0 hz1 hz2 rfl (by decide) _ _ _ rfl (hown.alloc _) ⟨_, 0, none⟩ 1 1 [.string (dec t.toNat)] rfl rfl (one_news _ _ _) (one_str _) (by unfold maxLen; omega) (by omega) (by have := hbox.lt; simp; omega) ?_; intro v' w' hown' hgrow _))
        go_wp2
        rw [← t3.out] at hown'
        exact ⟨⟨4, by omega, rfl, hown', (hbox.alloc _).grown hgrow (fun e => by have := (hown.lt _ e.symm).1; omega), (hbw.alloc hbw.size _).grown hgrow (by have := hbw.size; simp; omega) (fun k e => by have := (hown.lt k e).1; omega)⟩, by simp [Lib.intOf]⟩
    · obtain rfl : k = 4 := by omega
      rw [t4.out] at hown
      obtain ⟨g, cap, rfl, _, hlt, hn, _, hcells⟩ := own_some hown (by omega)
      · have hJ1 := hJ.out g cap wr hlt hn hcells
        clear hcells hown
        clear hJ
        go_wp2_with (go_at_call 24; (with_reducible refine hJ1.mono ?_); rintro e w9 ⟨rfl, hb9⟩)
        go_ret2
        exact ⟨rfl, ups hbw hb9 hbw.size⟩
end Go.Proofs.YtdmgalcfgignpaaDoor
