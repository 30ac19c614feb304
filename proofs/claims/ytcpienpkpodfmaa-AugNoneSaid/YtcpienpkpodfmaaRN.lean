/- What the calls of a nil tree of ids, and of one that nobody made, answer. No condition. -/
import Derived.Test.YtcpienpkpodfmaaRF
namespace Go.Proofs.Ytcpienpkpodfmaa
open Go.RowKit Go.Shelf Go.Maps
attribute [local go_sem] Oper.semAt_some
set_option linter.unusedVariables false
theorem z_top (w : World) : Calls Try.prog 53 #[.pointer none] w fun e w' => e = .returned (.pointer none) ∧ w = w' := by
  go_enter Try.func53, Try.ntmps53
  go_wp2
  go_ret
  exact ⟨rfl, rfl⟩
theorem z_len (w : World) : Calls Try.prog 48 #[.pointer none] w fun e w' => e = .returned (.int .i64 0) ∧ w = w' := by
  go_enter Try.func48, Try.ntmps48
  go_wp2
  go_ret
  exact ⟨rfl, rfl⟩
theorem z_first (w : World) : Calls Try.prog 47 #[.pointer none] w fun e w' => e = .returned (.tuple #[.agg #[eU 0, eI 0], .bool false]) ∧ Below w.heap.size w w' :=
  firstT_any (.pointer none) none .nil w (fun w1 hb => z_top w1) rfl
theorem z_all (w : World) : Calls Try.prog 49 #[.pointer none] w fun e w' => e = .returned (.tuple #[.agg #[eU 0, eI 0], .bool false]) ∧ Below w.heap.size w w' :=
  all_some (.pointer none) none .nil w (fun w1 hb => z_top w1) rfl
theorem z_upto1 (q : Int) (w : World) : Calls Try.prog 62 #[.pointer none, .pointer none, eU q] w fun e w' => e = .returned (.tuple #[.agg #[eU 0, eI 0], .bool false]) ∧ Below w.heap.size w w' := by
  have T0 := up1 w (.cells #[eU 0, eI 0] 61)
  have bR := Box.new w 61 #[eU 0, eI 0]
  obtain ⟨W0, hW0⟩ : ∃ v, w.alloc (.cells #[eU 0, eI 0] 61) = v := ⟨_, rfl⟩
  rw [hW0] at T0 bR
  obtain ⟨c0, c1⟩ := mkC (s := (0, 0)) bR
  have f0 := bR.thaw 0
  have f1 := bR.thaw 1
  have l0 := bR.lt
  go_enter Try.func62, Try.ntmps62
  go_wp2
  obtain ⟨e0, e1⟩ := mkC ((setMk (s := (0, 0)) bR (0, 0)).alloc (.cells #[eU 0, eI 0] 61))
  have T2 := below_mk (s := (0, 0)) T0 (Nat.le_refl _)
  exact bodyPost_ret (v := .tuple #[mV (0, 0), .bool false]) (by simp [results, Try.results62, go_sem, e0, e1]) rfl ⟨rfl, T2.alloc T2.size _⟩
theorem z_upto (q : Int) (w : World) : Calls Try.prog 43 #[.pointer none, eU q] w fun e w' => e = .returned (.tuple #[.agg #[eU 0, eI 0], .bool false]) ∧ Below w.heap.size w w' :=
  uptoT_any none none q (0, 0) false w (fun w1 hb => z_top w1) (fun w1 hb => z_upto1 q w1)
theorem z_find (Bv : Nat) (w : World) : Calls Try.prog 44 #[.pointer none, okV Bv] w fun e w' => e = .returned (.tuple #[.agg #[eU 0, eI 0], .bool false]) ∧ Below w.heap.size w w' :=
  findT_any none none Bv none w (fun w1 hb => z_top w1) (fun w1 hb => find_nil _ Bv w1)
/-- A nil tree of ids, or one that nobody made. -/
def Za (q : Pt) (w : World) : Prop := q = none ∨ ∃ B : Nat, q = some ⟨B, 0, none⟩ ∧ Box w B #[.map none, .pointer none] 39
section
variable {q : Pt} {w w' : World}
theorem Za.below (h : Za q w) (hb : Below w.heap.size w w') : Za q w' := by
  rcases h with h | ⟨B, h1, h2⟩
  · exact .inl h
  · exact .inr ⟨B, h1, h2.below hb⟩
theorem za_row (h : Za q w) : Calls Try.prog 37 #[.pointer q] w fun e w' => e = .returned (.pointer none) ∧ w = w' := by
  rcases h with rfl | ⟨B, rfl, h⟩
  · go_enter Try.func37, Try.ntmps37
    go_wp2
    go_ret
    exact ⟨rfl, rfl⟩
  · have c1 : w.cell? ⟨B, 1, none⟩ = some (.pointer none) := h.cell 1
    go_enter Try.func37, Try.ntmps37
    go_wp2
    go_ret
    exact ⟨rfl, rfl⟩
set_option maxRecDepth 100000 in
theorem za_place (i : Int) (hi : Inte i) (h : Za q w) : Calls Try.prog 40 #[.pointer q, eI i] w fun e w' => (∃ k : Int, e = .returned (.tuple #[.agg #[eU 0, eI k], .bool false])) ∧ Below w.heap.size w w' := by
  have T0 := up1 w (.cells #[eU 0, eI 0] 59)
  have bR := Box.new w 59 #[eU 0, eI 0]
  rcases h with rfl | ⟨B, rfl, h⟩
  · obtain ⟨W0, hW0⟩ : ∃ v, w.alloc (.cells #[eU 0, eI 0] 59) = v := ⟨_, rfl⟩
    rw [hW0] at T0 bR
    obtain ⟨d0, d1⟩ := kyC (k := (0, 0)) bR
    have f0 := bR.thaw 0
    have f1 := bR.thaw 1
    have l0 := bR.lt
    go_enter Try.func40, Try.ntmps40
    go_wp2
    obtain ⟨e0, e1⟩ := kyC (keyset (w := W0) (k := (0, 0)) (k' := (0, 0)) bR)
    exact bodyPost_ret (v := .tuple #[.agg #[eU 0, eI 0], .bool false]) (by simp [results, Try.results40, go_sem, e0, e1]) rfl ⟨⟨0, rfl⟩, below_key (k := (0, 0)) T0 (Nat.le_refl _)⟩
  · have hlk : ∀ w : World, (Instr.lookup 36 (.map none) (.int .i64 i) true).run Try.prog w = .ok (.tuple #[.int .u64 0, .bool false]) w := fun w => by
      have := Maps.look_nil (P := Try.prog) (w := w) true (int_keyed Try.underlying3) Try.underlying36 (Try.zeroValue29 w) (key_of hi)
      exact this
    have c0 : (w.alloc (.cells #[eU 0, eI 0] 59)).cell? ⟨B, 0, none⟩ = some (.map none) := (h.below T0).cell 0
    obtain ⟨W0, hW0⟩ : ∃ v, w.alloc (.cells #[eU 0, eI 0] 59) = v := ⟨_, rfl⟩
    rw [hW0] at T0 bR c0
    obtain ⟨d0, d1⟩ := kyC (k := (0, 0)) bR
    have f0 := bR.thaw 0
    have f1 := bR.thaw 1
    have l0 := bR.lt
    go_enter Try.func40, Try.ntmps40
    go_wp2
    obtain ⟨e0, e1⟩ := kyC (keyset (w := W0) (k := (0, 0)) (k' := (0, i)) bR)
    exact bodyPost_ret (v := .tuple #[.agg #[eU 0, eI i], .bool false]) (by simp [results, Try.results40, go_sem, e0, e1]) rfl ⟨⟨i, rfl⟩, below_key (k := (0, i)) T0 (Nat.le_refl _)⟩
theorem za_put (i k v : Int) (h : Za q w) : Calls Try.prog 12 #[.pointer q, eI i, eU k, eU v] w fun e w' => e = .returned (.tuple #[]) ∧ Below w.heap.size w w' := by
  have h2 := za_row h
  clear h
  go_enter Try.func12, Try.ntmps12
  go_wp2_with (go_at_call 37; (with_reducible refine h2.mono ?_); rintro e w1 ⟨rfl, rfl⟩)
  exact bodyPost_ret (v := .tuple #[]) (results_none rfl _ _ _) rfl ⟨rfl, Below.refl _ _⟩
theorem za_drop (i : Int) (hi : Inte i) (h : Za q w) : Calls Try.prog 13 #[.pointer q, eI i] w fun e w' => e = .returned (.bool false) ∧ Below w.heap.size w w' := by
  have hP := za_place i hi h
  clear h
  go_enter Try.func13, Try.ntmps13
  go_wp2_with (go_at_call 40; (with_reducible refine hP.mono ?_); rintro e w1 ⟨⟨k, rfl⟩, hb⟩)
  go_ret
  exact ⟨rfl, upp hb (up1 _ _)⟩
theorem za_get (i : Int) (hi : Inte i) (h : Za q w) : Calls Try.prog 20 #[.pointer q, eI i] w fun e w' => e = .returned (gotV (getA i [])) ∧ Below w.heap.size w w' := by
  have hP := za_place i hi h
  clear h
  go_enter Try.func20, Try.ntmps20
  go_wp2_with (go_at_call 40; (with_reducible refine hP.mono ?_); rintro e w1 ⟨⟨k, rfl⟩, hb⟩)
  exact bodyPost_ret (v := .tuple #[eU 0, eU 0, .bool false]) (by simp [results, Try.results20, go_sem]) rfl ⟨rfl, upp hb (up1 _ _)⟩
theorem za_len (h : Za q w) : Calls Try.prog 23 #[.pointer q] w fun e w' => e = .returned (eI ((([] : List It).length : Nat) : Int)) ∧ w = w' := by
  have h2 := za_row h
  have h3 := z_len w
  clear h
  go_enter Try.func23, Try.ntmps23
  go_wp2_with (first
    | (go_at_call 37; (with_reducible refine h2.mono ?_); rintro e w1 ⟨rfl, rfl⟩)
    | (go_at_call 48; (with_reducible refine h3.mono ?_); rintro e w2 ⟨rfl, rfl⟩))
  go_ret
  exact ⟨rfl, rfl⟩
theorem za_first (h : Za q w) : Calls Try.prog 22 #[.pointer q] w fun e w' => e = .returned (.tuple #[.int .i64 0, .bool false]) ∧ Below w.heap.size w w' := by
  have h2 := za_row h
  have h3 := z_first w
  clear h
  go_enter Try.func22, Try.ntmps22
  go_wp2_with (first
    | (go_at_call 37; (with_reducible refine h2.mono ?_); rintro e w1 ⟨rfl, rfl⟩)
    | (go_at_call 47; (with_reducible refine h3.mono ?_); rintro e w2 ⟨rfl, hb⟩))
  go_ret2
  exact ⟨rfl, upp hb (up1 _ _)⟩
theorem za_lowest (h : Za q w) : Calls Try.prog 25 #[.pointer q] w fun e w' => e = .returned (.tuple #[.int .u64 0, .bool false]) ∧ Below w.heap.size w w' := by
  have h2 := za_row h
  have h3 := z_all w
  clear h
  go_enter Try.func25, Try.ntmps25
  go_wp2_with (first
    | (go_at_call 37; (with_reducible refine h2.mono ?_); rintro e w1 ⟨rfl, rfl⟩)
    | (go_at_call 49; (with_reducible refine h3.mono ?_); rintro e w2 ⟨rfl, hb⟩))
  go_ret2
  exact ⟨rfl, upp hb (up1 _ _)⟩
theorem za_least (x : Int) (h : Za q w) : Calls Try.prog 18 #[.pointer q, eU x] w fun e w' => e = .returned (.tuple #[.int .i64 0, .bool false]) ∧ Below w.heap.size w w' := by
  have h2 := za_row h
  have h3 := z_upto x w
  clear h
  go_enter Try.func18, Try.ntmps18
  go_wp2_with (first
    | (go_at_call 37; (with_reducible refine h2.mono ?_); rintro e w1 ⟨rfl, rfl⟩)
    | (go_at_call 43; (with_reducible refine h3.mono ?_); rintro e w2 ⟨rfl, hb⟩))
  go_ret2
  exact ⟨rfl, upp hb (up1 _ _)⟩
theorem za_within (y : Int) (h : Za q w) : Calls Try.prog 19 #[.pointer q, eU y] w fun e w' => e = .returned (.tuple #[.int .i64 0, .bool false]) ∧ Below w.heap.size w w' := by
  have hmf : ∀ (fn : Fn) (first cap : Array Value) (w : World), (Instr.makeFunc fn first cap).run Try.prog w = .ok (.func fn first cap) w := fun _ _ _ _ => rfl
  have T0 := up1 w (.cells #[eU y] 29)
  have h2 := za_row (h.below T0)
  have h3 := z_find w.heap.size (w.alloc (.cells #[eU y] 29))
  clear h
  go_enter Try.func19, Try.ntmps19
  go_wp2_with (first
    | (go_at_call 37; (with_reducible refine h2.mono ?_); rintro e w1 ⟨rfl, rfl⟩)
    | (go_at_call 44; (with_reducible refine h3.mono ?_); rintro e w2 ⟨rfl, hb⟩))
  go_ret2
  exact ⟨rfl, upp T0 (upp hb (up1 _ _))⟩
theorem za_copy (w : World) : Calls Try.prog 10 #[.pointer none] w fun e w' => e = .returned (.pointer none) ∧ w = w' := by
  go_enter Try.func10, Try.ntmps10
  go_wp2
  go_ret
  exact ⟨rfl, rfl⟩
end
set_option maxRecDepth 100000 in
set_option maxHeartbeats 4000000 in
theorem za_ids {q : Pt} {W : World} (h : Za q W) : Calls Try.prog 21 #[.pointer q] W fun e w' => ∃ v, e = .returned v ∧ w'.ownsRow W.heap.size 3 1 v (([] : List It)).length (idsV []) ∧ Below W.heap.size W w' := by
  obtain ⟨L, hLn⟩ : ∃ L : List It, L = [] := ⟨_, rfl⟩
  rw [← hLn]
  obtain ⟨i0, hi, hz0, hz1, hz2⟩ := info_parts infoI
  have hL : L.length ≤ 0 := by rw [hLn]; exact Nat.le_refl _
  have T0 := up1 W (.cells #[.slice none 0 0] 48)
  have b1 := (Box.new W 48 #[.slice none 0 0]).alloc (.cells #[.pointer none] 37)
  have b2 := Box.new (W.alloc (.cells #[.slice none 0 0] 48)) 37 #[.pointer none]
  simp only [World.size_alloc] at b2
  have T1 := up2 W (.cells #[.slice none 0 0] 48) (.cells #[.pointer none] 37)
  have hsz : ((W.alloc (.cells #[.slice none 0 0] 48)).alloc (.cells #[.pointer none] 37)).heap.size = W.heap.size + 2 := by simp
  have hrow := za_row (h.below T0)
  refine (callsIn_wide (n := 12)).1 ?_
  refine callsIn_of_wp_marks Try.func21 rfl trivial ?_ rfl
  simp only [Try.ntmps21, List.size_toArray, List.length_cons, List.length_nil, Nat.reduceAdd, Nat.reduceSub, Array.replicate_succ, Array.replicate_zero, List.push_toArray, List.append_toArray, List.nil_append, List.cons_append]
  gi_wp2_with (first
    | (refine ⟨trivial, ?_⟩; gi_at_call 37; (with_reducible refine (callsIn_wide.2 hrow).mono ?_); rintro e w1 ⟨rfl, rfl⟩)
    | (refine ⟨trivial, ?_⟩; gi_at_call 46; (with_reducible refine (callsIn_wide.2 (eachA_any _ _)).mono ?_); rintro e w6 ⟨rfl, rfl⟩))
  obtain ⟨V1, hV1⟩ : ∃ V1, (W.alloc (.cells #[.slice none 0 0] 48)).alloc (.cells #[.pointer none] 37) = V1 := ⟨_, rfl⟩
  rw [hV1] at b1 b2 T1 hsz ⊢
  clear hV1 hrow h
  have hseq := each1T_seq 11 (W.heap.size + 1) W.heap.size none none .nil V1 (by omega) (by omega) b2 (fun w1 hb => z_top w1) rfl
  rw [show Tr.items .nil = L from hLn.symm] at hseq
  refine loopC (by omega) (gf := 65) (lb := #[.pointer (some ⟨W.heap.size + 1, 0, none⟩)]) rfl (enters_of Try.func65 (by kernel_rfl) rfl) (n₀ := W.heap.size) (by omega) hseq (fun _ => rfl)
    (IdI W W.heap.size (V1.heap.size + (4 + 2))) (fun _ _ _ => False) (IdI.own W _ V1.heap.size (4 + 2) (by omega) (by omega)) (fun c _ _ _ _ h => h.elim) ⟨⟨_, b1, World.ownsRow_nil _ _ _ _⟩, T1⟩
    (fun x a' X => ∃ Bx, V1.heap.size + 6 ≤ Bx ∧ Box X Bx #[eU x.1.1, eI x.1.2] 59 ∧ a' = { tmps := #[.pointer q, undef, .slice none 0 0, .pointer (some ⟨W.heap.size, 0, none⟩), .pointer (some ⟨Bx, 0, none⟩), .pointer q, .pointer none, .func (.func 65) #[] #[.pointer (some ⟨W.heap.size + 1, 0, none⟩)], ky x.1, mV (mkO x), undef, undef, undef, undef, undef, undef], defers := [] })
    (fun x a' _ X Y row hs hg hr => by obtain ⟨Bx, h1, h2, h3⟩ := hs; exact ⟨Bx, h1, box_own Bx 59 _ () X Y row h2 hg (fun r e => (hr r e).2), h3⟩)
    ?assign ?body ?done ?stop
  case assign =>
    rintro l0 pre x X K hzX ⟨⟨v, h1, h2⟩, h3⟩ hK
    gi_wp2
    exact hK _ _ (Mid.alloc X h3.size _) ⟨⟨v, h1.alloc _, h2.alloc _⟩, h3.alloc h3.size _⟩ ⟨X.heap.size, by omega, Box.new X 59 _, rfl⟩
  case stop =>
    rintro D c pre X hD _ h hK
    exact h.elim
  case body =>
    rintro l0 pre x a' X hzX ⟨⟨v, h1, h2⟩, h3⟩ ⟨Bx, hBx, bX, rfl⟩ hpx
    have hlen : pre.length + 1 ≤ L.length := by have := hpx.length_le; simpa using this
    exact absurd hlen (by omega)
  case done =>
    rintro D ys X hD rfl ⟨⟨v, h1, h2⟩, h3⟩ hK
    have hc := h1.cell 0
    gi_wp2
    refine ⟨by simp, .inl ⟨_, _, rfl, run_takeDeferred hK, ?_⟩⟩
    exact ⟨_, results_tmp rfl _ _ _, v, rfl, ownsRow_putObj (owns_mono h2 (by omega)) _ hK rfl, h3.trans (belowK_b (w := W) (Nat.le_refl _) X D _ _ (by omega) hK rfl rfl)⟩
end Go.Proofs.Ytcpienpkpodfmaa
