/- The summary up to a number is the least of just those values, what is found is the first that is ok: the walk of the statement. No condition but words. -/
import Derived.Test.YtjfpemkdidoacaaVD
import Derived.Sort.CutIn
namespace Go.Proofs.Ytjfpemkdidoacaa
open Go.RowKit Go.Shelf
set_option linter.unusedVariables false
set_option linter.unusedSimpArgs false
attribute [local go_sem] Oper.semAt_some
theorem mem_val {x : It} : ∀ {L : List It}, Rise L → x ∈ L → valL x.1 L = x.2 ∧ has x.1 L = true
  | [], _, h => by cases h
  | a :: L, hr, h => by
    have hr' : Rise ([] ++ a :: L) := hr
    obtain ⟨_, h2, _, h4⟩ := rise_node.1 hr'
    refine ⟨?_, has_iff.2 ⟨x.2, h⟩⟩
    rcases List.mem_cons.1 h with rfl | h
    · simp [valL]
    · have hne : ¬ a.1 = x.1 := fun e => kLt_irr x.1 (by have := h4 x h; rwa [e] at this)
      have := (mem_val h2 h).1
      unfold valL at this ⊢
      rw [List.find?_cons_of_neg (by simpa using hne)]
      exact this
theorem low_snoc {pre : List It} {x : It} : low (pre ++ [x]) = if pre = [] then x.2 else min (low pre) x.2 := by
  split
  · next h => subst h; rfl
  · next h => rw [low_app h (by simp)]; rfl
theorem upto_snoc {q : Int} {pre : List It} {x : It} : upto q (pre ++ [x]) = if x.1.1 ≤ q then upto q pre ++ [x] else upto q pre := by
  unfold upto
  rw [List.filter_append]
  split
  · next h => simp [h]
  · next h => simp [h]
/-- The least value so far, and whether there is one. -/
def lo (L : List It) : Int × Bool := (low L, decide (L ≠ []))
theorem lo_snoc {pre : List It} {x : It} : lo (pre ++ [x]) = if (lo pre).2 = true then (if x.2 < (lo pre).1 then (x.2, true) else ((lo pre).1, true)) else (x.2, true) := by
  unfold lo
  rw [low_snoc]
  by_cases h : pre = []
  · subst h; simp
  · simp only [h, ne_eq, not_false_eq_true, decide_true, if_true, if_false]
    by_cases hx : x.2 < low pre
    · rw [if_pos hx]; simp; omega
    · rw [if_neg hx]; simp; omega
/-- Whether what is looked for is still ahead. -/
def ahd (y : Int) (L pre : List It) : Bool := (fnd y L).isSome && !(fnd y pre).isSome
def kF (o : Option It) : Ky := match o with | none => (0, 0) | some m => m.1
theorem fstV_kF (o : Option It) : fstV o = .tuple #[.agg #[eU (kF o).1, eI (kF o).2], .bool o.isSome] := by cases o <;> rfl
theorem fnd_some {y : Int} {L : List It} {m : It} (h : fnd y L = some m) : m ∈ L ∧ m.2 ≤ y :=
  ⟨List.mem_of_find?_eq_some h, by have := List.find?_some h; simpa using this⟩
theorem fnd_none {y : Int} {L : List It} (h : fnd y L = none) : ∀ a ∈ L, y < a.2 := fun a ha => by
  have := List.find?_eq_none.1 h a ha
  simp at this; omega
theorem fnd_snoc {y : Int} {pre : List It} {x : It} : fnd y (pre ++ [x]) = match fnd y pre with | some m => some m | none => if x.2 ≤ y then some x else none := by
  unfold fnd
  rw [List.find?_append]
  cases h : pre.find? (fun a => decide (a.2 ≤ y)) with
  | some m => rfl
  | none =>
    by_cases hx : x.2 ≤ y
    · simp [hx]
    · simp [hx]
/-- What one step does: nothing is ahead any more; what is looked for comes; it comes later. -/
theorem ahd_step {y : Int} {L pre : List It} {x : It} (hp : pre ++ [x] <+: L) (hr : Rise L) :
    (ahd y L pre = false ∧ ahd y L (pre ++ [x]) = false) ∨
    (ahd y L pre = true ∧ x.1 = kF (fnd y L) ∧ x.2 ≤ y ∧ ahd y L (pre ++ [x]) = false) ∨
    (ahd y L pre = true ∧ x.1 ≠ kF (fnd y L) ∧ y < x.2 ∧ ahd y L (pre ++ [x]) = true) := by
  obtain ⟨z, hz⟩ := hp
  unfold ahd
  rw [fnd_snoc]
  cases hpre : fnd y pre with
  | some m => exact .inl ⟨by simp, by simp⟩
  | none =>
    cases hL : fnd y L with
    | none =>
      refine .inl ⟨rfl, rfl⟩
    | some m =>
      by_cases hx : x.2 ≤ y
      · refine .inr (.inl ⟨rfl, ?_, hx, by simp [hx]⟩)
        have : fnd y L = some x := by
          rw [← hz]
          unfold fnd
          rw [List.find?_append, show (pre ++ [x]).find? (fun a => decide (a.2 ≤ y)) = fnd y (pre ++ [x]) from rfl, fnd_snoc, hpre]
          simp [hx]
        rw [hL] at this
        cases this
        rfl
      · refine .inr (.inr ⟨rfl, ?_, by omega, by simp [hx]⟩)
        obtain ⟨h1, h2⟩ := fnd_some hL
        intro e
        have hxm : x ∈ L := by rw [← hz]; simp
        have : m = x := by
          obtain ⟨v1, _⟩ := mem_val hr h1
          obtain ⟨v2, _⟩ := mem_val hr hxm
          have e' : m.1 = x.1 := e.symm
          rw [e'] at v1
          exact Prod.ext e' (by rw [← v1, ← v2])
        subst this
        exact hx h2
theorem ahd_done (y : Int) (L : List It) : ahd y L L = false := by
  unfold ahd; cases fnd y L <;> rfl
theorem ahd_nil (y : Int) (L : List It) : ahd y L [] = (fnd y L).isSome := by
  unfold ahd; simp [fnd]
/-- The cells of the loop. -/
def SmI (V : World) (k : Ky) (o h : Int × Bool) (f : Bool) (W : World) : Prop :=
  Box W V.heap.size #[eU k.1, eI k.2] 32 ∧ Box W (V.heap.size + 1) #[.bool f] 4 ∧ Box W (V.heap.size + 1 + 1) #[eU o.1] 30 ∧ Box W (V.heap.size + 1 + 1 + 1) #[.bool o.2] 4 ∧
  Box W (V.heap.size + 1 + 1 + 1 + 1) #[eU h.1] 30 ∧ Box W (V.heap.size + 1 + 1 + 1 + 1 + 1) #[.bool h.2] 4 ∧ Box W (V.heap.size + 1 + 1 + 1 + 1 + 1 + 1) #[.bool (!f)] 4 ∧ Below V.heap.size V W
theorem SmI.turn {V X Y : World} {C : Nat} {k : Ky} {o h : Int × Bool} {f : Bool} {row : Option Nat} (hI : SmI V k o h f X) (hg : X.grownBy Y row) (hr : ∀ r, row = some r → C ≤ r) (hC : V.heap.size + 7 ≤ C) : SmI V k o h f Y := by
  obtain ⟨h1, h2, h3, h4, h5, h6, h7, h8⟩ := hI
  exact ⟨h1.turn hg hr (by omega), h2.turn hg hr (by omega), h3.turn hg hr (by omega), h4.turn hg hr (by omega), h5.turn hg hr (by omega), h6.turn hg hr (by omega), h7.turn hg hr (by omega), below_turn h8 hg hr (by omega)⟩
theorem SmI.alloc {V X : World} {k : Ky} {o h : Int × Bool} {f : Bool} (hI : SmI V k o h f X) (ob : Obj) : SmI V k o h f (X.alloc ob) := by
  obtain ⟨h1, h2, h3, h4, h5, h6, h7, h8⟩ := hI
  exact ⟨h1.alloc _, h2.alloc _, h3.alloc _, h4.alloc _, h5.alloc _, h6.alloc _, h7.alloc _, h8.alloc h8.size _⟩
set_option maxRecDepth 100000 in
set_option maxHeartbeats 12000000 in
theorem summed_over (a : Option Addr) (n c : Nat) (q y : Int) (w : World) (hn : 200 < n) (hnm : n ≤ maxLen) :
    Calls Try.prog 8 #[.slice a n c, eU q, eU y] w fun e w' => e = .returned (.bool true) ∧ Below w.heap.size w w' := by
  have b3 := Box.new ((w.alloc (.cells #[eU q] 30)).alloc (.cells #[eU y] 30)) 4 #[.bool false]
  simp only [World.size_alloc] at b3
  have T := up3 w (.cells #[eU q] 30) (.cells #[eU y] 30) (.cells #[.bool false] 4)
  obtain ⟨W0, hW0⟩ : ∃ W0, ((w.alloc (.cells #[eU q] 30)).alloc (.cells #[eU y] 30)).alloc (.cells #[.bool false] 4) = W0 := ⟨_, rfl⟩
  rw [hW0] at b3 T
  refine (callsIn_wide (n := 12)).1 ?_
  refine callsIn_of_wp_marks Try.func8 rfl trivial ?_ rfl
  simp only [Try.ntmps8, List.size_toArray, List.length_cons, List.length_nil, Nat.reduceAdd, Nat.reduceSub, Array.replicate_succ, Array.replicate_zero, List.push_toArray, List.append_toArray, List.nil_append, List.cons_append]
  gi_wp2_with (first
    | (refine ⟨trivial, ?_⟩; gi_at_call 34; (with_reducible refine (callsIn_wide.2 (awake_any _)).mono ?_); rintro e w1 ⟨rfl, hb⟩; (try rw [hW0] at hb); replace T := upp T hb; replace b3 := b3.below hb; clear hb)
    | (refine ⟨trivial, ?_⟩; gi_at_call 35; (with_reducible refine (callsIn_wide.2 (acted_over a n c _ hn hnm)).mono ?_); rintro e w2 ⟨rfl, hb⟩; replace T := upp T hb; replace b3 := b3.below hb; clear hb; have c2 := b3.cell 0; have f2 := b3.thaw 0))
  have c9 := (b3.set 0 (.bool true)).cell 0
  refine ⟨.bool true, by simp [results, Try.results8, go_sem, c9], rfl, T.setCell (p := ⟨w.heap.size + 1 + 1, 0, none⟩) (by simp; omega) _⟩
set_option maxRecDepth 100000 in
set_option maxHeartbeats 12000000 in
theorem summed_ok (a : Option Addr) (n c : Nat) (xs : Nat → Ac) (q y : Int) (w : World) (hn : n ≤ 200) (hI : IsAcs w a n c xs) (hw : ∀ i, (xs i).word) :
    Calls Try.prog 8 #[.slice a n c, eU q, eU y] w fun e w' => e = .returned (.bool true) ∧ Below w.heap.size w w' := by
  have hact : ∀ w1, Below w.heap.size w w1 → Calls Try.prog 35 #[.slice a n c] w1 fun e w' => ∃ B : Nat, e = .returned (.pointer (some ⟨B, 0, none⟩)) ∧ OW w1 w' B (rowA xs n) := fun w1 T => acted_ok a n c xs w1 hn (hI.below T) hw
  have hl : (rowA xs n).length ≤ 200 := by have := rowA_len xs n; omega
  clear hI hw
  generalize rowA xs n = L at *
  have b1 := ((Box.new w 30 #[eU q]).alloc (.cells #[eU y] 30)).alloc (.cells #[.bool false] 4)
  have b2 := (Box.new (w.alloc (.cells #[eU q] 30)) 30 #[eU y]).alloc (.cells #[.bool false] 4)
  have b3 := Box.new ((w.alloc (.cells #[eU q] 30)).alloc (.cells #[eU y] 30)) 4 #[.bool false]
  simp only [World.size_alloc] at b2 b3
  have T := up3 w (.cells #[eU q] 30) (.cells #[eU y] 30) (.cells #[.bool false] 4)
  obtain ⟨W0, hW0⟩ : ∃ W0, ((w.alloc (.cells #[eU q] 30)).alloc (.cells #[eU y] 30)).alloc (.cells #[.bool false] 4) = W0 := ⟨_, rfl⟩
  rw [hW0] at b1 b2 b3 T
  have q1 := b1.cell 0
  have q2 := b2.cell 0
  refine (callsIn_wide (n := 12)).1 ?_
  refine callsIn_of_wp_marks Try.func8 rfl trivial ?_ rfl
  simp only [Try.ntmps8, List.size_toArray, List.length_cons, List.length_nil, Nat.reduceAdd, Nat.reduceSub, Array.replicate_succ, Array.replicate_zero, List.push_toArray, List.append_toArray, List.nil_append, List.cons_append]
  obtain ⟨o, ho⟩ : ∃ o, lo (upto q L) = o := ⟨_, rfl⟩
  obtain ⟨g, hg⟩ : ∃ g, lo L = g := ⟨_, rfl⟩
  obtain ⟨k, hk⟩ : ∃ k, kF (fnd y L) = k := ⟨_, rfl⟩
  obtain ⟨f, hf⟩ : ∃ f, (fnd y L).isSome = f := ⟨_, rfl⟩
  have hU : ∀ W B, Ob W B L → Calls Try.prog 19 #[.pointer (some ⟨B, 0, none⟩), eU q] W fun e w' => e = .returned (.tuple #[eU o.1, .bool o.2]) ∧ Below W.heap.size W w' := fun W B h => by rw [← ho]; exact ob_upto q h
  have hAll : ∀ W B, Ob W B L → Calls Try.prog 21 #[.pointer (some ⟨B, 0, none⟩)] W fun e w' => e = .returned (.tuple #[eU g.1, .bool g.2]) ∧ W = w' := fun W B h => by rw [← hg]; exact ob_all h
  have hFi : ∀ W B, Ob W B L → Calls Try.prog 22 #[.pointer (some ⟨B, 0, none⟩), .func (.func 23) #[eU y] #[]] W fun e w' => e = .returned (.tuple #[.agg #[eU k.1, eI k.2], .bool f]) ∧ Below W.heap.size W w' := fun W B h => by rw [← hk, ← hf, ← fstV_kF]; exact ob_find y h
  replace ho := Lib.hid ho
  replace hg := Lib.hid hg
  replace hk := Lib.hid hk
  replace hf := Lib.hid hf
  have hmf : ∀ (fn : Fn) (first cap : Array Value) (w : World), (Instr.makeFunc fn first cap).run Try.prog w = .ok (.func fn first cap) w := fun _ _ _ _ => rfl
  gi_wp2_with (first
    | (refine ⟨trivial, ?_⟩; gi_at_call 34; (with_reducible refine (callsIn_wide.2 (awake_any _)).mono ?_); rintro e w1 ⟨rfl, hb⟩; (try rw [hW0] at hb); replace T := upp T hb; replace b1 := b1.below hb; replace b2 := b2.below hb; replace b3 := b3.below hb; clear hb q1 q2)
    | (refine ⟨trivial, ?_⟩; gi_at_call 35; (with_reducible refine (callsIn_wide.2 (hact _ T)).mono ?_); rintro e w2 ⟨B, rfl, hO, hBs, hb⟩; replace T := upp T hb; replace b1 := b1.below hb; replace b2 := b2.below hb; replace b3 := b3.below hb; clear hb; have q1 := b1.cell 0; have q2 := b2.cell 0)
    | (refine ⟨trivial, ?_⟩; gi_at_call 19; (with_reducible refine (callsIn_wide.2 (hU _ _ hO)).mono ?_); rintro e w3 ⟨rfl, hb⟩; replace T := upp T hb; replace b1 := b1.below hb; replace b2 := b2.below hb; replace b3 := b3.below hb; replace hO := hO.below hb; clear hb q1 q2; have q2 := b2.cell 0)
    | (refine ⟨trivial, ?_⟩; gi_at_call 21; (with_reducible refine (callsIn_wide.2 (hAll _ _ hO)).mono ?_); rintro e w4 ⟨rfl, rfl⟩)
    | (refine ⟨trivial, ?_⟩; gi_at_call 22; (with_reducible refine (callsIn_wide.2 (hFi _ _ hO)).mono ?_); rintro e V ⟨rfl, hb⟩; replace T := upp T hb; replace b1 := b1.below hb; replace b2 := b2.below hb; replace b3 := b3.below hb; replace hO := hO.below hb; clear hb q2)
    | (refine ⟨trivial, ?_⟩; gi_at_call 26; (with_reducible refine (callsIn_wide.2 (eachT_any _ _)).mono ?_); rintro e w6 ⟨rfl, rfl⟩))
  clear hU hAll hFi hmf hact hBs hW0
  replace ho := ho.out
  replace hg := hg.out
  replace hk := hk.out
  replace hf := hf.out
  have k0 := (((((((Box.new V 32 #[eU k.1, eI k.2]).alloc (.cells #[.bool f] 4)).alloc (.cells #[eU 0] 30)).alloc (.cells #[.bool false] 4)).alloc (.cells #[eU 0] 30)).alloc (.cells #[.bool false] 4)).alloc (.cells #[.bool !f] 4)).alloc (.cells #[.pointer (some ⟨B, 0, none⟩)] 23)
  have k1 := ((((((Box.new (V.alloc (.cells #[eU k.1, eI k.2] 32)) 4 #[.bool f]).alloc (.cells #[eU 0] 30)).alloc (.cells #[.bool false] 4)).alloc (.cells #[eU 0] 30)).alloc (.cells #[.bool false] 4)).alloc (.cells #[.bool !f] 4)).alloc (.cells #[.pointer (some ⟨B, 0, none⟩)] 23)
  have k2 := (((((Box.new ((V.alloc (.cells #[eU k.1, eI k.2] 32)).alloc (.cells #[.bool f] 4)) 30 #[eU 0]).alloc (.cells #[.bool false] 4)).alloc (.cells #[eU 0] 30)).alloc (.cells #[.bool false] 4)).alloc (.cells #[.bool !f] 4)).alloc (.cells #[.pointer (some ⟨B, 0, none⟩)] 23)
  have k3 := ((((Box.new (((V.alloc (.cells #[eU k.1, eI k.2] 32)).alloc (.cells #[.bool f] 4)).alloc (.cells #[eU 0] 30)) 4 #[.bool false]).alloc (.cells #[eU 0] 30)).alloc (.cells #[.bool false] 4)).alloc (.cells #[.bool !f] 4)).alloc (.cells #[.pointer (some ⟨B, 0, none⟩)] 23)
  have k4 := (((Box.new ((((V.alloc (.cells #[eU k.1, eI k.2] 32)).alloc (.cells #[.bool f] 4)).alloc (.cells #[eU 0] 30)).alloc (.cells #[.bool false] 4)) 30 #[eU 0]).alloc (.cells #[.bool false] 4)).alloc (.cells #[.bool !f] 4)).alloc (.cells #[.pointer (some ⟨B, 0, none⟩)] 23)
  have k5 := ((Box.new (((((V.alloc (.cells #[eU k.1, eI k.2] 32)).alloc (.cells #[.bool f] 4)).alloc (.cells #[eU 0] 30)).alloc (.cells #[.bool false] 4)).alloc (.cells #[eU 0] 30)) 4 #[.bool false]).alloc (.cells #[.bool !f] 4)).alloc (.cells #[.pointer (some ⟨B, 0, none⟩)] 23)
  have k6 := (Box.new ((((((V.alloc (.cells #[eU k.1, eI k.2] 32)).alloc (.cells #[.bool f] 4)).alloc (.cells #[eU 0] 30)).alloc (.cells #[.bool false] 4)).alloc (.cells #[eU 0] 30)).alloc (.cells #[.bool false] 4)) 4 #[.bool !f]).alloc (.cells #[.pointer (some ⟨B, 0, none⟩)] 23)
  have k7 := Box.new (((((((V.alloc (.cells #[eU k.1, eI k.2] 32)).alloc (.cells #[.bool f] 4)).alloc (.cells #[eU 0] 30)).alloc (.cells #[.bool false] 4)).alloc (.cells #[eU 0] 30)).alloc (.cells #[.bool false] 4)).alloc (.cells #[.bool !f] 4)) 23 #[.pointer (some ⟨B, 0, none⟩)]
  simp only [World.size_alloc] at k1 k2 k3 k4 k5 k6 k7
  have TV : Below V.heap.size V ((((((((V.alloc (.cells #[eU k.1, eI k.2] 32)).alloc (.cells #[.bool f] 4)).alloc (.cells #[eU 0] 30)).alloc (.cells #[.bool false] 4)).alloc (.cells #[eU 0] 30)).alloc (.cells #[.bool false] 4)).alloc (.cells #[.bool !f] 4)).alloc (.cells #[.pointer (some ⟨B, 0, none⟩)] 23)) := (((((((up1 V (.cells #[eU k.1, eI k.2] 32)).alloc (by simp <;> omega) (.cells #[.bool f] 4)).alloc (by simp <;> omega) (.cells #[eU 0] 30)).alloc (by simp <;> omega) (.cells #[.bool false] 4)).alloc (by simp <;> omega) (.cells #[eU 0] 30)).alloc (by simp <;> omega) (.cells #[.bool false] 4)).alloc (by simp <;> omega) (.cells #[.bool !f] 4)).alloc (by simp <;> omega) (.cells #[.pointer (some ⟨B, 0, none⟩)] 23)
  have hsz : ((((((((V.alloc (.cells #[eU k.1, eI k.2] 32)).alloc (.cells #[.bool f] 4)).alloc (.cells #[eU 0] 30)).alloc (.cells #[.bool false] 4)).alloc (.cells #[eU 0] 30)).alloc (.cells #[.bool false] 4)).alloc (.cells #[.bool !f] 4)).alloc (.cells #[.pointer (some ⟨B, 0, none⟩)] 23)).heap.size = V.heap.size + 8 := by simp
  obtain ⟨V1, hV1⟩ : ∃ V1, ((((((((V.alloc (.cells #[eU k.1, eI k.2] 32)).alloc (.cells #[.bool f] 4)).alloc (.cells #[eU 0] 30)).alloc (.cells #[.bool false] 4)).alloc (.cells #[eU 0] 30)).alloc (.cells #[.bool false] 4)).alloc (.cells #[.bool !f] 4)).alloc (.cells #[.pointer (some ⟨B, 0, none⟩)] 23)) = V1 := ⟨_, rfl⟩
  rw [hV1] at k0 k1 k2 k3 k4 k5 k6 k7 TV hsz ⊢
  clear hV1
  have hr := hO.rise
  have hBV := hO.lt
  have hseq := ob_each 11 (V.heap.size + 1 + 1 + 1 + 1 + 1 + 1 + 1) V.heap.size V1 (by omega) (by omega) (Nat.le_refl _) hO TV k7
  refine loopC (by omega) (gf := 52) (lb := #[.pointer (some ⟨V.heap.size + 1 + 1 + 1 + 1 + 1 + 1 + 1, 0, none⟩)]) rfl (enters_of Try.func52 (by kernel_rfl) rfl) (n₀ := V.heap.size) (by omega) hseq (fun _ => rfl)
    (fun pre W => SmI V k (lo (upto q pre)) (lo pre) (ahd y L pre) W) (fun _ _ _ => False) (fun _ X Y row hI hg hr => hI.turn hg hr (by omega)) (fun c _ _ _ _ h => h.elim) ⟨k0, by rw [ahd_nil, hf]; exact k1, k2, k3, k4, k5, by rw [ahd_nil, hf]; exact k6, TV⟩
    (fun x a' W => ∃ Bx, V.heap.size + 8 ≤ Bx ∧ Box W Bx #[eU x.1.1, eI x.1.2] 32 ∧ a' = { tmps := #[.slice a n c, eU q, eU y, undef, .pointer (some ⟨w.heap.size, 0, none⟩), .pointer (some ⟨w.heap.size + 1, 0, none⟩), .pointer (some ⟨w.heap.size + 1 + 1, 0, none⟩), .pointer (some ⟨B, 0, none⟩), eU o.1, .bool o.2, eU g.1, .bool g.2, .pointer (some ⟨V.heap.size, 0, none⟩), .pointer (some ⟨V.heap.size + 1, 0, none⟩), .pointer (some ⟨V.heap.size + 1 + 1, 0, none⟩), .pointer (some ⟨V.heap.size + 1 + 1 + 1, 0, none⟩), .pointer (some ⟨V.heap.size + 1 + 1 + 1 + 1, 0, none⟩), .pointer (some ⟨V.heap.size + 1 + 1 + 1 + 1 + 1, 0, none⟩), .pointer (some ⟨V.heap.size + 1 + 1 + 1 + 1 + 1 + 1, 0, none⟩), .pointer (some ⟨Bx, 0, none⟩), eU x.2, .bool true, .bool false, .slice a n c, .pointer (some ⟨B, 0, none⟩), .pointer (some ⟨B, 0, none⟩), .bool false, .tuple #[eU o.1, .bool o.2], .pointer (some ⟨B, 0, none⟩), eU q, .tuple #[eU o.1, .bool o.2], eU o.1, .bool o.2, .tuple #[eU g.1, .bool g.2], .pointer (some ⟨B, 0, none⟩), .tuple #[eU g.1, .bool g.2], eU g.1, .bool g.2, .tuple #[.agg #[eU k.1, eI k.2], .bool f], .pointer (some ⟨B, 0, none⟩), eU y, .func (.func 23) #[eU y] #[], .tuple #[.agg #[eU k.1, eI k.2], .bool f], .agg #[eU k.1, eI k.2], .bool f, .bool f, .bool !f, .pointer (some ⟨B, 0, none⟩), .func (.func 52) #[] #[.pointer (some ⟨V.heap.size + 1 + 1 + 1 + 1 + 1 + 1 + 1, 0, none⟩)], ky x.1, eU x.2, undef, undef, undef, undef, undef, undef, undef, undef, undef, undef, undef, undef, undef, undef, undef, undef, undef, undef, undef, undef, undef, undef, undef, undef, undef, undef, undef, undef, undef, undef, undef, undef, undef, undef, undef, undef, undef, undef, undef, undef, undef, undef, undef, undef, undef, undef, undef, undef, undef, undef, undef, undef, undef, undef, undef, undef, undef, undef, undef, undef, undef, undef, undef, undef, undef, undef, undef, undef, undef, undef, undef, undef, undef, undef, undef, undef, undef, undef, undef, undef, undef, undef, undef, undef, undef, undef, undef, undef, undef, undef, undef, undef, undef, undef, undef], defers := [] })
    (fun x a' _ X Y row hs hg hr => by obtain ⟨Bx, h1, h2, h3⟩ := hs; exact ⟨Bx, h1, box_own Bx 32 _ () X Y row h2 hg (fun r e => (hr r e).2), h3⟩)
    ?assign ?body ?done ?stop
  case assign =>
    rintro l0 pre x W K hzW hI hK
    gi_wp2
    exact hK _ _ (Mid.alloc W hI.2.2.2.2.2.2.2.size _) (hI.alloc _) ⟨W.heap.size, by omega, Box.new W 32 _, rfl⟩
  case stop =>
    rintro D c pre W hD _ h hK
    exact h.elim
  case body =>
    rintro l0 pre x a' W hzW hI ⟨Bx, hBx, bX, rfl⟩ hpx
    have hsz7 := hI.2.2.2.2.2.2.2
    obtain ⟨⟨s, hd⟩, hso⟩ : ∃ z, lo (upto q pre) = z := ⟨_, rfl⟩
    obtain ⟨⟨wv, hs⟩, hwo⟩ : ∃ z, lo pre = z := ⟨_, rfl⟩
    obtain ⟨⟨s', hd'⟩, hso'⟩ : ∃ z, lo (upto q (pre ++ [x])) = z := ⟨_, rfl⟩
    obtain ⟨⟨wv', hs'⟩, hwo'⟩ : ∃ z, lo (pre ++ [x]) = z := ⟨_, rfl⟩
    have hstep1 : (s', hd') = if x.1.1 ≤ q then (if hd = true then (if x.2 < s then (x.2, true) else (s, true)) else (x.2, true)) else (s, hd) := by
      rw [← hso', upto_snoc]
      split
      · rw [lo_snoc, hso]
      · exact hso
    have hstep2 : (wv', hs') = if hs = true then (if x.2 < wv then (x.2, true) else (wv, true)) else (x.2, true) := by rw [← hwo', lo_snoc, hwo]
    have hcase := ahd_step (y := y) hpx hr
    rw [hso, hwo] at hI
    obtain ⟨f0, hf0⟩ : ∃ z, ahd y L pre = z := ⟨_, rfl⟩
    obtain ⟨f1, hf1⟩ : ∃ z, ahd y L (pre ++ [x]) = z := ⟨_, rfl⟩
    rw [hf0, hf1] at hcase
    rw [hf0] at hI
    clear hso hwo hpx hf0
    replace hso' := Lib.hid hso'
    replace hwo' := Lib.hid hwo'
    replace hf1 := Lib.hid hf1
    rw [hk] at hcase
    clear hseq hO k0 k1 k2 k3 k4 k5 k6 k7 TV ho hg hf hk hr hl
    have bq := (b1.below hsz7).cell 0
    have by' := (b2.below hsz7).cell 0
    have x0 := bX.cell 0
    have x1 := bX.cell 1
    obtain ⟨h0, h1, h2, h3, h4, h5, h6, h7⟩ := id hI
    have c2 := h2.cell 0
    have c3 := h3.cell 0
    have f2 := h2.thaw 0
    have f3 := h3.thaw 0
    have l2 := h2.lt
    have l3 := h3.lt
    dsimp only
    gi_upto_region 15 with (fail)
    gi_cut [63] from 21 (fun s63 wx => s63 = .bool (decide (x.1.1 ≤ q) && (!hd || decide (x.2 < s))) ∧ W = wx)
    case first =>
      by_cases g1 : x.1.1 ≤ q
      · cases hd with
        | false =>
          gi_wp2
          gi_meet
          case rel => exact ⟨by simp [g1], rfl⟩
        | true =>
          have g2 : decide (x.2 < s) = decide (x.2 < s) := rfl
          gi_wp2
          gi_meet
          case rel => exact ⟨by simp [g1], rfl⟩
      · gi_wp2
        gi_meet
        case rel => exact ⟨by simp; intro h; omega, rfl⟩
    case rest =>
      obtain ⟨rfl, rfl⟩ := hcut
      gi_upto_if 63 with (fail)
      gi_cut [] from 21 (fun wx => SmI V k (s', hd') (wv, hs) f0 wx ∧ Mid V.heap.size V1.heap.size W wx)
      case first =>
        cases hT : (decide (x.1.1 ≤ q) && (!hd || decide (x.2 < s))) with
        | true =>
          have e : (s', hd') = (x.2, true) := by
            rw [hstep1]
            simp only [Bool.and_eq_true, Bool.or_eq_true, Bool.not_eq_true', decide_eq_true_eq] at hT
            rw [if_pos hT.1]
            rcases hT.2 with h | h
            · rw [h]; rfl
            · cases hd
              · rfl
              · rw [if_pos rfl, if_pos h]
          replace e := Lib.hid e
          clear hstep1
          gi_wp2
          gi_meet
          case rel => (rw [e.out]; exact ⟨⟨(h0.setNe (by show V.heap.size ≠ V.heap.size + 1 + 1; omega) _).setNe (by show V.heap.size ≠ V.heap.size + 1 + 1 + 1; omega) _, (h1.setNe (by show V.heap.size + 1 ≠ V.heap.size + 1 + 1; omega) _).setNe (by show V.heap.size + 1 ≠ V.heap.size + 1 + 1 + 1; omega) _, (h2.set 0 (eU x.2)).setNe (by show V.heap.size + 1 + 1 ≠ V.heap.size + 1 + 1 + 1; omega) _, (h3.setNe (by show V.heap.size + 1 + 1 + 1 ≠ V.heap.size + 1 + 1; omega) _).set 0 (.bool true), (h4.setNe (by show V.heap.size + 1 + 1 + 1 + 1 ≠ V.heap.size + 1 + 1; omega) _).setNe (by show V.heap.size + 1 + 1 + 1 + 1 ≠ V.heap.size + 1 + 1 + 1; omega) _, (h5.setNe (by show V.heap.size + 1 + 1 + 1 + 1 + 1 ≠ V.heap.size + 1 + 1; omega) _).setNe (by show V.heap.size + 1 + 1 + 1 + 1 + 1 ≠ V.heap.size + 1 + 1 + 1; omega) _, (h6.setNe (by show V.heap.size + 1 + 1 + 1 + 1 + 1 + 1 ≠ V.heap.size + 1 + 1; omega) _).setNe (by show V.heap.size + 1 + 1 + 1 + 1 + 1 + 1 ≠ V.heap.size + 1 + 1 + 1; omega) _, (h7.setCell (p := ⟨V.heap.size + 1 + 1, 0, none⟩) (by simp; omega) _).setCell (p := ⟨V.heap.size + 1 + 1 + 1, 0, none⟩) (by simp; omega) _⟩, (Mid.put W (b := V.heap.size + 1 + 1) (by omega) (by omega) 0 _).trans (Mid.put _ (b := V.heap.size + 1 + 1 + 1) (by omega) (by omega) 0 _)⟩)
        | false =>
          have e : (s', hd') = (s, hd) := by
            rw [hstep1]
            split
            · rename_i hq
              cases hd
              · simp [hq] at hT
              · have hn : ¬ x.2 < s := by simp [hq] at hT; omega
                rw [if_pos rfl, if_neg hn]
            · rfl
          replace e := Lib.hid e
          clear hstep1
          gi_wp2
          gi_meet
          case rel => (rw [e.out]; exact ⟨hI, Mid.refl _ _ _⟩)
      case rest =>
        obtain ⟨hI1, hm1⟩ := hcut
        rename World => Wa
        clear h0 h1 h2 h3 h4 h5 h6 h7 c2 c3 f2 f3 l2 l3 hI x0 x1 hstep1 bq by' hsz7
        obtain ⟨h0, h1, h2, h3, h4, h5, h6, h7⟩ := id hI1
        have c4 := h4.cell 0
        have c5 := h5.cell 0
        have f4 := h4.thaw 0
        have f5 := h5.thaw 0
        have l4 := h4.lt
        have l5 := h5.lt
        gi_upto_region 17 with (fail)
        gi_cut [71] from 21 (fun s71 wx => s71 = .bool (!hs || decide (x.2 < wv)) ∧ Wa = wx)
        case first =>
          cases hs with
          | false =>
            gi_wp2
            gi_meet
            case rel => exact ⟨by simp, rfl⟩
          | true =>
            gi_wp2
            gi_meet
            case rel => exact ⟨by simp, rfl⟩
        case rest =>
          obtain ⟨rfl, rfl⟩ := hcut
          gi_upto_if 71 with (fail)
          gi_cut [] from 21 (fun wx => SmI V k (s', hd') (wv', hs') f0 wx ∧ Mid V.heap.size V1.heap.size W wx)
          case first =>
            cases hT : (!hs || decide (x.2 < wv)) with
            | true =>
              have e : (wv', hs') = (x.2, true) := by
                rw [hstep2]
                simp only [Bool.or_eq_true, Bool.not_eq_true', decide_eq_true_eq] at hT
                rcases hT with h | h
                · rw [h]; rfl
                · cases hs
                  · rfl
                  · rw [if_pos rfl, if_pos h]
              replace e := Lib.hid e
              clear hstep2
              gi_wp2
              gi_meet
              case rel => (rw [e.out]; exact ⟨⟨(h0.setNe (by show V.heap.size ≠ V.heap.size + 1 + 1 + 1 + 1; omega) _).setNe (by show V.heap.size ≠ V.heap.size + 1 + 1 + 1 + 1 + 1; omega) _, (h1.setNe (by show V.heap.size + 1 ≠ V.heap.size + 1 + 1 + 1 + 1; omega) _).setNe (by show V.heap.size + 1 ≠ V.heap.size + 1 + 1 + 1 + 1 + 1; omega) _, (h2.setNe (by show V.heap.size + 1 + 1 ≠ V.heap.size + 1 + 1 + 1 + 1; omega) _).setNe (by show V.heap.size + 1 + 1 ≠ V.heap.size + 1 + 1 + 1 + 1 + 1; omega) _, (h3.setNe (by show V.heap.size + 1 + 1 + 1 ≠ V.heap.size + 1 + 1 + 1 + 1; omega) _).setNe (by show V.heap.size + 1 + 1 + 1 ≠ V.heap.size + 1 + 1 + 1 + 1 + 1; omega) _, (h4.set 0 (eU x.2)).setNe (by show V.heap.size + 1 + 1 + 1 + 1 ≠ V.heap.size + 1 + 1 + 1 + 1 + 1; omega) _, (h5.setNe (by show V.heap.size + 1 + 1 + 1 + 1 + 1 ≠ V.heap.size + 1 + 1 + 1 + 1; omega) _).set 0 (.bool true), (h6.setNe (by show V.heap.size + 1 + 1 + 1 + 1 + 1 + 1 ≠ V.heap.size + 1 + 1 + 1 + 1; omega) _).setNe (by show V.heap.size + 1 + 1 + 1 + 1 + 1 + 1 ≠ V.heap.size + 1 + 1 + 1 + 1 + 1; omega) _, (h7.setCell (p := ⟨V.heap.size + 1 + 1 + 1 + 1, 0, none⟩) (by simp; omega) _).setCell (p := ⟨V.heap.size + 1 + 1 + 1 + 1 + 1, 0, none⟩) (by simp; omega) _⟩, hm1.trans ((Mid.put Wa (b := V.heap.size + 1 + 1 + 1 + 1) (by omega) (by omega) 0 _).trans (Mid.put _ (b := V.heap.size + 1 + 1 + 1 + 1 + 1) (by omega) (by omega) 0 _))⟩)
            | false =>
              have e : (wv', hs') = (wv, hs) := by
                rw [hstep2]
                cases hs
                · simp at hT
                · have hn : ¬ x.2 < wv := by simp at hT; omega
                  rw [if_pos rfl, if_neg hn]
              replace e := Lib.hid e
              clear hstep2
              gi_wp2
              gi_meet
              case rel => (rw [e.out]; exact ⟨hI1, hm1⟩)
          case rest =>
            obtain ⟨hI2, hm2⟩ := hcut
            rename World => Wb
            have bX2 : Box Wb Bx #[eU x.1.1, eI x.1.2] 32 := (hm2.2 Bx (by omega) bX.lt).trans bX
            rw [hsz] at hm2
            clear h0 h1 h2 h3 h4 h5 h6 h7 c4 c5 f4 f5 l4 l5 hI1 hstep2 hm1
            obtain ⟨h0, h1, h2, h3, h4, h5, h6, h7⟩ := id hI2
            obtain ⟨k0, k1⟩ := kyC h0
            obtain ⟨x0, x1⟩ := kyC bX2
            have c1 := h1.cell 0
            have c6 := h6.cell 0
            have f1' := h1.thaw 0
            have f6 := h6.thaw 0
            have l1 := h1.lt
            have l6 := h6.lt
            have cy := (b2.below h7).cell 0
            have fin : ∀ W3, SmI V k (s', hd') (wv', hs') f1 W3 → SmI V k (lo (upto q (pre ++ [x]))) (lo (pre ++ [x])) (ahd y L (pre ++ [x])) W3 := fun W3 h => by rw [hso'.out, hwo'.out, hf1.out]; exact h
            clear hso' hwo' hf1
            rcases hcase with ⟨rfl, rfl⟩ | ⟨rfl, hxk, hxy, rfl⟩ | ⟨rfl, hxk, hxy, rfl⟩
            · rcases Decidable.em (k.1 = 0) with hz | hz
              · have z1 : (k.1 == 0) = true := by simpa using hz
                clear hz
                rcases Decidable.em (k.2 = 0) with hz | hz
                · have z2 : (k.2 == 0) = true := by simpa using hz
                  clear hz
                  by_cases hv : x.2 ≤ y
                  · gi_wp2
                    exact ⟨hm2, fin _ hI2⟩
                  · gi_wp2
                    exact ⟨hm2, fin _ hI2⟩
                · have z2 : (k.2 == 0) = false := by simpa using hz
                  clear hz
                  gi_wp2
                  exact ⟨hm2, fin _ hI2⟩
              · have z1 : (k.1 == 0) = false := by simpa using hz
                clear hz
                gi_wp2
                exact ⟨hm2, fin _ hI2⟩
            · have z1 : (x.1.1 == k.1) = true := by rw [hxk]; simp
              have z2 : (x.1.2 == k.2) = true := by rw [hxk]; simp
              have z3 : decide (x.2 ≤ y) = true := by simpa using hxy
              clear hxk hxy
              gi_wp2
              exact ⟨hm2.trans ((Mid.put Wb (b := V.heap.size + 1 + 1 + 1 + 1 + 1 + 1) (by omega) (by omega) 0 _).trans (Mid.put _ (b := V.heap.size + 1) (by omega) (by omega) 0 _)), fin _ ⟨(h0.setNe (by show V.heap.size ≠ V.heap.size + 1 + 1 + 1 + 1 + 1 + 1; omega) _).setNe (by show V.heap.size ≠ V.heap.size + 1; omega) _, (h1.setNe (by show V.heap.size + 1 ≠ V.heap.size + 1 + 1 + 1 + 1 + 1 + 1; omega) _).set 0 (.bool false), (h2.setNe (by show V.heap.size + 1 + 1 ≠ V.heap.size + 1 + 1 + 1 + 1 + 1 + 1; omega) _).setNe (by show V.heap.size + 1 + 1 ≠ V.heap.size + 1; omega) _, (h3.setNe (by show V.heap.size + 1 + 1 + 1 ≠ V.heap.size + 1 + 1 + 1 + 1 + 1 + 1; omega) _).setNe (by show V.heap.size + 1 + 1 + 1 ≠ V.heap.size + 1; omega) _, (h4.setNe (by show V.heap.size + 1 + 1 + 1 + 1 ≠ V.heap.size + 1 + 1 + 1 + 1 + 1 + 1; omega) _).setNe (by show V.heap.size + 1 + 1 + 1 + 1 ≠ V.heap.size + 1; omega) _, (h5.setNe (by show V.heap.size + 1 + 1 + 1 + 1 + 1 ≠ V.heap.size + 1 + 1 + 1 + 1 + 1 + 1; omega) _).setNe (by show V.heap.size + 1 + 1 + 1 + 1 + 1 ≠ V.heap.size + 1; omega) _, (h6.set 0 (.bool true)).setNe (by show V.heap.size + 1 + 1 + 1 + 1 + 1 + 1 ≠ V.heap.size + 1; omega) _, (h7.setCell (p := ⟨V.heap.size + 1 + 1 + 1 + 1 + 1 + 1, 0, none⟩) (by simp; omega) _).setCell (p := ⟨V.heap.size + 1, 0, none⟩) (by simp) _⟩⟩
            · have z3 : decide (x.2 ≤ y) = false := by simp; omega
              rcases Decidable.em (x.1.1 = k.1) with hz | hz
              · have z1 : (x.1.1 == k.1) = true := by simpa using hz
                have z2 : (x.1.2 == k.2) = false := by simpa using fun h2 : x.1.2 = k.2 => hxk (Prod.ext hz h2)
                clear hxk hxy hz
                gi_wp2
                exact ⟨hm2, fin _ hI2⟩
              · have z1 : (x.1.1 == k.1) = false := by simpa using hz
                clear hxk hxy hz
                gi_wp2
                exact ⟨hm2, fin _ hI2⟩
  case done =>
    rintro D ys W hD rfl hI hK
    rw [ho, hg, ahd_done] at hI
    have hmix := mixed
    have hVw := b3.lt
    obtain ⟨h0, h1, h2, h3, h4, h5, h6, h7⟩ := hI
    have p3 := b3.below h7
    have p2 := b2.below h7
    have T3 := upp T h7
    have hO3 := hO.below h7
    have hV7 := h7.size
    have l3 := p3.lt
    have f3 := p3.thaw 0
    have c3 := p3.cell 0
    have e1 : (o.1 == o.1) = true := by simp
    have e2 : (o.2 == o.2) = true := by simp
    have e3 : (g.1 == g.1) = true := by simp
    have hg2 : g.2 = decide (ys ≠ []) := by rw [← hg]; rfl
    obtain ⟨g2, hg2'⟩ : ∃ z, g.2 = z := ⟨_, rfl⟩
    rw [hg2'] at hg2
    rw [hg2'] at h5
    rw [hg2']
    have hX : ∀ X : World, (∃ z, X = (W.setCell ⟨w.heap.size + 1 + 1, 0, none⟩ (.bool true)).drewN z) → X.cell? ⟨w.heap.size + 1 + 1, 0, none⟩ = some (.bool true) := fun X ⟨z, e⟩ => by subst e; exact (p3.set 0 (.bool true)).cell 0
    clear hX
    have n6 : V.heap.size + 1 + 1 + 1 + 1 + 1 + 1 ≠ w.heap.size + 1 + 1 := by omega
    have n2 : V.heap.size + 1 + 1 ≠ w.heap.size + 1 + 1 := by omega
    have n3 : V.heap.size + 1 + 1 + 1 ≠ w.heap.size + 1 + 1 := by omega
    have n4 : V.heap.size + 1 + 1 + 1 + 1 ≠ w.heap.size + 1 + 1 := by omega
    have n5 : V.heap.size + 1 + 1 + 1 + 1 + 1 ≠ w.heap.size + 1 + 1 := by omega
    have nD : D ≠ w.heap.size + 1 + 1 := by omega
    have hS : ∀ X : World, Box X (V.heap.size + 1 + 1 + 1 + 1 + 1 + 1) #[.bool true] 4 → Box X (V.heap.size + 1 + 1) #[eU o.1] 30 → Box X (V.heap.size + 1 + 1 + 1) #[.bool o.2] 4 → Box X (V.heap.size + 1 + 1 + 1 + 1) #[eU g.1] 30 → Box X (V.heap.size + 1 + 1 + 1 + 1 + 1) #[.bool g2] 4 → Box X (w.heap.size + 1) #[eU y] 30 → X.cell? ⟨V.heap.size + 1 + 1 + 1 + 1 + 1 + 1, 0, none⟩ = some (.bool true) ∧ X.cell? ⟨V.heap.size + 1 + 1, 0, none⟩ = some (.int .u64 o.1) ∧ X.cell? ⟨V.heap.size + 1 + 1 + 1, 0, none⟩ = some (.bool o.2) ∧ X.cell? ⟨V.heap.size + 1 + 1 + 1 + 1, 0, none⟩ = some (.int .u64 g.1) ∧ X.cell? ⟨V.heap.size + 1 + 1 + 1 + 1 + 1, 0, none⟩ = some (.bool g2) ∧ X.cell? ⟨w.heap.size + 1, 0, none⟩ = some (.int .u64 y) := fun X a1 a2 a3 a4 a5 a6 => ⟨a1.cell 0, a2.cell 0, a3.cell 0, a4.cell 0, a5.cell 0, a6.cell 0⟩
    have hS0 := hS W h6 h2 h3 h4 h5 p2
    have hS1 : ∀ v, (fun X : World => X.cell? ⟨V.heap.size + 1 + 1 + 1 + 1 + 1 + 1, 0, none⟩ = some (.bool true) ∧ X.cell? ⟨V.heap.size + 1 + 1, 0, none⟩ = some (.int .u64 o.1) ∧ X.cell? ⟨V.heap.size + 1 + 1 + 1, 0, none⟩ = some (.bool o.2) ∧ X.cell? ⟨V.heap.size + 1 + 1 + 1 + 1, 0, none⟩ = some (.int .u64 g.1) ∧ X.cell? ⟨V.heap.size + 1 + 1 + 1 + 1 + 1, 0, none⟩ = some (.bool g2) ∧ X.cell? ⟨w.heap.size + 1, 0, none⟩ = some (.int .u64 y)) (W.setCell ⟨w.heap.size + 1 + 1, 0, none⟩ v) := fun v => hS _ (h6.setNe n6 _) (h2.setNe n2 _) (h3.setNe n3 _) (h4.setNe n4 _) (h5.setNe n5 _) (p2.setNe (by show w.heap.size + 1 ≠ w.heap.size + 1 + 1; omega) _)
    have hLen := fun W1 (h : Below W.heap.size W W1) => ob_len (hO3.below h)
    have qB : Box (W.setCell ⟨w.heap.size + 1 + 1, 0, none⟩ (.bool true)) (w.heap.size + 1 + 1) #[.bool true] 4 := p3.set 0 _
    have qT : Below w.heap.size w (W.setCell ⟨w.heap.size + 1 + 1, 0, none⟩ (.bool true)) := T3.setCell (p := ⟨w.heap.size + 1 + 1, 0, none⟩) (by simp; omega) _
    have qD : (W.setCell ⟨w.heap.size + 1 + 1, 0, none⟩ (.bool true)).heap[D]? = some (.deferred (some [])) := (Below.heap_setCell _ _ _ D nD).trans hK
    have fin : ∀ X : World, X.heap = (W.setCell ⟨w.heap.size + 1 + 1, 0, none⟩ (.bool true)).heap → Below w.heap.size w X → X.heap[D]? = some (.deferred (some [])) ∧ (X.putObj D (.deferred none)).cell? ⟨w.heap.size + 1 + 1, 0, none⟩ = some (.bool true) ∧ Below w.heap.size w (X.putObj D (.deferred none)) := fun X hh hb => by
      have d : X.heap[D]? = some (.deferred (some [])) := by rw [hh]; exact qD
      refine ⟨d, ?_, hb.trans (belowK_b (w := w) (Nat.le_refl _) X D _ _ (by omega) d rfl rfl)⟩
      have b : Box (X.putObj D (.deferred none)) (w.heap.size + 1 + 1) #[.bool true] 4 := (World.putObj_heap_other (by omega)).trans (by rw [hh]; exact qB)
      exact b.cell 0
    clear hseq k0 k1 k2 k3 k4 k5 k6 k7 TV b1 b2 b3 hO hO3 hr h0 h1 ho hg hk hf
    by_cases hne : ys = []
    · subst hne
      have g2f : g2 = false := by rw [hg2]; rfl
      subst g2f
      clear hg2 hg2'
      gi_wp2
      refine wpIn_wide.2 ?_
      obtain ⟨s6, s2, s3, s4, s5, sy⟩ := id hS0
      refine wp_region_noPanic ?_
      refine wp_region_held_drew (S := fun X => X.cell? ⟨V.heap.size + 1 + 1 + 1 + 1 + 1 + 1, 0, none⟩ = some (.bool true) ∧ X.cell? ⟨V.heap.size + 1 + 1, 0, none⟩ = some (.int .u64 o.1) ∧ X.cell? ⟨V.heap.size + 1 + 1 + 1, 0, none⟩ = some (.bool o.2) ∧ X.cell? ⟨V.heap.size + 1 + 1 + 1 + 1, 0, none⟩ = some (.int .u64 g.1) ∧ X.cell? ⟨V.heap.size + 1 + 1 + 1 + 1 + 1, 0, none⟩ = some (.bool false) ∧ X.cell? ⟨w.heap.size + 1, 0, none⟩ = some (.int .u64 y)) (by kernel_rfl) hS0 (fun hHeld => ?_)
      refine wpAnyH_take (i := 0) (v := ?_) (by simp only [List.getElem?_toArray, List.getElem?_cons_zero]; rfl) (by kernel_rfl) (by kernel_rfl) (by kernel_rfl) (by exact fun _ _ _ h => h) (Or.inl ⟨by rfl, ?_⟩) (by assumption) ?_
      rotate_left
      · (intro w hSw; (try dsimp only at hSw); go_simp; (try with_reducible rfl))
      try simp only [Act.put, List.setIfInBounds_toArray, List.set_cons_zero, List.set_cons_succ]
      refine wpAnyH_take (i := 1) (v := ?_) (by simp only [List.getElem?_toArray, List.getElem?_cons_zero, List.getElem?_cons_succ]; rfl) (by kernel_rfl) (by kernel_rfl) (by kernel_rfl) (by exact fun _ _ _ h => h) (Or.inl ⟨by rfl, ?_⟩) (by assumption) ?_
      rotate_left
      · (intro w hSw; (try dsimp only at hSw); go_simp; (try with_reducible rfl))
      try simp only [Act.put, List.setIfInBounds_toArray, List.set_cons_zero, List.set_cons_succ]
      refine wpAnyH_take (i := 2) (v := ?_) (by simp only [List.getElem?_toArray, List.getElem?_cons_zero, List.getElem?_cons_succ]; rfl) (by kernel_rfl) (by kernel_rfl) (by kernel_rfl) (by exact fun _ _ _ h => h) (Or.inl ⟨by rfl, ?_⟩) (by assumption) ?_
      rotate_left
      · (intro w hSw; (try dsimp only at hSw); go_simp; (try with_reducible rfl))
      try simp only [Act.put, List.setIfInBounds_toArray, List.set_cons_zero, List.set_cons_succ]
      refine wpAnyH_take (i := 3) (v := ?_) (by simp only [List.getElem?_toArray, List.getElem?_cons_zero, List.getElem?_cons_succ]; rfl) (by kernel_rfl) (by kernel_rfl) (by kernel_rfl) (by exact fun _ _ _ h => h) (Or.inl ⟨by rfl, ?_⟩) (by assumption) ?_
      rotate_left
      · (intro w hSw; (try dsimp only at hSw); go_simp; (try with_reducible rfl))
      try simp only [Act.put, List.setIfInBounds_toArray, List.set_cons_zero, List.set_cons_succ]
      refine wpAnyH_take (i := 4) (v := ?_) (by simp only [List.getElem?_toArray, List.getElem?_cons_zero, List.getElem?_cons_succ]; rfl) (by kernel_rfl) (by kernel_rfl) (by kernel_rfl) (by exact fun _ _ _ h => h) (Or.inl ⟨by rfl, ?_⟩) (by assumption) ?_
      rotate_left
      · (intro w hSw; (try dsimp only at hSw); go_simp; (try with_reducible rfl))
      try simp only [Act.put, List.setIfInBounds_toArray, List.set_cons_zero, List.set_cons_succ]
      refine wpAnyH_take (i := 5) (v := ?_) (by simp only [List.getElem?_toArray, List.getElem?_cons_zero, List.getElem?_cons_succ]; rfl) (by kernel_rfl) (by kernel_rfl) (by kernel_rfl) (by exact fun _ _ _ h => h) (Or.inl ⟨by rfl, ?_⟩) (by assumption) ?_
      rotate_left
      · (intro w hSw; (try dsimp only at hSw); go_simp; (try with_reducible rfl))
      try simp only [Act.put, List.setIfInBounds_toArray, List.set_cons_zero, List.set_cons_succ]
      refine wpAnyH_take (i := 6) (v := ?_) (by simp only [List.getElem?_toArray, List.getElem?_cons_zero, List.getElem?_cons_succ]; rfl) (by kernel_rfl) (by kernel_rfl) (by kernel_rfl) (by exact fun _ _ _ h => h) (Or.inl ⟨by rfl, ?_⟩) (by assumption) ?_
      rotate_left
      · (intro w hSw; (try dsimp only at hSw); go_simp; (try with_reducible rfl))
      try simp only [Act.put, List.setIfInBounds_toArray, List.set_cons_zero, List.set_cons_succ]
      refine wpAnyH_take (i := 7) (v := ?_) (by simp only [List.getElem?_toArray, List.getElem?_cons_zero, List.getElem?_cons_succ]; rfl) (by kernel_rfl) (by kernel_rfl) (by kernel_rfl) (by exact fun _ _ _ h => h) (Or.inl ⟨by rfl, ?_⟩) (by assumption) ?_
      rotate_left
      · (intro w hSw; (try dsimp only at hSw); go_simp; (try with_reducible rfl))
      try simp only [Act.put, List.setIfInBounds_toArray, List.set_cons_zero, List.set_cons_succ]
      refine wpAnyH_take (i := 8) (v := ?_) (by simp only [List.getElem?_toArray, List.getElem?_cons_zero, List.getElem?_cons_succ]; rfl) (by kernel_rfl) (by kernel_rfl) (by kernel_rfl) (by exact fun _ _ _ h => h) (Or.inl ⟨by rfl, ?_⟩) (by assumption) ?_
      rotate_left
      · (intro w hSw; (try dsimp only at hSw); go_simp; (try with_reducible rfl))
      try simp only [Act.put, List.setIfInBounds_toArray, List.set_cons_zero, List.set_cons_succ]
      refine wpAnyH_take (i := 9) (v := ?_) (by simp only [List.getElem?_toArray, List.getElem?_cons_zero, List.getElem?_cons_succ]; rfl) (by kernel_rfl) (by kernel_rfl) (by kernel_rfl) (by exact fun _ _ _ h => h) (Or.inl ⟨by rfl, ?_⟩) (by assumption) ?_
      rotate_left
      · (intro w hSw; (try dsimp only at hSw); go_simp; (try with_reducible rfl))
      try simp only [Act.put, List.setIfInBounds_toArray, List.set_cons_zero, List.set_cons_succ]
      refine wpAnyH_take (i := 10) (v := ?_) (by simp only [List.getElem?_toArray, List.getElem?_cons_zero, List.getElem?_cons_succ]; rfl) (by kernel_rfl) (by kernel_rfl) (by kernel_rfl) (by exact fun _ _ _ h => h) (Or.inl ⟨by rfl, ?_⟩) (by assumption) ?_
      rotate_left
      · (intro w hSw; (try dsimp only at hSw); go_simp; (try with_reducible rfl))
      try simp only [Act.put, List.setIfInBounds_toArray, List.set_cons_zero, List.set_cons_succ]
      refine wpAnyH_take (i := 11) (v := ?_) (by simp only [List.getElem?_toArray, List.getElem?_cons_zero, List.getElem?_cons_succ]; rfl) (by kernel_rfl) (by kernel_rfl) (by kernel_rfl) (by exact fun _ _ _ h => h) (Or.inl ⟨by rfl, ?_⟩) (by assumption) ?_
      rotate_left
      · (intro w hSw; (try dsimp only at hSw); go_simp; (try with_reducible rfl))
      try simp only [Act.put, List.setIfInBounds_toArray, List.set_cons_zero, List.set_cons_succ]
      refine wpAnyH_take (i := 12) (v := ?_) (by simp only [List.getElem?_toArray, List.getElem?_cons_zero, List.getElem?_cons_succ]; rfl) (by kernel_rfl) (by kernel_rfl) (by kernel_rfl) (by exact fun _ _ _ h => h) (Or.inl ⟨by rfl, ?_⟩) (by assumption) ?_
      rotate_left
      · (intro w hSw; (try dsimp only at hSw); go_simp; (try with_reducible rfl))
      try simp only [Act.put, List.setIfInBounds_toArray, List.set_cons_zero, List.set_cons_succ]
      refine wpAnyH_take (i := 13) (v := ?_) (by simp only [List.getElem?_toArray, List.getElem?_cons_zero, List.getElem?_cons_succ]; rfl) (by kernel_rfl) (by kernel_rfl) (by kernel_rfl) (by exact fun _ _ _ h => h) (Or.inl ⟨by rfl, ?_⟩) (by assumption) ?_
      rotate_left
      · (intro w hSw; (try dsimp only at hSw); go_simp; (try with_reducible rfl))
      try simp only [Act.put, List.setIfInBounds_toArray, List.set_cons_zero, List.set_cons_succ]
      refine wpAnyH_take (i := 14) (v := ?_) (by simp only [List.getElem?_toArray, List.getElem?_cons_zero, List.getElem?_cons_succ]; rfl) (by kernel_rfl) (by kernel_rfl) (by kernel_rfl) (by exact fun _ _ _ h => h) (Or.inl ⟨by rfl, ?_⟩) (by assumption) ?_
      rotate_left
      · (intro w hSw; (try dsimp only at hSw); go_simp; (try with_reducible rfl))
      try simp only [Act.put, List.setIfInBounds_toArray, List.set_cons_zero, List.set_cons_succ]
      refine wpAnyH_take (i := 15) (v := ?_) (by simp only [List.getElem?_toArray, List.getElem?_cons_zero, List.getElem?_cons_succ]; rfl) (by kernel_rfl) (by kernel_rfl) (by kernel_rfl) (by exact fun _ _ _ h => h) (Or.inl ⟨by rfl, ?_⟩) (by assumption) ?_
      rotate_left
      · (intro w hSw; (try dsimp only at hSw); go_simp; (try with_reducible rfl))
      try simp only [Act.put, List.setIfInBounds_toArray, List.set_cons_zero, List.set_cons_succ]
      refine wpAnyH_take (i := 16) (v := ?_) (by simp only [List.getElem?_toArray, List.getElem?_cons_zero, List.getElem?_cons_succ]; rfl) (by kernel_rfl) (by kernel_rfl) (by kernel_rfl) (by exact fun _ _ _ h => h) (Or.inl ⟨by rfl, ?_⟩) (by assumption) ?_
      rotate_left
      · (intro w hSw; (try dsimp only at hSw); go_simp; (try with_reducible rfl))
      try simp only [Act.put, List.setIfInBounds_toArray, List.set_cons_zero, List.set_cons_succ]
      refine wpAnyH_take (i := 17) (v := ?_) (by simp only [List.getElem?_toArray, List.getElem?_cons_zero, List.getElem?_cons_succ]; rfl) (by kernel_rfl) (by kernel_rfl) (by kernel_rfl) (by exact fun _ _ _ h => h) (Or.inl ⟨by rfl, ?_⟩) (by assumption) ?_
      rotate_left
      · (intro w hSw; (try dsimp only at hSw); go_simp; (try with_reducible rfl))
      try simp only [Act.put, List.setIfInBounds_toArray, List.set_cons_zero, List.set_cons_succ]
      refine wpAnyH_take (i := 18) (v := ?_) (by simp only [List.getElem?_toArray, List.getElem?_cons_zero, List.getElem?_cons_succ]; rfl) (by kernel_rfl) (by kernel_rfl) (by kernel_rfl) (by exact fun _ _ _ h => h) (Or.inl ⟨by rfl, ?_⟩) (by assumption) ?_
      rotate_left
      · (intro w hSw; (try dsimp only at hSw); go_simp; (try with_reducible rfl))
      try simp only [Act.put, List.setIfInBounds_toArray, List.set_cons_zero, List.set_cons_succ]
      refine wpAnyH_take (i := 19) (v := ?_) (by simp only [List.getElem?_toArray, List.getElem?_cons_zero, List.getElem?_cons_succ]; rfl) (by kernel_rfl) (by kernel_rfl) (by kernel_rfl) (by exact fun _ _ _ h => h) (Or.inl ⟨by rfl, ?_⟩) (by assumption) ?_
      rotate_left
      · (intro w hSw; (try dsimp only at hSw); go_simp; (try with_reducible rfl))
      try simp only [Act.put, List.setIfInBounds_toArray, List.set_cons_zero, List.set_cons_succ]
      refine wpAnyH_take (i := 20) (v := ?_) (by simp only [List.getElem?_toArray, List.getElem?_cons_zero, List.getElem?_cons_succ]; rfl) (by kernel_rfl) (by kernel_rfl) (by kernel_rfl) (by exact fun _ _ _ h => h) (Or.inl ⟨by rfl, ?_⟩) (by assumption) ?_
      rotate_left
      · (intro w hSw; (try dsimp only at hSw); go_simp; (try with_reducible rfl))
      try simp only [Act.put, List.setIfInBounds_toArray, List.set_cons_zero, List.set_cons_succ]
      refine wpAnyH_take (i := 21) (v := ?_) (by simp only [List.getElem?_toArray, List.getElem?_cons_zero, List.getElem?_cons_succ]; rfl) (by kernel_rfl) (by kernel_rfl) (by kernel_rfl) (by exact fun _ _ _ h => h) (Or.inl ⟨by rfl, ?_⟩) (by assumption) ?_
      rotate_left
      · (intro w hSw; (try dsimp only at hSw); go_simp; (try with_reducible rfl))
      try simp only [Act.put, List.setIfInBounds_toArray, List.set_cons_zero, List.set_cons_succ]
      refine wpAnyH_take (i := 22) (v := ?_) (by simp only [List.getElem?_toArray, List.getElem?_cons_zero, List.getElem?_cons_succ]; rfl) (by kernel_rfl) (by kernel_rfl) (by kernel_rfl) (by exact fun _ _ _ h => h) (Or.inl ⟨by rfl, ?_⟩) (by assumption) ?_
      rotate_left
      · (intro w hSw; (try dsimp only at hSw); go_simp; (try with_reducible rfl))
      try simp only [Act.put, List.setIfInBounds_toArray, List.set_cons_zero, List.set_cons_succ]
      refine wpAnyH_take (i := 23) (v := ?_) (by simp only [List.getElem?_toArray, List.getElem?_cons_zero, List.getElem?_cons_succ]; rfl) (by kernel_rfl) (by kernel_rfl) (by kernel_rfl) (by exact fun _ _ _ h => h) (Or.inl ⟨by rfl, ?_⟩) (by assumption) ?_
      rotate_left
      · (intro w hSw; (try dsimp only at hSw); go_simp; (try with_reducible rfl))
      try simp only [Act.put, List.setIfInBounds_toArray, List.set_cons_zero, List.set_cons_succ]
      refine wpAnyH_take (i := 24) (v := undef) (by simp only [List.getElem?_toArray, List.getElem?_cons_zero, List.getElem?_cons_succ]; rfl) (by kernel_rfl) (by kernel_rfl) (by kernel_rfl) (by exact fun _ _ _ h => h) (Or.inr ⟨by rfl, rfl⟩) (by assumption) ?_
      try simp only [Act.put, List.setIfInBounds_toArray, List.set_cons_zero, List.set_cons_succ]
      refine wpAnyH_take (i := 25) (v := undef) (by simp only [List.getElem?_toArray, List.getElem?_cons_zero, List.getElem?_cons_succ]; rfl) (by kernel_rfl) (by kernel_rfl) (by kernel_rfl) (by exact fun _ _ _ h => h) (Or.inr ⟨by rfl, rfl⟩) (by assumption) ?_
      try simp only [Act.put, List.setIfInBounds_toArray, List.set_cons_zero, List.set_cons_succ]
      refine wpAnyH_take (i := 26) (v := undef) (by simp only [List.getElem?_toArray, List.getElem?_cons_zero, List.getElem?_cons_succ]; rfl) (by kernel_rfl) (by kernel_rfl) (by kernel_rfl) (by exact fun _ _ _ h => h) (Or.inr ⟨by rfl, rfl⟩) (by assumption) ?_
      try simp only [Act.put, List.setIfInBounds_toArray, List.set_cons_zero, List.set_cons_succ]
      refine wpAnyH_take (i := 27) (v := ?_) (by simp only [List.getElem?_toArray, List.getElem?_cons_zero, List.getElem?_cons_succ]; rfl) (by kernel_rfl) (by kernel_rfl) (by kernel_rfl) (by exact fun _ _ _ h => h) (Or.inl ⟨by rfl, ?_⟩) (by assumption) ?_
      rotate_left
      · (intro w hSw; (try dsimp only at hSw); go_simp; (try with_reducible rfl))
      try simp only [Act.put, List.setIfInBounds_toArray, List.set_cons_zero, List.set_cons_succ]
      refine wpAnyH_take (i := 28) (v := ?_) (by simp only [List.getElem?_toArray, List.getElem?_cons_zero, List.getElem?_cons_succ]; rfl) (by kernel_rfl) (by kernel_rfl) (by kernel_rfl) (by exact fun _ _ _ h => h) (Or.inl ⟨by rfl, ?_⟩) (by assumption) ?_
      rotate_left
      · (intro w hSw; (try dsimp only at hSw); go_simp; (try with_reducible rfl))
      try simp only [Act.put, List.setIfInBounds_toArray, List.set_cons_zero, List.set_cons_succ]
      refine wpAnyH_ready (rs := [29]) (by kernel_rfl) (by simp) ?_
      refine AllReadyH.cons (by simp only [List.getElem?_toArray, List.getElem?_cons_zero, List.getElem?_cons_succ]; rfl) (fun K hK => ?_) AllReadyH.nil
      go_simp
      go_at_call 27; (with_reducible refine (hLen _ (by first | exact Below.refl _ _ | exact (Below.refl _ _).drew | exact below_drewN (Below.refl _ _) _)).mono ?_); rintro e w1 ⟨rfl, rfl⟩; (try dsimp only)
      refine hK.out _ _ (by first | exact hS0 | exact hS1 _) (fun hHeld => ?_)
      clear hK K
      try simp only [Act.put, List.setIfInBounds_toArray, List.set_cons_zero, List.set_cons_succ]
      refine wpAnyH_take (i := 30) (v := ?_) (by simp only [List.getElem?_toArray, List.getElem?_cons_zero, List.getElem?_cons_succ]; rfl) (by kernel_rfl) (by kernel_rfl) (by kernel_rfl) (by exact fun _ _ _ h => h) (Or.inl ⟨by rfl, ?_⟩) (by assumption) ?_
      rotate_left
      · (intro w hSw; (try dsimp only at hSw); go_simp; (try with_reducible rfl))
      try simp only [Act.put, List.setIfInBounds_toArray, List.set_cons_zero, List.set_cons_succ]
      refine wpAnyH_take (i := 31) (v := ?_) (by simp only [List.getElem?_toArray, List.getElem?_cons_zero, List.getElem?_cons_succ]; rfl) (by kernel_rfl) (by kernel_rfl) (by kernel_rfl) (by exact fun _ _ _ h => h) (Or.inl ⟨by rfl, ?_⟩) (by assumption) ?_
      rotate_left
      · (intro w hSw; (try dsimp only at hSw); go_simp; (try with_reducible rfl))
      try simp only [Act.put, List.setIfInBounds_toArray, List.set_cons_zero, List.set_cons_succ]
      refine wpAnyH_take (i := 32) (v := undef) (by simp only [List.getElem?_toArray, List.getElem?_cons_zero, List.getElem?_cons_succ]; rfl) (by kernel_rfl) (by kernel_rfl) (by kernel_rfl) (by exact fun _ _ _ h => h) (Or.inr ⟨by rfl, rfl⟩) (by assumption) ?_
      try simp only [Act.put, List.setIfInBounds_toArray, List.set_cons_zero, List.set_cons_succ]
      refine wpAnyH_take (i := 33) (v := undef) (by simp only [List.getElem?_toArray, List.getElem?_cons_zero, List.getElem?_cons_succ]; rfl) (by kernel_rfl) (by kernel_rfl) (by kernel_rfl) (by exact fun _ _ _ h => h) (Or.inr ⟨by rfl, rfl⟩) (by assumption) ?_
      try simp only [Act.put, List.setIfInBounds_toArray, List.set_cons_zero, List.set_cons_succ]
      refine wpAnyH_take (i := 34) (v := undef) (by simp only [List.getElem?_toArray, List.getElem?_cons_zero, List.getElem?_cons_succ]; rfl) (by kernel_rfl) (by kernel_rfl) (by kernel_rfl) (by exact fun _ _ _ h => h) (Or.inr ⟨by rfl, rfl⟩) (by assumption) ?_
      try simp only [Act.put, List.setIfInBounds_toArray, List.set_cons_zero, List.set_cons_succ]
      refine wpAnyH_take (i := 35) (v := ?_) (by simp only [List.getElem?_toArray, List.getElem?_cons_zero, List.getElem?_cons_succ]; rfl) (by kernel_rfl) (by kernel_rfl) (by kernel_rfl) (by exact fun _ _ _ h => h) (Or.inl ⟨by rfl, ?_⟩) (by assumption) ?_
      rotate_left
      · (intro w hSw; (try dsimp only at hSw); go_simp; (try with_reducible rfl))
      try simp only [Act.put, List.setIfInBounds_toArray, List.set_cons_zero, List.set_cons_succ]
      refine wpAnyH_take (i := 36) (v := ?_) (by simp only [List.getElem?_toArray, List.getElem?_cons_zero, List.getElem?_cons_succ]; rfl) (by kernel_rfl) (by kernel_rfl) (by kernel_rfl) (by exact fun _ _ _ h => h) (Or.inl ⟨by rfl, ?_⟩) (by assumption) ?_
      rotate_left
      · (intro w hSw; (try dsimp only at hSw); go_simp; (try with_reducible rfl))
      try simp only [Act.put, List.setIfInBounds_toArray, List.set_cons_zero, List.set_cons_succ]
      refine wpAnyH_take (i := 37) (v := ?_) (by simp only [List.getElem?_toArray, List.getElem?_cons_zero, List.getElem?_cons_succ]; rfl) (by kernel_rfl) (by kernel_rfl) (by kernel_rfl) (by exact fun _ _ _ h => h) (Or.inl ⟨by rfl, ?_⟩) (by assumption) ?_
      rotate_left
      · (intro w hSw; (try dsimp only at hSw); go_simp; (try with_reducible rfl))
      try simp only [Act.put, List.setIfInBounds_toArray, List.set_cons_zero, List.set_cons_succ]
      refine wpAnyH_ready (rs := [38]) (by kernel_rfl) (by simp) ?_
      refine AllReadyH.cons (by simp only [List.getElem?_toArray, List.getElem?_cons_zero, List.getElem?_cons_succ]; rfl) (fun K hK => ?_) AllReadyH.nil
      go_simp
      refine hK.out _ _ (by first | exact hS0 | exact hS1 _) (fun hHeld => ?_)
      clear hK K
      try simp only [Act.put, List.setIfInBounds_toArray, List.set_cons_zero, List.set_cons_succ]
      refine wpAnyH_done (by kernel_rfl) ?_ _
      refine NoPanic.normal ?_
      have fx := fin (W.setCell ⟨w.heap.size + 1 + 1, 0, none⟩ (.bool true)).drew rfl (qT.trans (by exact ((Below.refl _ _).drew)))
      generalize (W.setCell ⟨w.heap.size + 1 + 1, 0, none⟩ (.bool true)).drew = X at *
      obtain ⟨fd, fc, fb⟩ := fx
      gi_wp2
      refine ⟨by simp, .inl ⟨_, _, rfl, run_takeDeferred fd, ?_⟩⟩
      exact ⟨.bool true, by simp [results, Try.results8, go_sem, fc], rfl, fb⟩
    · have g2t : g2 = true := by rw [hg2]; simpa using hne
      subst g2t
      have hpos : 0 < ys.length := by cases ys; exact absurd rfl hne; simp
      have hpos' : (0 : Int) < (ys.length : Int) := by omega
      clear hg2 hne
      generalize hzz : (ys.length : Int) = z at *
      have e4 : (decide (g.1 ≤ y) == decide (g.1 ≤ y)) = true := by simp
      gi_wp2
      refine wpIn_wide.2 ?_
      obtain ⟨s6, s2, s3, s4, s5, sy⟩ := id hS0
      go_region_held3 (fun X => X.cell? ⟨V.heap.size + 1 + 1 + 1 + 1 + 1 + 1, 0, none⟩ = some (.bool true) ∧ X.cell? ⟨V.heap.size + 1 + 1, 0, none⟩ = some (.int .u64 o.1) ∧ X.cell? ⟨V.heap.size + 1 + 1 + 1, 0, none⟩ = some (.bool o.2) ∧ X.cell? ⟨V.heap.size + 1 + 1 + 1 + 1, 0, none⟩ = some (.int .u64 g.1) ∧ X.cell? ⟨V.heap.size + 1 + 1 + 1 + 1 + 1, 0, none⟩ = some (.bool true) ∧ X.cell? ⟨w.heap.size + 1, 0, none⟩ = some (.int .u64 y))
        (first | exact hS0 | exact hS1 _)
        (first
          | (go_at_call 27; (with_reducible refine (hLen _ (by first | exact Below.refl _ _ | exact (Below.refl _ _).drew | exact below_drewN (Below.refl _ _) _)).mono ?_); rintro e w1 ⟨rfl, rfl⟩))
      have fx := fin (W.setCell ⟨w.heap.size + 1 + 1, 0, none⟩ (.bool true)).drew rfl (qT.trans (by exact ((Below.refl _ _).drew)))
      generalize (W.setCell ⟨w.heap.size + 1 + 1, 0, none⟩ (.bool true)).drew = X at *
      obtain ⟨fd, fc, fb⟩ := fx
      gi_wp2
      refine ⟨by simp, .inl ⟨_, _, rfl, run_takeDeferred fd, ?_⟩⟩
      exact ⟨.bool true, by simp [results, Try.results8, go_sem, fc], rfl, fb⟩
theorem TreeSummed_walk (a : Option Addr) (n c : Nat) (xs : Nat → Ac) (q y : Int) (w : World) (hI : IsAcs w a n c xs) (hw : ∀ i, (xs i).word) (hcm : c ≤ maxLen) (hnn : a = none → n = 0 ∧ c = 0) (hq : Word q) (hy : Word y) :
    Calls Try.prog 8 #[.slice a n c, eU q, eU y] w fun e w' => e = .returned (.bool true) ∧ Below w.heap.size w w' := by
  by_cases hn : n ≤ 200
  · exact summed_ok a n c xs q y w hn hI hw
  · exact summed_over a n c q y w (by omega) (Nat.le_trans hI.1 hcm)
end Go.Proofs.Ytjfpemkdidoacaa
