/- The corners of a list, as a map: what happens at each. No condition but words, and how many curves there are. -/
import Derived.Test.YtpopcnebndgblaaGreatMpB
namespace Go.Proofs.YtpopcnebndgblaaGreat
open Go.RowKit Go.Shelf Go.Maps W
set_option linter.unusedVariables false
attribute [local go_sem] Oper.semAt_some
def addW (x y : Int) : Int := IntKind.u64.wrap (x + y)
def oneU (U : Int → Int) (c : Cv) : Int → Int := fun j => if j = 0 then addW (U 0) c.f else U j
def oneV (V : Int → Int) : Int → Int := fun j => if j = 0 then V 0 else V j
def stU (U : Int → Int) (c : Cv) : Int → Int := fun j => if j = c.l then addW (oneU U c c.l) c.r else oneU U c j
def stV (V : Int → Int) (c : Cv) : Int → Int := fun j => if j = c.l then addW (oneV V c.l) c.f else oneV V j
def uF (pre : List Cv) : Int → Int := pre.foldl stU (fun _ => 0)
def vF (pre : List Cv) : Int → Int := pre.foldl stV (fun _ => 0)
def kF (pre : List Cv) (j : Int) : Prop := j = 0 ∨ ∃ c ∈ pre, c.l = j
theorem uF_snoc (pre : List Cv) (c : Cv) : uF (pre ++ [c]) = stU (uF pre) c := by simp [uF]
theorem vF_snoc (pre : List Cv) (c : Cv) : vF (pre ++ [c]) = stV (vF pre) c := by simp [vF]
theorem MapB.same {w : World} {b nn : Nat} {U V U' V' : Int → Int} {K K' : Int → Prop} (h : MapB w b nn U V K) (hU : ∀ j, U j = U' j) (hV : ∀ j, V j = V' j) (hK : ∀ j, K j ↔ K' j) : MapB w b nn U' V' K' := by
  obtain ⟨D, h1, h2, h3⟩ := h
  exact ⟨D, h1, fun k => by rw [h2, hU, hV], fun k => (h3 k).trans (hK k)⟩
def BenI (w : World) (B1 : Nat) (pre : List CW) (W : World) : Prop :=
  (∃ nn, nn ≤ 1 + 2 * pre.length ∧ MapB W w.heap.size nn (uF (unW pre)) (vF (unW pre)) (kF (unW pre))) ∧ Boxed W B1 130 (.map (some w.heap.size)) ∧ Below w.heap.size w W ∧ B1 + 2 ≤ W.heap.size
theorem BenI.own (w : World) (B1 : Nat) (hB : w.heap.size < B1) : OwnFrom (B1 + 2) (BenI w B1) := by
  rintro s X Y row ⟨⟨nn, hn, hM⟩, hb, hw, hz⟩ hg hr
  exact ⟨⟨nn, hn, hM.kept hg (fun e => by have := (hr _ e.symm).1; omega)⟩, hb.kept hg (fun e => by have := (hr _ e.symm).1; omega), hw.grown hg hw.size (fun k e => by have := (hr k e).1; omega), Nat.le_trans hz hg.size⟩
theorem stepB {W w1 : World} {n b : Nat} {x : Array Value} {t : TypeId} {o : Obj} (hb : Box W b x t) (hn : b ≠ n) (hg : (W.alloc o).grownBy w1 (some n)) : Box w1 b x t := by
  have h1 := hb.alloc o
  exact (hg.block b h1.lt (fun e => hn (by cases e; rfl))).trans h1
theorem w0 : Word 0 := ⟨by omega, by omega⟩
set_option maxRecDepth 100000 in
set_option maxHeartbeats 4000000 in
theorem bends_of (xs : List CW) (a : Option Addr) (k c : Nat) (w : World) (hn : xs.length ≤ 1000) (h : IsCvs w a k c (unW xs)) (n : Nat) (hn3 : 3 ≤ n) :
    CallsIn Fence.wide n Tryz.prog 107 #[.slice a k c] w fun e w' => e = .returned (.map (some w.heap.size)) ∧ (∃ nn, nn ≤ 1 + 2 * xs.length ∧ MapB w' w.heap.size nn (uF (unW (cntW xs))) (vF (unW (cntW xs))) (kF (unW (cntW xs)))) ∧ Below w.heap.size w w' ∧ w.heap.size < w'.heap.size := by
  have hmm := @run_makeMap Tryz.prog
  have h1n : 1 ≤ n := by omega
  refine callsIn_of_wp_marks Tryz.func107 rfl trivial ?_ rfl
  simp only [Tryz.ntmps107, List.size_toArray, List.length_cons, List.length_nil, Nat.reduceAdd, Nat.reduceSub, Array.replicate_succ, Array.replicate_zero, List.push_toArray, List.append_toArray, List.nil_append, List.cons_append]
  gi_wp2_with (first
    | (refine upd_b rfl _ _ _ (.inr rfl) (MapB.made w) (by omega) rfl 0 0 0 rfl w0 rfl ?_; intro w1 hM1 hg1)
    | (refine ⟨trivial, ?_⟩; gi_at_call 116; (refine (callsIn_wide.2 (counted_any _ _ _ _)).mono ?_); rintro e w' ⟨rfl, rfl⟩))
  obtain ⟨B1, hB1⟩ : ∃ B1, w1.heap.size = B1 := ⟨_, rfl⟩
  have hnB : w.heap.size < B1 := by have := hg1.size; simp at this; omega
  have b3 := (Boxed.new w1 130 (.map (some w.heap.size))).alloc (.cells #[.slice a k c] 113)
  have b5 := Boxed.new (w1.alloc (.cells #[.map (some w.heap.size)] 130)) 113 (.slice a k c)
  have hM0 := ((hM1.alloc (.cells #[.map (some w.heap.size)] 130)).alloc (.cells #[.slice a k c] 113)).same (U' := uF []) (V' := vF []) (K' := kF []) (fun j => by simp [uF]) (fun j => by simp [vF]) (fun j => by simp [kF])
  have hB0 : Below w.heap.size w ((w1.alloc (.cells #[.map (some w.heap.size)] 130)).alloc (.cells #[.slice a k c] 113)) :=
    ((((Below.refl _ w).alloc (Nat.le_refl _) _).grown hg1 (by simp) (fun k e => by cases e; exact Nat.le_refl _)).alloc (by omega) _).alloc (by simp; omega) _
  have hsz : ((w1.alloc (.cells #[.map (some w.heap.size)] 130)).alloc (.cells #[.slice a k c] 113)).heap.size = B1 + 2 := by simp [hB1]
  simp only [World.size_alloc] at b3 b5
  rw [hB1] at b3 b5 ⊢
  obtain ⟨W0, hW0⟩ : ∃ W0, ((w1.alloc (.cells #[.map (some w.heap.size)] 130)).alloc (.cells #[.slice a k c] 113)) = W0 := ⟨_, rfl⟩
  rw [hW0] at b3 b5 hM0 hB0 hsz ⊢
  clear hW0 hM1 hg1 hB1 hmm
  have hseq := counted_go (n - 1) (by omega) xs a k c (B1 + 1) w W0 hn h hB0 (by omega) b5.cell
  refine wpIn_rangeFunc_ownH rfl h1n (gf := 125) (lb := #[.pointer (some ⟨B1 + 1, 0, none⟩)]) rfl trivial (enters_of Tryz.func125 (by kernel_rfl) rfl)
    hseq belowK_t (belowK_b (by omega)) (Below.refl _ _) (fun _ => rfl)
    (BenI w B1)
    (fun _ _ _ => False)
    (by rw [hsz]; exact BenI.own w B1 hnB)
    (fun _ _ _ _ _ hs _ _ => hs)
    ⟨⟨1, by simp, hM0⟩, b3, hB0, by omega⟩
    (fun x a' W => ∃ Bx, B1 + 2 ≤ Bx ∧ Box W Bx #[eU x.1.f, eU x.1.l, eU x.1.r] 32 ∧ a' = { tmps := #[.slice a k c, undef, .map none, .pointer (some ⟨B1, 0, none⟩), .pointer (some ⟨Bx, 0, none⟩), undef, undef, .map (some w.heap.size), .agg #[eU 0, eU 0], .map (some w.heap.size), .slice a k c, .func (.func 125) #[] #[.pointer (some ⟨B1 + 1, 0, none⟩)], cvV x.1, undef, undef, undef, undef, undef, undef, undef, undef, undef, undef, undef, undef, undef, undef, undef, undef, undef, undef, undef, undef, undef, undef, undef, undef, undef, undef, undef, undef, undef, undef, undef], defers := [] })
    (fun x a' _ X Y row hs hg hr => by obtain ⟨Bx, h1, h2, h3⟩ := hs; exact ⟨Bx, h1, box_own Bx 32 _ () X Y row h2 hg (fun r e => (hr r e).2), h3⟩)
    ?assign ?body ?done ?stop
  case assign =>
    rintro l0 pre x W K ⟨⟨nn, hnn, hM⟩, hb, hw, hz⟩ hK
    unfold cvV
    gi_wp2
    exact hK _ _ ((KeepsOthers.alloc _ _).from _) ((Below.refl _ W).alloc hw.size _) ⟨⟨nn, hnn, hM.alloc _⟩, hb.alloc _, hw.alloc hw.size _, by simp; omega⟩ ⟨W.heap.size, by omega, Box.new W 32 _, rfl⟩
  case done =>
    rintro D zs W hD rfl ⟨⟨nn, hnn, hM⟩, hb, hw, hz⟩ hK
    have cM := hb.cell
    have hlen : (cntW xs).length ≤ xs.length := List.length_filter_le _ _
    gi_wp2
    refine ⟨by simp, .inl ⟨_, _, rfl, run_takeDeferred hK, ?_⟩⟩
    exact ⟨_, results_tmp rfl _ _ _, rfl, ⟨nn, by omega, hM.kept (grownBy_putObj' W D _) (fun e => by cases e; omega)⟩, hw.trans (belowK_b (w := w) (Nat.le_refl _) W D _ _ (by omega) hK rfl rfl), by simp; omega⟩
  case stop =>
    rintro D c pre W _ _ h _
    exact h.elim
  case body =>
    rintro l0 pre ⟨⟨f, ll, r⟩, hcw⟩ a' W hl ⟨rr, hr⟩ ⟨⟨nn, hnn, hM⟩, hb, hw, hz⟩ ⟨Bx, hBx, bX, rfl⟩ hlt
    dsimp only at bX
    obtain ⟨x0, x1, x2, x3⟩ := bX.tri
    have hlW : Word ll := hcw.2.1
    have cT := hb.cell
    have k1 : nn ≤ 5000 := by omega
    have k2 : nn + 1 ≤ 5000 := by omega
    have k3 : nn + 1 + 1 ≤ 1 + 2 * (pre ++ [(⟨⟨f, ll, r⟩, hcw⟩ : CW)]).length := by simp; omega
    obtain ⟨u0, eu0⟩ : ∃ u0, uF (unW pre) 0 = u0 := ⟨_, rfl⟩
    obtain ⟨v0, ev0⟩ : ∃ v0, vF (unW pre) 0 = v0 := ⟨_, rfl⟩
    obtain ⟨a1, g1⟩ : ∃ a1, IntKind.u64.wrap (u0 + f) = a1 := ⟨_, rfl⟩
    obtain ⟨u1, eu1⟩ : ∃ u1, (if ll = 0 then a1 else uF (unW pre) ll) = u1 := ⟨_, rfl⟩
    obtain ⟨v1, ev1⟩ : ∃ v1, (if ll = 0 then v0 else vF (unW pre) ll) = v1 := ⟨_, rfl⟩
    obtain ⟨a2, g2⟩ : ∃ a2, IntKind.u64.wrap (u1 + r) = a2 := ⟨_, rfl⟩
    obtain ⟨d2, g3⟩ : ∃ d2, IntKind.u64.wrap (v1 + f) = d2 := ⟨_, rfl⟩
    have fin : ∀ W' : World, MapB W' w.heap.size (nn + 1 + 1) (fun j => if j = ll then a2 else if j = 0 then a1 else uF (unW pre) j) (fun j => if j = ll then d2 else if j = 0 then v0 else vF (unW pre) j) (fun j => (kF (unW pre) j ∨ j = 0) ∨ j = ll) →
        ∃ nn', nn' ≤ 1 + 2 * (pre ++ [(⟨⟨f, ll, r⟩, hcw⟩ : CW)]).length ∧ MapB W' w.heap.size nn' (uF (unW (pre ++ [⟨⟨f, ll, r⟩, hcw⟩]))) (vF (unW (pre ++ [⟨⟨f, ll, r⟩, hcw⟩]))) (kF (unW (pre ++ [⟨⟨f, ll, r⟩, hcw⟩]))) := fun W' h' => by
      have eu : unW (pre ++ [⟨⟨f, ll, r⟩, hcw⟩]) = unW pre ++ [⟨f, ll, r⟩] := by simp [unW]
      rw [eu, uF_snoc, vF_snoc]
      refine ⟨_, k3, h'.same (fun j => ?_) (fun j => ?_) (fun j => ?_)⟩
      · simp only [stU, oneU, addW, eu0, g1, eu1, g2]
      · simp only [stV, oneV, addW, ev0, ev1, g3]
      · simp only [kF, List.mem_append, List.mem_singleton]
        constructor
        · rintro (((h | ⟨c, hc, e⟩) | h) | h)
          · exact .inl h
          · exact .inr ⟨c, .inl hc, e⟩
          · exact .inl h
          · exact .inr ⟨_, .inr rfl, h.symm⟩
        · rintro (h | ⟨c, hc | rfl, e⟩)
          · exact .inl (.inl (.inl h))
          · exact .inl (.inl (.inr ⟨c, hc, e⟩))
          · exact .inr e.symm
    have hfin := Lib.hid fin
    have hu1 := Lib.hid eu1
    have hv1 := Lib.hid ev1
    have hu0 := Lib.hid eu0
    have hv0 := Lib.hid ev0
    clear fin eu1 ev1 eu0 ev0 k3 hlt
    have n1 : w.heap.size ≠ W.heap.size := by have := hM.lt; omega
    have n2 : Bx ≠ w.heap.size := by omega
    have n3 : B1 ≠ w.heap.size := by omega
    have n4 : w.heap.size < B1 + 2 := by omega
    have n5 : w.heap.size ≤ W.heap.size := hw.size
    have z0 := hb.lt
    gi_wp2_with (first
      | (refine look_b rfl _ _ rfl hM rfl 0 u0 v0 rfl w0 hu0.out hv0.out ?_)
      | (refine upd_b rfl _ _ _ (.inl rfl) (hM.alloc _) k1 rfl 0 a1 v0 rfl w0 rfl ?_
         intro w1 hM3 hg1
         have b1 : Boxed w1 B1 130 (.map (some w.heap.size)) := stepB (x := #[.map (some w.heap.size)]) hb n3 hg1
         have bX1 := stepB bX n2 hg1
         obtain ⟨y0, y1, y2, y3⟩ := bX1.tri
         have cT1 := b1.cell
         have z1 := b1.lt)
      | (refine look_b rfl _ _ rfl hM3 rfl ll u1 v1 rfl hlW hu1.out hv1.out ?_)
      | (refine upd_b rfl _ _ _ (.inl rfl) (hM3.alloc _) k2 rfl ll a2 d2 rfl hlW rfl ?_
         intro w2 hM4 hg2))
    have E1 : KeepsFrom W0.heap.size W w1 := ((KeepsOthers.alloc W _).from _).trans (KeepsFrom.of_grownBy hg1 (fun j e => by cases e; omega))
    have E2 : KeepsFrom W0.heap.size w1 w2 := ((KeepsOthers.alloc w1 _).from _).trans (KeepsFrom.of_grownBy hg2 (fun j e => by cases e; omega))
    have F1 : Below w.heap.size W w1 := ((Below.refl _ W).alloc n5 _).grown hg1 (Nat.le_trans n5 (up1 W _).size) (fun k e => by cases e; exact Nat.le_refl _)
    have n7 : w.heap.size ≤ w1.heap.size := Nat.le_trans n5 F1.size
    have F2 : Below w.heap.size w1 w2 := ((Below.refl _ w1).alloc n7 _).grown hg2 (Nat.le_trans n7 (up1 w1 _).size) (fun k e => by cases e; exact Nat.le_refl _)
    exact ⟨E1.trans E2, F1.trans F2, hfin.out w2 hM4, stepB b1 n3 hg2, hw.trans (F1.trans F2), Nat.le_trans hz (F1.trans F2).size⟩
end Go.Proofs.YtpopcnebndgblaaGreat
