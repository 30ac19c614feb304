/- The tree of ids: Get, Drop, Put, over a row of items. No condition but words, and that there aren't too many. -/
import Derived.Test.YtcpienpkpodfmaaAB
import Derived.StillTailTactics
namespace Go.Proofs.Ytcpienpkpodfmaa
open Go.RowKit Go.Shelf Go.Maps
set_option linter.unusedVariables false
theorem mem_val {x : It} : ∀ {L : List It}, Rise L → x ∈ L → valL x.1 L = x.2 ∧ has x.1 L = true
  | [], _, h => by cases h
  | a :: L, hr, h => by
    have hr' : Rise ([] ++ a :: L) := hr
    obtain ⟨_, h2, _, h4⟩ := rise_node.1 hr'
    refine ⟨?_, has_iff.2 ⟨x.2, h⟩⟩
    rcases List.mem_cons.1 h with rfl | h
    · simp [valL]
    · have hne : ¬ a.1 = x.1 := fun e => kLt_irr x.1 (by have := h4 x h; rwa [e] at this)
      have := (mem_val h2 h).1
      unfold valL at this ⊢
      rw [List.find?_cons_of_neg (by simpa using hne)]
      exact this
/-- What Get tells. -/
def gotV (o : Option It) : Value := match o with | none => .tuple #[eU 0, eU 0, .bool false] | some a => .tuple #[eU a.1.1, eU a.2, .bool true]
/-- A mark in a block of its own, beside a key's. -/
def GotS (W1 : World) (P : Nat) (n i : Int) (s : Mk) (v : Value) (X : World) : Prop := ∃ M : Nat, v = .pointer (some ⟨M, 0, none⟩) ∧ Box X M #[eU s.1, eI s.2] 61 ∧ Box X P #[eU n, eI i] 59 ∧ Below W1.heap.size W1 X
theorem GotS.mk1 {W1 X : World} {P : Nat} {n i : Int} {s : Mk} (T : Below W1.heap.size W1 X) (bP : Box W1 P #[eU n, eI i] 59) : GotS W1 P n i s (.pointer (some ⟨X.heap.size, 0, none⟩)) (X.alloc (.cells #[.int .u64 s.1, .int .i64 s.2] 61)) :=
  ⟨_, rfl, Box.new _ _ _, (bP.below T).alloc _, T.alloc T.size _⟩
theorem GotS.mk2 {W1 X : World} {P M : Nat} {n i : Int} {s : Mk} (T : Below W1.heap.size W1 X) (bP : Box W1 P #[eU n, eI i] 59) (HN : Box X M #[eU 0, eI 0] 61) (hM : W1.heap.size ≤ M) : GotS W1 P n i s (.pointer (some ⟨M, 0, none⟩)) ((X.setCell ⟨M, 0, none⟩ (.int .u64 s.1)).setCell ⟨M, 1, none⟩ (.int .i64 s.2)) :=
  ⟨M, rfl, setMk (s := (0, 0)) HN s, setNeMk (bP.below T) (by have := bP.lt; omega) _, below_mk T hM⟩
/-- The same with its two blocks told. -/
def AugX (w W : World) (m B Bm Bt : Nat) (L : List It) : Prop :=
  ∃ nn : Nat, Box W B #[.map (some Bm), .pointer (some ⟨Bt, 0, none⟩)] 39 ∧ MapU W Bm nn (numL L) ∧ Ob W Bt L ∧ Fine L ∧ nn ≤ m ∧ L.length ≤ m ∧ (w.heap.size ≤ B ∧ w.heap.size ≤ Bm ∧ w.heap.size ≤ Bt) ∧ Below w.heap.size w W
theorem Aug.x {w W : World} {m B : Nat} {L : List It} (h : Aug w W m B L) : ∃ Bm Bt, AugX w W m B Bm Bt L := by
  obtain ⟨Bm, Bt, nn, h⟩ := h; exact ⟨Bm, Bt, nn, h⟩
theorem AugX.aug {w W : World} {m B Bm Bt : Nat} {L : List It} (h : AugX w W m B Bm Bt L) : Aug w W m B L := ⟨Bm, Bt, h⟩
theorem AugX.below {w W W' : World} {m B Bm Bt : Nat} {L : List It} (h : AugX w W m B Bm Bt L) (hb : Below W.heap.size W W') : AugX w W' m B Bm Bt L := by
  obtain ⟨nn, h1, h2, h3, h4, h5, h6, h7, h8⟩ := h
  exact ⟨nn, h1.below hb, h2.below hb, h3.below hb, h4, h5, h6, h7, upp h8 hb⟩
theorem IsTr.turn {n B : Nat} {W W' : World} (hb : But B W W') (hB : ∀ vs t, ¬ Box W B vs t) : ∀ {p : Pt} {t : Tr}, IsTr n W p t → IsTr n W' p t
  | _, .nil, h => h
  | _, .nd m r a b, ⟨C, pl, pr, e, hC, hx, hw, hl, hr⟩ =>
    ⟨C, pl, pr, e, hC, hb.box hx (fun h => by subst h; exact hB _ _ hx), hw, IsTr.turn hb hB hl, IsTr.turn hb hB hr⟩
theorem Ob.turn {B B' : Nat} {W W' : World} {L : List It} (h : Ob W B L) (hb : But B' W W') (hB : ∀ vs t, ¬ Box W B' vs t) : Ob W' B L := by
  obtain ⟨p, t, k, h1, h2, h3⟩ := h
  exact ⟨p, t, k, hb.box h1 (fun e => by subst e; exact hB _ _ h1), (IsTr.turn hb hB h2).mono hb.size, h3⟩
theorem MapU.unbox {w : World} {b nn : Nat} {F : Int → Option Int} (h : MapU w b nn F) : ∀ vs t, ¬ Box w b vs t := by
  obtain ⟨D, ⟨es, clock, hb, _⟩, _⟩ := h
  intro vs t hx
  rw [show w.heap[b]? = some (.cells vs t (0, 0)) from hx] at hb
  cases hb
theorem But.of_grown {w w' : World} {b : Nat} (h : w.grownBy w' (some b)) : But b w w' := ⟨h.os, h.tape, h.output, h.size, fun k hk hn => h.block k hk (fun e => hn (by cases e; rfl))⟩
theorem Ob.box {W : World} {B : Nat} {L : List It} (h : Ob W B L) : ∃ p, Box W B (tree p (L.length : Int)) 87 := by obtain ⟨p, t, k, h1, _⟩ := h; exact ⟨p, h1⟩
theorem box_ne {W : World} {B B' : Nat} {vs vs' : Array Value} {t t' : TypeId} (h : Box W B vs t) (h' : Box W B' vs' t') (ht : t ≠ t') : B ≠ B' := fun e => by
  subst e
  have h1 : W.heap[B]? = some (.cells vs t (0, 0)) := h
  rw [show W.heap[B]? = some (.cells vs' t' (0, 0)) from h'] at h1
  injection h1 with h3
  injection h3 with _ h4 _
  exact ht h4.symm
section
variable {w W : World} {m B : Nat} {L : List It}
theorem num_none {i : Int} (h : getA i L = none) : numL L i = none := by unfold numL; rw [h]; rfl
theorem num_some {i : Int} {a : It} (h : getA i L = some a) : numL L i = some a.1.1 := by unfold numL; rw [h]; rfl
set_option maxRecDepth 100000 in
set_option maxHeartbeats 2000000 in
theorem aug_get (i : Int) (hi : Inte i) (h : Aug w W m B L) : Calls Try.prog 20 #[.pointer (some ⟨B, 0, none⟩), eI i] W fun e w' => e = .returned (gotV (getA i L)) ∧ Below W.heap.size W w' := by
  have hP := place_at i hi h
  cases hg : getA i L with
  | none =>
    rw [num_none hg] at hP
    clear hg h
    replace hP : Calls Try.prog 40 #[.pointer (some ⟨B, 0, none⟩), eI i] W fun e w' => e = .returned (.tuple #[.agg #[eU 0, eI i], .bool false]) ∧ Below W.heap.size W w' := hP
    go_enter Try.func20, Try.ntmps20
    go_wp2_with (go_at_call 40; (with_reducible refine hP.mono ?_); rintro e w1 ⟨rfl, hb⟩)
    exact bodyPost_ret (v := .tuple #[eU 0, eU 0, .bool false]) (by simp [results, Try.results20, go_sem]) rfl ⟨rfl, upp hb (up1 _ _)⟩
  | some a =>
    obtain ⟨ha, hai⟩ := (getA_some h.fine).1 hg
    obtain ⟨mv, mh⟩ := mem_val h.rise ha
    have hk : a.1 = (a.1.1, i) := Prod.ext rfl hai
    rw [num_some hg] at hP
    obtain ⟨Bm, Bt, nn, h1, h2, h3, _⟩ := h
    have hG := fun w1 (hb : Below W.heap.size W w1) => ob_get a.1 (h3.below hb)
    have eV : mkV a.1 L = (a.2, a.1.2) := by unfold mkV; rw [if_pos mh, mv]
    rw [eV, mh] at hG
    show Calls _ _ _ _ fun e w' => e = .returned (.tuple #[eU a.1.1, eU a.2, .bool true]) ∧ Below W.heap.size W w'
    obtain ⟨⟨n, j⟩, v⟩ := a
    dsimp only at hai hk hG hP ⊢
    subst hai
    clear hg ha mv mh hk eV h2 h3
    replace hP : Calls Try.prog 40 #[.pointer (some ⟨B, 0, none⟩), eI j] W fun e w' => e = .returned (.tuple #[.agg #[eU n, eI j], .bool true]) ∧ Below W.heap.size W w' := hP
    go_enter Try.func20, Try.ntmps20
    go_upto_region 4 with (go_at_call 40; (with_reducible refine hP.mono ?_); rintro e w1 ⟨rfl, hb1⟩)
    have T1 := upp hb1 (up1 w1 (.cells #[eU n, eI j] 59))
    have bP := Box.new w1 59 #[eU n, eI j]
    obtain ⟨W1, hW1⟩ : ∃ z, w1.alloc (.cells #[eU n, eI j] 59) = z := ⟨_, rfl⟩
    rw [hW1] at T1 bP ⊢
    clear hW1 hP hb1
    have hB := h1.below T1
    go_cut [6, 8] (fun s6 s8 wx => s6 = .bool true ∧ GotS W1 w1.heap.size n j (v, j) s8 wx)
    case first =>
      have hS : ∀ w', Below W1.heap.size W1 w' → w'.cell? ⟨B, 1, none⟩ = some (.pointer (some ⟨Bt, 0, none⟩)) ∧ (w'.cell? ⟨w1.heap.size, 0, none⟩ = some (.int .u64 n) ∧ w'.cell? ⟨w1.heap.size, 1, none⟩ = some (.int .i64 j)) := fun w' h => ⟨(hB.below h).cell 1, kyC (k := (n, j)) (bP.below h)⟩
      have T := Below.refl W1.heap.size W1
      have hS0 := hS W1 T
      obtain ⟨c1, k0, k1⟩ := id hS0
      go_region_held3 (fun w' => w'.cell? ⟨B, 1, none⟩ = some (.pointer (some ⟨Bt, 0, none⟩)) ∧ (w'.cell? ⟨w1.heap.size, 0, none⟩ = some (.int .u64 n) ∧ w'.cell? ⟨w1.heap.size, 1, none⟩ = some (.int .i64 j)))
        (first | exact hS _ T | exact hS _ T.drew | exact hS _ (T.alloc T.size _) | exact hS _ (T.alloc T.size _).drew | exact hS _ ((T.setCell (by exact hN) _).setCell (by exact hN) _) | exact hS _ (((T.alloc T.size _).setCell (by exact T.size) _).setCell (by exact T.size) _))
        (first
          | (go_at_call 38; (with_reducible refine (hG _ (by first | exact upp T1 T | exact (upp T1 T).drew | exact (upp T1 T).alloc (upp T1 T).size _ | exact ((upp T1 T).alloc (upp T1 T).size _).drew | exact (upp T1 T.drew).alloc (upp T1 T.drew).size _)).mono ?_); rintro e w2 ⟨rfl, hb⟩; (first | replace hb := undrew hb | replace hb := undrewN hb | skip); (first | (replace T := up T hb T.size) | (have HN : Box w2 W1.heap.size #[eU 0, eI 0] 61 := (Box.new _ 61 #[eU 0, eI 0]).below hb; have hN := T.size; replace T := up (T.alloc T.size _) hb (T.alloc T.size _).size; have xN : w2.cell? ⟨W1.heap.size, 0, none⟩ = some (.int .u64 0) := HN.cell 0; have yN : w2.cell? ⟨W1.heap.size, 1, none⟩ = some (.int .i64 0) := HN.cell 1; have fN := HN.thaw 0; have gN := HN.thaw 1; have lN := HN.lt)); clear hb))
      all_goals go_wp2_with fail
      all_goals go_meet
      all_goals first
        | exact ⟨rfl, by with_reducible exact GotS.mk1 (s := (v, j)) T bP⟩
        | exact ⟨rfl, by with_reducible exact GotS.mk2 (s := (v, j)) T bP HN (Nat.le_refl _)⟩
    case rest =>
      obtain ⟨rfl, M, rfl, hM, hPx, TX⟩ := hcut
      rename World => X
      obtain ⟨k0, k1⟩ := kyC (k := (n, j)) hPx
      obtain ⟨m0, m1⟩ := mkC (s := (v, j)) hM
      go_upto_region 5 with (fail)
      go_quiet (fail)
      go_wp2
      exact bodyPost_ret (v := .tuple #[eU n, eU v, .bool true]) (by simp [results, Try.results20, go_sem]) rfl ⟨rfl, below_drewN (upp T1 TX) _⟩
end
end Go.Proofs.Ytcpienpkpodfmaa
