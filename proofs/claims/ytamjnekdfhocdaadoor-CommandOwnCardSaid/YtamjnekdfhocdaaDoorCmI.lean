/- What a pointer leads to, read: a number, a record, part by part. No condition. -/
import Derived.Test.YtamjnekdfhocdaaDoorCmF
namespace Go.Proofs.YtamjnekdfhocdaaDoor
open Go.ChangeShapes Go.WideShapes Go.Deep Go.RowKit
set_option linter.unusedVariables false
set_option linter.unusedSimpArgs false
attribute [local go_sem] ta105_yes ta105_no ta105_nil ta106_yes ta106_no ta106_nil ta107_yes ta107_no ta107_nil ta98_yes ta98_no ta98_nil ta108_yes ta108_no ta108_nil ta96_yes ta96_no ta96_nil ta116_yes ta116_no ta116_nil ta80_yes ta80_no ta80_nil ta117_yes ta117_no ta117_nil ta100_yes ta100_no ta100_nil ta101_yes ta101_no ta101_nil
/-- All blocks that lie, but A and B, lie as they lay. -/
structure But2 (A B : Nat) (w w' : World) : Prop where
  os : w'.os = w.os
  tape : w'.tape = w.tape
  output : w'.output = w.output
  size : w.heap.size ≤ w'.heap.size
  block : ∀ k, k < w.heap.size → k ≠ A → k ≠ B → w'.heap[k]? = w.heap[k]?
theorem But2.ofA {A B : Nat} {w w' : World} (h : But A w w') : But2 A B w w' := ⟨h.os, h.tape, h.output, h.size, fun k hk h1 _ => h.block k hk h1⟩
theorem But2.ofB {A B : Nat} {w w' : World} (h : But B w w') : But2 A B w w' := ⟨h.os, h.tape, h.output, h.size, fun k hk _ h1 => h.block k hk h1⟩
theorem But2.of {A B : Nat} {w w' : World} (h : Below w.heap.size w w') : But2 A B w w' := ⟨h.os, h.tape, h.output, h.size, fun k hk _ _ => h.block k hk⟩
theorem But2.refl (A B : Nat) (w : World) : But2 A B w w := But2.of (Below.refl _ _)
theorem But2.trans {A B : Nat} {a b c : World} (h : But2 A B a b) (k : But2 A B b c) : But2 A B a c :=
  ⟨k.os.trans h.os, k.tape.trans h.tape, k.output.trans h.output, Nat.le_trans h.size k.size, fun i hi h1 h2 => (k.block i (Nat.lt_of_lt_of_le hi h.size) h1 h2).trans (h.block i hi h1 h2)⟩
theorem But2.box {A B B' : Nat} {w w' : World} {vs : Array Value} {t : TypeId} (h : But2 A B w w') (b : Box w B' vs t) (h1 : B' ≠ A) (h2 : B' ≠ B) : Box w' B' vs t := (h.block B' b.lt h1 h2).trans b
theorem But2.up {A B : Nat} {W w w' : World} (h : But2 A B w w') (T : Below W.heap.size W w) (hA : W.heap.size ≤ A) (hB : W.heap.size ≤ B) : Below W.heap.size W w' :=
  T.trans ⟨h.os, h.tape, h.output, h.size, fun k hk => h.block k (Nat.lt_of_lt_of_le hk T.size) (by omega) (by omega)⟩
def fvV : Fv → Value
  | .u n => .int .u64 (n : Int)
  | .i z => .int .i64 z
  | .b x => .bool x
def putL : List (Ft × Nat) → List Fv → Array Value → Array Value
  | (_, k) :: l, f :: fs, c => putL l fs (c.setIfInBounds k (fvV f))
  | _, _, c => c
theorem putL_size : ∀ (l : List (Ft × Nat)) (fs : List Fv) (c : Array Value), (putL l fs c).size = c.size
  | [], _, _ => rfl
  | _ :: _, [], _ => rfl
  | (_, k) :: l, f :: fs, c => by rw [putL, putL_size l fs, Array.size_setIfInBounds]
theorem putL_append : ∀ (l l' : List (Ft × Nat)) (fs fs' : List Fv) (c : Array Value), fs.length = l.length → putL (l ++ l') (fs ++ fs') c = putL l' fs' (putL l fs c)
  | [], _, [], _, _, _ => rfl
  | [], _, _ :: _, _, _, h => by cases h
  | _ :: _, _, [], _, _, h => by cases h
  | (_, k) :: l, l', f :: fs, fs', c, h => by
    rw [List.cons_append, List.cons_append, putL, putL, putL_append l l' fs fs' _ (by simpa using h)]
theorem decL_len : ∀ (l : List Ft) (s : Ey), (decL l s).length = l.length
  | [], _ => rfl
  | t :: l, s => by rw [decL, List.length_cons, List.length_cons, decL_len l]
theorem endL_append : ∀ (l l' : List Ft) (s : Ey), endL (l ++ l') s = endL l' (endL l s)
  | [], _, _ => rfl
  | t :: l, l', s => by rw [List.cons_append, endL, endL, endL_append l l']
theorem decL_append : ∀ (l l' : List Ft) (s : Ey), decL (l ++ l') s = decL l s ++ decL l' (endL l s)
  | [], _, _ => rfl
  | t :: l, l', s => by rw [List.cons_append, decL, decL, endL, decL_append l l', List.cons_append]
theorem decE_ok (t : Ft) {s : Ey} (h : s.ok) : (decE t s).ok := by
  cases t
  · exact nuE_ok h
  · exact nuE_ok h
  · exact flE_ok h
theorem decE_len (t : Ft) (s : Ey) : (decE t s).left.length ≤ s.left.length := by
  cases t
  · exact nuE_len s
  · exact nuE_len s
  · exact flE_len s
theorem endL_ok : ∀ (l : List Ft) {s : Ey}, s.ok → (endL l s).ok
  | [], _, h => h
  | t :: l, _, h => endL_ok l (decE_ok t h)
theorem endL_len : ∀ (l : List Ft) (s : Ey), (endL l s).left.length ≤ s.left.length
  | [], _ => Nat.le_refl _
  | t :: l, s => Nat.le_trans (endL_len l (decE t s)) (decE_len t s)
/-- v leads to cells of those kinds, at those places of block B. -/
def Rd (v : Value) (B : Nat) (t : TypeId) (l : List (Ft × Nat)) : Prop :=
  ∀ (W : World) (EB : Nat) (s : Ey) (c : Array Value), Eye W EB s → s.ok → s.left.length < 100000 → Box W B c t → EB ≠ B → (∀ x ∈ l, x.2 < c.size) →
    Calls Tryd.prog 36 #[ptr EB, v] W fun e W' => e = .returned unitV ∧ Eye W' EB (endL (l.map (·.1)) s) ∧ Box W' B (putL l (decL (l.map (·.1)) s) c) t ∧ But2 EB B W W'
set_option maxHeartbeats 16000000 in
set_option maxRecDepth 100000 in
theorem rd_u {B k : Nat} {t : TypeId} : Rd (.iface 96 (ptrAt B k)) B t [(.u, k)] := by
  intro W EB s c hE ho hl hB hne hin
  have hK := ENum_any hE ho (by omega)
  have hk : k < c.size := hin (.u, k) (by simp)
  obtain ⟨old, hold⟩ : ∃ v, c[k]? = some v := ⟨_, Array.getElem?_eq_getElem hk⟩
  show Calls _ _ _ _ fun e W' => _ ∧ Eye W' EB (decE .u s) ∧ Box W' B (c.setIfInBounds k (.int .u64 (nuV s.left : Int))) t ∧ But2 EB B W W'
  generalize hq : decE .u s = s2
  replace hK : Calls Tryd.prog 54 #[ptr EB] W fun e w' => e = .returned (.int .u64 (nuV s.left : Int)) ∧ Eye w' EB s2 ∧ But EB W w' := hq ▸ hK
  clear hin hq
  generalize nuV s.left = v at hK ⊢
  go_enter Tryd.func36, Tryd.ntmps36
  go_wp2_with (go_at_call 54; (with_reducible refine hK.mono ?_); rintro e w1 ⟨rfl, E1, K1⟩; have B1 := K1.box hB (Ne.symm hne); have c1 := (B1.cell k).trans hold; have f1 := B1.thaw k)
  exact ⟨rfl, .tuple #[], by simp [results, Tryd.results36, go_sem], rfl, Box.setNe E1 hne _, B1.set k _, (But2.ofA K1).trans (But2.ofB ((But.refl B _).set k _))⟩
set_option maxHeartbeats 16000000 in
set_option maxRecDepth 100000 in
theorem rd_i {B k : Nat} {t : TypeId} : Rd (.iface 98 (ptrAt B k)) B t [(.i, k)] := by
  intro W EB s c hE ho hl hB hne hin
  have hK := EInt_any hE ho (by omega)
  have hk : k < c.size := hin (.i, k) (by simp)
  obtain ⟨old, hold⟩ : ∃ v, c[k]? = some v := ⟨_, Array.getElem?_eq_getElem hk⟩
  show Calls _ _ _ _ fun e W' => _ ∧ Eye W' EB (decE .i s) ∧ Box W' B (c.setIfInBounds k (.int .i64 (sg (nuV s.left)))) t ∧ But2 EB B W W'
  generalize hq : decE .i s = s2
  replace hK : Calls Tryd.prog 55 #[ptr EB] W fun e w' => e = .returned (.int .i64 (sg (nuV s.left))) ∧ Eye w' EB s2 ∧ But EB W w' := hq ▸ hK
  clear hin hq
  generalize sg (nuV s.left) = v at hK ⊢
  go_enter Tryd.func36, Tryd.ntmps36
  go_wp2_with (go_at_call 55; (with_reducible refine hK.mono ?_); rintro e w1 ⟨rfl, E1, K1⟩; have B1 := K1.box hB (Ne.symm hne); have c1 := (B1.cell k).trans hold; have f1 := B1.thaw k)
  exact ⟨rfl, .tuple #[], by simp [results, Tryd.results36, go_sem], rfl, Box.setNe E1 hne _, B1.set k _, (But2.ofA K1).trans (But2.ofB ((But.refl B _).set k _))⟩
set_option maxHeartbeats 16000000 in
set_option maxRecDepth 100000 in
theorem rd_e {B k : Nat} {t : TypeId} : Rd (.iface 100 (ptrAt B k)) B t [(.i, k)] := by
  intro W EB s c hE ho hl hB hne hin
  have hK := EInt_any hE ho (by omega)
  have hk : k < c.size := hin (.i, k) (by simp)
  obtain ⟨old, hold⟩ : ∃ v, c[k]? = some v := ⟨_, Array.getElem?_eq_getElem hk⟩
  show Calls _ _ _ _ fun e W' => _ ∧ Eye W' EB (decE .i s) ∧ Box W' B (c.setIfInBounds k (.int .i64 (sg (nuV s.left)))) t ∧ But2 EB B W W'
  generalize hq : decE .i s = s2
  replace hK : Calls Tryd.prog 55 #[ptr EB] W fun e w' => e = .returned (.int .i64 (sg (nuV s.left))) ∧ Eye w' EB s2 ∧ But EB W w' := hq ▸ hK
  clear hin hq
  generalize sg (nuV s.left) = v at hK ⊢
  go_enter Tryd.func36, Tryd.ntmps36
  go_wp2_with (go_at_call 55; (with_reducible refine hK.mono ?_); rintro e w1 ⟨rfl, E1, K1⟩; have B1 := K1.box hB (Ne.symm hne); have c1 := (B1.cell k).trans hold; have f1 := B1.thaw k)
  exact ⟨rfl, .tuple #[], by simp [results, Tryd.results36, go_sem], rfl, Box.setNe E1 hne _, B1.set k _, (But2.ofA K1).trans (But2.ofB ((But.refl B _).set k _))⟩
set_option maxHeartbeats 16000000 in
set_option maxRecDepth 100000 in
theorem rd_b {B k : Nat} {t : TypeId} : Rd (.iface 101 (ptrAt B k)) B t [(.b, k)] := by
  intro W EB s c hE ho hl hB hne hin
  have hK := EFlag_any hE
  have hk : k < c.size := hin (.b, k) (by simp)
  obtain ⟨old, hold⟩ : ∃ v, c[k]? = some v := ⟨_, Array.getElem?_eq_getElem hk⟩
  show Calls _ _ _ _ fun e W' => _ ∧ Eye W' EB (decE .b s) ∧ Box W' B (c.setIfInBounds k (.bool (flV s.left))) t ∧ But2 EB B W W'
  generalize hq : decE .b s = s2
  replace hK : Calls Tryd.prog 56 #[ptr EB] W fun e w' => e = .returned (.bool (flV s.left)) ∧ Eye w' EB s2 ∧ But EB W w' := hq ▸ hK
  clear hin hq
  generalize flV s.left = v at hK ⊢
  go_enter Tryd.func36, Tryd.ntmps36
  go_wp2_with (go_at_call 56; (with_reducible refine hK.mono ?_); rintro e w1 ⟨rfl, E1, K1⟩; have B1 := K1.box hB (Ne.symm hne); have c1 := (B1.cell k).trans hold; have f1 := B1.thaw k)
  exact ⟨rfl, .tuple #[], by simp [results, Tryd.results36, go_sem], rfl, Box.setNe E1 hne _, B1.set k _, (But2.ofA K1).trans (But2.ofB ((But.refl B _).set k _))⟩
set_option maxHeartbeats 16000000 in
set_option maxRecDepth 100000 in
theorem rd_rec {T : TypeId} {p : Value} {B : Nat} {t : TypeId} {vs : List Value} {ll : List (List (Ft × Nat))} (h96 : T ≠ 96) (h98 : T ≠ 98) (h100 : T ≠ 100) (h101 : T ≠ 101)
    (hp : ∀ w, Calls Tryd.prog 48 #[.iface T p] w fun e w' => e = .returned (.slice (some ⟨w.heap.size, 0, none⟩) vs.length vs.length) ∧ Box w' w.heap.size vs.toArray 20 ∧ Below w.heap.size w w')
    (hw : ∀ (j : Nat) (v : Value), vs[j]? = some v → ∃ b, ll[j]? = some b ∧ Rd v B t b) (hsm : vs.length < 1000) : Rd (.iface T p) B t (ll.take vs.length).flatten := by
  intro W EB s c hE ho hl hB hne hin
  obtain ⟨n, hn⟩ : ∃ n, vs.length = n := ⟨_, rfl⟩
  have hK := hp W
  rw [hn] at hK hsm hin ⊢
  have hEB := hE.lt
  have hBB := hB.lt
  clear hp
  have hq : ∀ j, j < n → ∃ v b, vs[j]? = some v ∧ (ll.take (j + 1)).flatten = (ll.take j).flatten ++ b ∧ (∀ x ∈ b, x.2 < c.size) ∧ Rd v B t b := fun j hj => by
    obtain ⟨b, hb, hwb⟩ := hw j _ (List.getElem?_eq_getElem (by omega))
    refine ⟨_, b, List.getElem?_eq_getElem (by omega), ?_, fun x hx => hin x ?_, hwb⟩
    · rw [List.take_add_one, hb]
      simp
    · exact List.mem_flatten.2 ⟨b, List.mem_of_getElem? (i := j) (by rw [List.getElem?_take, if_pos hj]; exact hb), hx⟩
  clear hin hw hn
  replace hq := Lib.hid hq
  obtain ⟨sE, hsE⟩ : ∃ x, endL ((ll.take n).flatten.map (·.1)) s = x := ⟨_, rfl⟩
  obtain ⟨cE, hcE⟩ : ∃ x, putL (ll.take n).flatten (decL ((ll.take n).flatten.map (·.1)) s) c = x := ⟨_, rfl⟩
  rw [hsE, hcE]
  replace hsE := Lib.hid hsE
  replace hcE := Lib.hid hcE
  go_enter Tryd.func36, Tryd.ntmps36
  go_wp2_with (go_at_call 48; (with_reducible refine hK.mono ?_); rintro e w1 ⟨rfl, G1, T1⟩)
  clear hK
  have E1 : Eye w1 EB s := hE.below T1
  have B1 := hB.below T1
  clear hE hB
  go_loopw [15] (fun s15 wr => ∃ j : Nat, s15 = .int .i64 j ∧ j ≤ n ∧ Eye wr EB (endL ((ll.take j).flatten.map (·.1)) s) ∧ Box wr W.heap.size vs.toArray 20 ∧ Box wr B (putL (ll.take j).flatten (decL ((ll.take j).flatten.map (·.1)) s) c) t ∧ But2 EB B W wr) (fun s15 _ => n - (intOf s15).toNat)
  case atStart => exact ⟨0, rfl, Nat.zero_le _, E1, G1, B1, But2.of T1⟩
  case round =>
    clear E1 G1 B1 T1
    obtain ⟨j, rfl, hj, E2, G2, B2, K2⟩ := hrel
    by_cases hlt : j < n
    · have j0 : (j : Int) < (n : Int) := by omega
      obtain ⟨v, b, hv, hb, hbs, hwb⟩ := hq.out j hlt
      have hcell : wr.cell? ⟨W.heap.size, j, none⟩ = some v := (G2.cell j).trans (by simpa using hv)
      have hC := hwb wr EB _ _ E2 (endL_ok _ ho) (Nat.lt_of_le_of_lt (endL_len _ s) hl) B2 hne (by rw [putL_size]; exact hbs)
      rw [← endL_append, ← List.map_append, ← hb, ← putL_append _ _ _ _ _ (by rw [decL_len, List.length_map]), ← decL_append, ← List.map_append, ← hb] at hC
      have hgE : W.heap.size ≠ EB := Ne.symm (Nat.ne_of_lt hEB)
      have hgB : W.heap.size ≠ B := Ne.symm (Nat.ne_of_lt hBB)
      clear hv hb hbs hwb E2 B2
      go_wp2_with (go_at_call 36; (with_reducible refine hC.mono ?_); rintro e w3 ⟨rfl, E3, B3, K3⟩)
      go_roundw
      case rel => exact ⟨j + 1, by simp, hlt, E3, K3.box G2 hgE hgB, B3, K2.trans K3⟩
      case measure => simp only [intOf]; omega
    · obtain rfl : j = n := by omega
      have j0 : ¬ (j : Int) < (j : Int) := by omega
      rw [hsE.out] at E2
      rw [hcE.out] at B2
      go_wp2
      exact ⟨rfl, .tuple #[], by simp [results, Tryd.results36, go_sem], rfl, E2, B2, K2⟩
end Go.Proofs.YtamjnekdfhocdaaDoor
