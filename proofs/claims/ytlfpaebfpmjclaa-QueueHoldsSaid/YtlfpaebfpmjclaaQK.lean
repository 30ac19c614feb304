/- Several objects side by side, told apart by colours of their blocks; a queue's calls by the row that it holds; what Same answers of equal rows. No condition. -/
import Derived.Test.YtlfpaebfpmjclaaQJ
namespace Go.Proofs.Ytlfpaebfpmjclaa
open Go.RowKit
set_option linter.unusedVariables false
/-- Blocks that lie keep their colours; those of another colour than c lie as they lay. -/
structure Col (χ χ' : Nat → Nat) (c : Nat) (w w' : World) : Prop where
  os : w'.os = w.os
  tape : w'.tape = w.tape
  output : w'.output = w.output
  size : w.heap.size ≤ w'.heap.size
  col : ∀ k, k < w.heap.size → χ' k = χ k
  block : ∀ k, k < w.heap.size → χ k ≠ c → w'.heap[k]? = w.heap[k]?
/-- What is new gets a colour. -/
def recol (χ : Nat → Nat) (n c : Nat) : Nat → Nat := fun k => if k < n then χ k else c
theorem recol_lt {χ : Nat → Nat} {n c k : Nat} (h : k < n) : recol χ n c k = χ k := by unfold recol; rw [if_pos h]
theorem recol_ge {χ : Nat → Nat} {n c k : Nat} (h : n ≤ k) : recol χ n c k = c := by unfold recol; rw [if_neg (by omega)]
section
variable {w0 w w' w'' : World} {χ χ' χ'' : Nat → Nat} {c d : Nat}
theorem Col.of (h : Below w.heap.size w w') : Col χ χ c w w' := ⟨h.os, h.tape, h.output, h.size, fun _ _ => rfl, fun k hk _ => h.block k hk⟩
theorem Col.new (h : Below w.heap.size w w') (d : Nat) : Col χ (recol χ w.heap.size d) c w w' := ⟨h.os, h.tape, h.output, h.size, fun _ hk => recol_lt hk, fun k hk _ => h.block k hk⟩
theorem Col.off {S : Nat → Prop} (h : Off S w w') (hS : ∀ k, S k → χ k = c) : Col χ (recol χ w.heap.size c) c w w' :=
  ⟨h.os, h.tape, h.output, h.size, fun _ hk => recol_lt hk, fun k hk hn => h.block k hk (fun hs => hn (hS k hs))⟩
theorem Col.trans (h : Col χ χ' c w w') (k : Col χ' χ'' c w' w'') : Col χ χ'' c w w'' :=
  ⟨k.os.trans h.os, k.tape.trans h.tape, k.output.trans h.output, Nat.le_trans h.size k.size, fun i hi => (k.col i (Nat.lt_of_lt_of_le hi h.size)).trans (h.col i hi),
   fun i hi hn => (k.block i (Nat.lt_of_lt_of_le hi h.size) (by rw [h.col i hi]; exact hn)).trans (h.block i hi hn)⟩
/-- What lay ahead of the call has the colour 0, and lies as it lay. -/
structure Fr (w0 : World) (χ : Nat → Nat) (w : World) : Prop where
  zero : ∀ k, k < w0.heap.size → χ k = 0
  world : Below w0.heap.size w0 w
theorem Fr.start (w0 : World) : Fr w0 (fun _ => 0) w0 := ⟨fun _ _ => rfl, Below.refl _ _⟩
theorem Fr.next (h : Fr w0 χ w) (k : Col χ χ' c w w') (hc : c ≠ 0) : Fr w0 χ' w' :=
  ⟨fun i hi => (k.col i (Nat.lt_of_lt_of_le hi h.world.size)).trans (h.zero i hi), h.world.trans ⟨k.os, k.tape, k.output, k.size, fun i hi => k.block i (Nat.lt_of_lt_of_le hi h.world.size) (by rw [h.zero i hi]; exact fun e => hc e.symm)⟩⟩
theorem Fr.below (h : Fr w0 χ w) (k : Below w.heap.size w w') : Fr w0 χ w' := ⟨h.zero, ups h.world k h.world.size⟩
/-- Block B is a queue of colour c. -/
def Qu (w : World) (χ : Nat → Nat) (c B : Nat) (P R : Int) (L : List Pk) : Prop := ∃ v n f D, Qr w B P R L v n f D ∧ χ B = c ∧ ∀ g, v.ownBlock = some g → χ g = c
/-- A row of packets of colour c. -/
def Ro (w : World) (χ : Nat → Nat) (c : Nat) (v : Value) (X : List Pk) : Prop := w.ownsRow 0 31 4 v X.length (rowV X) ∧ ∀ g, v.ownBlock = some g → χ g = c
/-- A block of colour c. -/
def Bx (w : World) (χ : Nat → Nat) (c N : Nat) (vs : Array Value) (t : TypeId) : Prop := Box w N vs t ∧ χ N = c
variable {B : Nat} {P R : Int} {L X : List Pk} {v : Value}
theorem Qu.other (h : Qu w χ c B P R L) (k : Col χ χ' d w w') (hd : c ≠ d) : Qu w' χ' c B P R L := by
  obtain ⟨v, n, f, D, h1, h2, h3⟩ := h
  have hB := h1.box.lt
  have hv := fun g (e : v.ownBlock = some g) => (h1.row.lt g e).2
  have hO : Off (fun i => χ i = d) w w' := ⟨k.os, k.tape, k.output, k.size, fun i hi hn => k.block i hi hn⟩
  exact ⟨v, n, f, D, h1.off hO (by rw [h2]; exact hd) (fun g hg => by rw [h3 g hg]; exact hd), (k.col B hB).trans h2, fun g hg => (k.col g (hv g hg)).trans (h3 g hg)⟩
theorem Qu.below (h : Qu w χ c B P R L) (k : Below w.heap.size w w') : Qu w' χ c B P R L := by
  obtain ⟨v, n, f, D, h1, h2, h3⟩ := h
  exact ⟨v, n, f, D, h1.below k, h2, h3⟩
theorem Qu.new (h : Qu w χ c B P R L) (k : Below w.heap.size w w') (d : Nat) : Qu w' (recol χ w.heap.size d) c B P R L := by
  obtain ⟨v, n, f, D, h1, h2, h3⟩ := h
  have hB := h1.box.lt
  have hv := fun g (e : v.ownBlock = some g) => (h1.row.lt g e).2
  exact ⟨v, n, f, D, h1.below k, (recol_lt hB).trans h2, fun g hg => (recol_lt (hv g hg)).trans (h3 g hg)⟩
theorem Ro.other (h : Ro w χ c v X) (k : Col χ χ' d w w') (hd : c ≠ d) : Ro w' χ' c v X := by
  have hv := fun g (e : v.ownBlock = some g) => (h.1.lt g e).2
  have hO : Off (fun i => χ i = d) w w' := ⟨k.os, k.tape, k.output, k.size, fun i hi hn => k.block i hi hn⟩
  exact ⟨hO.owns h.1 (fun g hg => by rw [h.2 g hg]; exact hd), fun g hg => (k.col g (hv g hg)).trans (h.2 g hg)⟩
theorem Ro.below (h : Ro w χ c v X) (k : Below w.heap.size w w') : Ro w' χ c v X := ⟨own_below h.1 k, h.2⟩
theorem Ro.new (h : Ro w χ c v X) (k : Below w.heap.size w w') (d : Nat) : Ro w' (recol χ w.heap.size d) c v X :=
  ⟨own_below h.1 k, fun g hg => (recol_lt (h.1.lt g hg).2).trans (h.2 g hg)⟩
theorem Ro.nil (w : World) (χ : Nat → Nat) (c : Nat) : Ro w χ c (.slice none 0 0) [] := ⟨World.ownsRow_nil _ _ _ _, fun g hg => by simp [Value.ownBlock] at hg⟩
/-- A row that was made now. -/
theorem Ro.made (h : w'.ownsRow w.heap.size 31 4 v X.length (rowV X)) (d : Nat) : Ro w' (recol χ w.heap.size d) d v X :=
  ⟨own_mono h (Nat.zero_le _), fun g hg => recol_ge (h.lt g hg).1⟩
theorem Bx.other {N : Nat} {vs : Array Value} {t : TypeId} (h : Bx w χ c N vs t) (k : Col χ χ' d w w') (hd : c ≠ d) : Bx w' χ' c N vs t :=
  ⟨(k.block N h.1.lt (by rw [h.2]; exact hd)).trans h.1, (k.col N h.1.lt).trans h.2⟩
theorem Bx.below {N : Nat} {vs : Array Value} {t : TypeId} (h : Bx w χ c N vs t) (k : Below w.heap.size w w') : Bx w' χ c N vs t := ⟨h.1.below k, h.2⟩
theorem qu_push (h : Qu w χ c B P R L) (p : Pk) (hok : p.ok) : Calls Try.prog 14 #[.pointer (some ⟨B, 0, none⟩), pkV p] w fun e w' => e = .returned (eI (pushE P R L p)) ∧ ∃ χ', Qu w' χ' c B P R (pushL P R L p) ∧ Col χ χ' c w w' := by
  obtain ⟨v, n, f, D, h1, h2, h3⟩ := h
  by_cases hp : p.len < 1 ∨ 65535 < p.len
  · refine (Push_bad p h1 hp).mono fun e w' ⟨x, y⟩ => ?_
    rw [pushE_len hp, pushL_no (by rw [pushE_len hp]; decide)]
    exact ⟨x, χ, ⟨v, n, f, D, h1.below y, h2, h3⟩, Col.of y⟩
  · by_cases hF : P ≤ (L.length : Int) ∨ R < bsum L + p.len
    · refine (Push_full p h1 hp hF).mono fun e w' ⟨x, y⟩ => ?_
      rw [pushE_full hp hF, pushL_no (by rw [pushE_full hp hF]; decide)]
      exact ⟨x, χ, ⟨v, n, f, D, h1.below y, h2, h3⟩, Col.of y⟩
    · refine (Push_ok p hok h1 hp hF).mono fun e w' ⟨x, ⟨v2, n2, f2, D2, y1, y2⟩, y3⟩ => ?_
      rw [pushE_ok hp hF, pushL_ok (pushE_ok hp hF)]
      refine ⟨x, recol χ w.heap.size c, ⟨v2, n2, f2, D2, y1, (recol_lt h1.box.lt).trans h2, fun g hg => ?_⟩, Col.off y3 (fun k hk => ?_)⟩
      · rcases y2 with e | ⟨g', e, hg'⟩
        · rw [e] at hg; exact (recol_lt (h1.row.lt g hg).2).trans (h3 g hg)
        · rw [e] at hg; cases hg; exact recol_ge (by omega)
      · rcases hk with rfl | hk
        · exact h2
        · exact h3 k hk
theorem qu_pop (h : Qu w χ c B P R L) : Calls Try.prog 13 #[.pointer (some ⟨B, 0, none⟩)] w fun e w' => e = .returned (.tuple #[pkV (headP L), .bool (headB L)]) ∧ ∃ χ', Qu w' χ' c B P R L.tail ∧ Col χ χ' c w w' := by
  obtain ⟨v, n, f, D, h1, h2, h3⟩ := h
  cases L with
  | nil => exact (Pop_none h1).mono fun e w' ⟨x, y⟩ => ⟨x, χ, ⟨v, n, f, D, h1.below y, h2, h3⟩, Col.of y⟩
  | cons p L =>
    refine (Pop_some p h1).mono fun e w' ⟨x, ⟨f', D', y1⟩, y3⟩ => ⟨x, recol χ w.heap.size c, ⟨v, n, f', D', y1, (recol_lt h1.box.lt).trans h2, fun g hg => (recol_lt (h1.row.lt g hg).2).trans (h3 g hg)⟩, Col.off y3 (fun k hk => ?_)⟩
    rcases hk with rfl | hk
    · exact h2
    · exact h3 k hk
theorem qu_head (h : Qu w χ c B P R L) : Calls Try.prog 17 #[.pointer (some ⟨B, 0, none⟩)] w fun e w' => e = .returned (.tuple #[pkV (headP L), .bool (headB L)]) ∧ Below w.heap.size w w' := by
  obtain ⟨v, n, f, D, h1, h2, h3⟩ := h
  cases L with
  | nil => exact Head_none h1
  | cons p L => exact Head_some p h1
theorem qu_len (h : Qu w χ c B P R L) : Calls Try.prog 19 #[.pointer (some ⟨B, 0, none⟩)] w fun e w' => e = .returned (eI L.length) ∧ w = w' := by
  obtain ⟨v, n, f, D, h1, h2, h3⟩ := h
  exact Len_any h1
theorem qu_bytes (h : Qu w χ c B P R L) : Calls Try.prog 20 #[.pointer (some ⟨B, 0, none⟩)] w fun e w' => e = .returned (eI (bsum L)) ∧ w = w' := by
  obtain ⟨v, n, f, D, h1, h2, h3⟩ := h
  exact Bytes_any h1
theorem qu_room (h : Qu w χ c B P R L) : Calls Try.prog 18 #[.pointer (some ⟨B, 0, none⟩)] w fun e w' => e = .returned (.tuple #[eI (P - L.length), eI (R - bsum L)]) ∧ Below w.heap.size w w' := by
  obtain ⟨v, n, f, D, h1, h2, h3⟩ := h
  exact Room_any h1
theorem qu_all (h : Qu w χ c B P R L) : Calls Try.prog 21 #[.pointer (some ⟨B, 0, none⟩)] w fun e w' => ∃ u, e = .returned u ∧ w'.ownsRow w.heap.size 31 4 u L.length (rowV L) ∧ Below w.heap.size w w' := by
  obtain ⟨v, n, f, D, h1, h2, h3⟩ := h
  exact All_any h1
theorem qu_copy (h : Qu w χ c B P R L) (d : Nat) : Calls Try.prog 11 #[.pointer (some ⟨B, 0, none⟩)] w fun e w' => ∃ C, e = .returned (.pointer (some ⟨C, 0, none⟩)) ∧ Qu w' (recol χ w.heap.size d) d C P R L ∧ Below w.heap.size w w' := by
  obtain ⟨v, n, f, D, h1, h2, h3⟩ := h
  exact (Copy_any h1).mono fun e w' ⟨C, u, x, y, z, t, b⟩ => ⟨C, x, ⟨u, _, _, _, z, recol_ge y, fun g hg => recol_ge (t g hg)⟩, b⟩
theorem qu_new (w : World) (χ : Nat → Nat) (c : Nat) (hP : roomy P R) : Calls Try.prog 9 #[eI P, eI R] w fun e w' => ∃ C, e = .returned (.pointer (some ⟨C, 0, none⟩)) ∧ Qu w' (recol χ w.heap.size c) c C P R [] ∧ Below w.heap.size w w' :=
  (New_ok P R w hP).mono fun e w' ⟨x, y⟩ => ⟨_, x, by rw [← y]; exact ⟨_, _, _, _, Qr.new w hP, recol_ge (Nat.le_refl _), fun g hg => by simp [Value.ownBlock] at hg⟩, by rw [← y]; exact up1 _ _⟩
theorem Qu.fit (h : Qu w χ c B P R L) : Fit P R L ∧ roomy P R := by
  obtain ⟨v, n, f, D, h1, h2, h3⟩ := h
  exact ⟨h1.fit, h1.hP, h1.hR⟩
end
set_option maxHeartbeats 4000000 in
set_option maxRecDepth 100000 in
/-- Of equal rows Same is true. -/
theorem Same_true (u v : Value) (X : List Pk) (w : World) (hl : X.length ≤ 5000) (hu : w.ownsRow 0 31 4 u X.length (rowV X)) (hv : w.ownsRow 0 31 4 v X.length (rowV X)) :
    Calls Try.prog 23 #[u, v] w fun e w' => e = .returned (.bool true) ∧ Below w.heap.size w w' := by
  obtain ⟨a, ca, rfl, hca, _⟩ := own_len hu
  obtain ⟨b, cb, rfl, hcb, _⟩ := own_len hv
  have hx : ∀ (k : Nat) (hk : k < X.length) w', Below w.heap.size w w' → ∃ g g', a = some ⟨g, 0, none⟩ ∧ b = some ⟨g', 0, none⟩ ∧ PkC w' g (k * 4) X[k] ∧ PkC w' g' (k * 4) X[k] := fun k hk w' hb => by
    obtain ⟨g, cap, cur, e, _, _, _, _, _, hc⟩ := own_some (own_below hu hb) (by omega)
    obtain ⟨g', cap', cur', e', _, _, _, _, _, hc'⟩ := own_some (own_below hv hb) (by omega)
    cases e; cases e'
    exact ⟨g, g', rfl, rfl, own_at (base := 0) (cap := ca) hc k _ (List.getElem?_eq_getElem hk), own_at (base := 0) (cap := cb) hc' k _ (List.getElem?_eq_getElem hk)⟩
  replace hx := Lib.hid hx
  obtain ⟨n, hn⟩ : ∃ n, X.length = n := ⟨_, rfl⟩
  have hn' := Lib.hid hn
  rw [hn] at hl hca hcb ⊢
  clear hu hv hn
  have j1 : (n : Int) ≤ (ca : Int) := by omega
  have j2 : (n : Int) ≤ (cb : Int) := by omega
  go_enter Try.func23, Try.ntmps23
  go_wp2
  go_loopw [5] (fun s5 wr => ∃ k : Nat, s5 = .int .i64 k ∧ k ≤ n ∧ Below w.heap.size w wr) (fun s5 _ => n - (intOf s5).toNat)
  case atStart => exact ⟨0, rfl, by omega, Below.refl _ _⟩
  case round =>
    obtain ⟨k, rfl, hk, T⟩ := hrel
    by_cases hlt : k < n
    · have i1 : (k : Int) < (n : Int) := by omega
      have i2 : (0 : Int) ≤ (k : Int) := by omega
      have hw1 : IntKind.i64.wrap ((k : Int) + 1) = (k : Int) + 1 := i64_id (by omega)
      obtain ⟨g, g', rfl, rfl, ⟨x0, x1, x2, x3⟩, y0, y1, y2, y3⟩ := hx.out k (by rw [hn'.out]; exact hlt) wr T
      generalize X[k]'(by rw [hn'.out]; exact hlt) = p at *
      go_upto_region 6 with fail
      go_region
      all_goals go_wp2
      all_goals exact ⟨⟨k + 1, rfl, by omega, T.drew⟩, by simp [intOf]; omega⟩
    · obtain rfl : k = n := by omega
      have i1 : ¬ (k : Int) < (k : Int) := by omega
      go_wp2
      go_ret
      exact ⟨rfl, T⟩
end Go.Proofs.Ytlfpaebfpmjclaa
