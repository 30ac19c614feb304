/- Acts that came in, and the row behind so many of them; a table of the call's own: the chapter's examples, and what acts make of it. No condition but words, and what a table must keep. -/
import Derived.Test.YtenghpgnhmglpaaDoorRtU
namespace Go.Proofs.YtenghpgnhmglpaaDoor
open Go.RowKit Go.Shelf
set_option linter.unusedVariables false
/-- An act: its kind, an id, a value, an id that is asked. -/
structure Ac where
  kd : Int
  id : Int
  v : Int
  ask : Int
def acC (x : Ac) : List Value := [.int .u8 x.kd, .int .i64 x.id, .int .u64 x.v, .int .i64 x.ask]
def Ac.ok (x : Ac) : Prop := (0 ≤ x.kd ∧ x.kd < 256) ∧ Inte x.id ∧ Wd x.v ∧ Inte x.ask
/-- One act on a row. -/
def stepA (L : List Im) (x : Ac) : List Im := if x.kd % 3 = 0 then putI x.id x.v L else if x.kd % 3 = 1 then setT x.id x.v L else dropT x.id L
/-- The row behind the first n acts. -/
def rowA (xs : Nat → Ac) : Nat → List Im
  | 0 => []
  | n + 1 => stepA (rowA xs n) (xs n)
theorem stepA_len (L : List Im) (x : Ac) : (stepA L x).length ≤ L.length + 1 := by
  unfold stepA
  split
  · exact put_len _ _ _
  · split
    · rw [set_len]; omega
    · have := drop_len x.id L; omega
theorem rowA_len (xs : Nat → Ac) : ∀ n, (rowA xs n).length ≤ n
  | 0 => Nat.le_refl _
  | n + 1 => by
    have h := rowA_len xs n
    have := stepA_len (rowA xs n) (xs n)
    show (stepA (rowA xs n) (xs n)).length ≤ n + 1
    omega
theorem stepA_good {L : List Im} {x : Ac} (h : Good L) (hx : x.ok) : Good (stepA L x) := by
  unfold stepA
  split
  · exact h.put hx.2.2.1
  · split
    · exact h.set hx.2.2.1
    · exact h.drop
theorem rowA_good {xs : Nat → Ac} (hx : ∀ i, (xs i).ok) : ∀ n, Good (rowA xs n)
  | 0 => Good.nil
  | n + 1 => stepA_good (rowA_good hx n) (hx n)
/-- A table of the call's own. -/
def Own1 (Tb : World → (Nat → Nat) → Nat → Nat → List Im → Prop) (w0 w : World) (B : Nat) (L : List Im) : Prop := ∃ χ, Fr w0 χ w ∧ Tb w χ 1 B L
section
variable {Tb : World → (Nat → Nat) → Nat → Nat → List Im → Prop} (hT : TbLaws Tb) {w0 w w' : World} {B : Nat} {L M : List Im}
theorem Own1.world (h : Own1 Tb w0 w B L) : Below w0.heap.size w0 w := by
  obtain ⟨χ, h1, _⟩ := h
  exact h1.world
include hT
theorem Own1.below (h : Own1 Tb w0 w B L) (k : Below w.heap.size w w') : Own1 Tb w0 w' B L := by
  obtain ⟨χ, h1, h2⟩ := h
  exact ⟨χ, h1.below k, hT.below h2 k⟩
theorem own1_new (w : World) (ht : Tab w) : Calls Tryd.prog 9 #[] w fun e w' => ∃ B, e = .returned (.pointer (some ⟨B, 0, none⟩)) ∧ Own1 Tb w w' B [] :=
  (hT.make w (fun _ => 0) 1 ht rfl (by decide)).mono fun e w' ⟨B, y1, y2, y3⟩ => ⟨B, y1, _, (Fr.start w).next (Col.new y3 1 (c := 1)) (by decide), y2⟩
theorem own1_put (k x : Int) {E : Int} (hk : Inte k) (hx : Wd x) (h : Own1 Tb w0 w B L) (hl : L.length ≤ 1000) (hE : putE k L = E) (hM : putI k x L = M) : Calls Tryd.prog 16 #[.pointer (some ⟨B, 0, none⟩), eI k, eU x] w fun e w' => e = .returned (eI E) ∧ Own1 Tb w0 w' B M := by
  obtain ⟨χ, h1, h2⟩ := h
  subst hE hM
  exact (hT.put k x h2 hk hx hl).mono fun e w' ⟨y1, χ', y2, y3⟩ => ⟨y1, χ', h1.next y2 (by decide), y3⟩
theorem own1_set (k x : Int) {E : Int} (hk : Inte k) (hx : Wd x) (h : Own1 Tb w0 w B L) (hl : L.length ≤ 1000) (hE : askE k L = E) (hM : setT k x L = M) : Calls Tryd.prog 18 #[.pointer (some ⟨B, 0, none⟩), eI k, eU x] w fun e w' => e = .returned (eI E) ∧ Own1 Tb w0 w' B M := by
  obtain ⟨χ, h1, h2⟩ := h
  subst hE hM
  exact (hT.set k x h2 hk hx hl).mono fun e w' ⟨y1, χ', y2, y3⟩ => ⟨y1, χ', h1.next y2 (by decide), y3⟩
theorem own1_drop (k : Int) {E : Int} (hk : Inte k) (h : Own1 Tb w0 w B L) (hl : L.length ≤ 1000) (hE : askE k L = E) (hM : dropT k L = M) : Calls Tryd.prog 17 #[.pointer (some ⟨B, 0, none⟩), eI k] w fun e w' => e = .returned (eI E) ∧ Own1 Tb w0 w' B M := by
  obtain ⟨χ, h1, h2⟩ := h
  subst hE hM
  exact (hT.drop k h2 hk hl).mono fun e w' ⟨y1, χ', y2, y3⟩ => ⟨y1, χ', h1.next y2 (by decide), y3⟩
theorem Own1.tells (h : Own1 Tb w0 w B L) (hl : L.length ≤ 1000) : Tells w (.pointer (some ⟨B, 0, none⟩)) L := by
  obtain ⟨χ, h1, h2⟩ := h
  exact hT.tells h2 hl
theorem own1_next (k x : Int) (b : Bool) (hk : Inte k) (h : Own1 Tb w0 w B L) (hl : L.length ≤ 1000) (hx : nextV (nextI k L) = .tuple #[eI x, .bool b]) : Calls Tryd.prog 25 #[.pointer (some ⟨B, 0, none⟩), eI k] w fun e w' => e = .returned (.tuple #[eI x, .bool b]) ∧ Own1 Tb w0 w' B L := by
  rw [← hx]
  exact ((h.tells hT hl).next k w hk (Below.refl _ _)).mono fun e w' ⟨y1, y2⟩ => ⟨y1, h.below hT y2⟩
theorem own1_get (k x : Int) (b : Bool) (hk : Inte k) (h : Own1 Tb w0 w B L) (hl : L.length ≤ 1000) (hx : (getI k L).getD 0 = x) (hb : hasI k L = b) : Calls Tryd.prog 15 #[.pointer (some ⟨B, 0, none⟩), eI k] w fun e w' => e = .returned (.tuple #[eU x, .bool b]) ∧ Own1 Tb w0 w' B L := by
  subst hx hb
  exact ((h.tells hT hl).get k w hk (Below.refl _ _)).mono fun e w' ⟨y1, y2⟩ => ⟨y1, h.below hT y2⟩
theorem own1_len {n : Int} (h : Own1 Tb w0 w B L) (hl : L.length ≤ 1000) (hn : (L.length : Int) = n) : Calls Tryd.prog 13 #[.pointer (some ⟨B, 0, none⟩)] w fun e w' => e = .returned (eI n) ∧ Own1 Tb w0 w' B L := by
  subst hn
  exact ((h.tells hT hl).len w (Below.refl _ _)).mono fun e w' ⟨y1, y2⟩ => ⟨y1, y2 ▸ h⟩
set_option maxRecDepth 100000 in
set_option maxHeartbeats 4000000 in
theorem awake_any (w : World) (ht : Tab w) : Calls Tryd.prog 22 #[] w fun e w' => e = .returned (.bool true) ∧ Below w.heap.size w w' := by
  have hN := own1_new hT w ht
  have hI : ∀ k : Int, -9223372036854775808 ≤ k ∧ k < 9223372036854775808 → Inte k := fun k h => h
  have hW : ∀ k : Int, 0 ≤ k ∧ k < 18446744073709551616 → Wd k := fun k h => h
  have i0 := hI 0 (by omega)
  have i7 := hI 7 (by omega)
  have i8 := hI 8 (by omega)
  have i3 := hI 300 (by omega)
  have i6 := hI 65536 (by omega)
  have x1 := hW 1 (by omega)
  have x2 := hW 2 (by omega)
  have x3 := hW 3 (by omega)
  have l0 : ([] : List Im).length ≤ 1000 := by decide
  have l1 : [(⟨7, 1⟩ : Im)].length ≤ 1000 := by decide
  have l2 : [(⟨7, 1⟩ : Im), ⟨300, 2⟩].length ≤ 1000 := by decide
  have a1 : putE 7 [] = 0 := by rfl
  have b1 : putI 7 1 [] = [⟨7, 1⟩] := by rfl
  have a2 : putE 300 [⟨7, 1⟩] = 0 := by rfl
  have b2 : putI 300 2 [⟨7, 1⟩] = [⟨7, 1⟩, ⟨300, 2⟩] := by rfl
  have a3 : putE 7 [⟨7, 1⟩, ⟨300, 2⟩] = 80 := by rfl
  have b3 : putI 7 3 [⟨7, 1⟩, ⟨300, 2⟩] = [⟨7, 1⟩, ⟨300, 2⟩] := by rfl
  have a4 : putE 0 [⟨7, 1⟩, ⟨300, 2⟩] = 2 := by rfl
  have b4 : putI 0 1 [⟨7, 1⟩, ⟨300, 2⟩] = [⟨7, 1⟩, ⟨300, 2⟩] := by rfl
  have a5 : putE 65536 [⟨7, 1⟩, ⟨300, 2⟩] = 2 := by rfl
  have b5 : putI 65536 1 [⟨7, 1⟩, ⟨300, 2⟩] = [⟨7, 1⟩, ⟨300, 2⟩] := by rfl
  have a6 : askE 8 [⟨7, 1⟩, ⟨300, 2⟩] = 81 := by rfl
  have b6 : setT 8 1 [⟨7, 1⟩, ⟨300, 2⟩] = [⟨7, 1⟩, ⟨300, 2⟩] := by rfl
  have n1 : nextV (nextI 0 [⟨7, 1⟩, ⟨300, 2⟩]) = .tuple #[eI 7, .bool true] := by rfl
  have n2 : nextV (nextI 7 [⟨7, 1⟩, ⟨300, 2⟩]) = .tuple #[eI 300, .bool true] := by rfl
  have n3 : nextV (nextI 300 [⟨7, 1⟩, ⟨300, 2⟩]) = .tuple #[eI 0, .bool false] := by rfl
  have g1 : (getI 7 [⟨7, 1⟩, ⟨300, 2⟩]).getD 0 = 1 := by rfl
  have g2 : hasI 7 [⟨7, 1⟩, ⟨300, 2⟩] = true := by rfl
  have k1 : (([(⟨7, 1⟩ : Im), ⟨300, 2⟩].length : Nat) : Int) = 2 := by rfl
  generalize hL1 : [(⟨7, 1⟩ : Im)] = L1 at *
  generalize hL2 : [(⟨7, 1⟩ : Im), ⟨300, 2⟩] = L2 at *
  have P1 := fun (W : World) (B : Nat) (H : Own1 Tb w W B []) => own1_put hT 7 1 i7 x1 H l0 a1 b1
  have P2 := fun (W : World) (B : Nat) (H : Own1 Tb w W B L1) => own1_put hT 300 2 i3 x2 H l1 a2 b2
  have P3 := fun (W : World) (B : Nat) (H : Own1 Tb w W B L2) => own1_put hT 7 3 i7 x3 H l2 a3 b3
  have P4 := fun (W : World) (B : Nat) (H : Own1 Tb w W B L2) => own1_put hT 0 1 i0 x1 H l2 a4 b4
  have P5 := fun (W : World) (B : Nat) (H : Own1 Tb w W B L2) => own1_put hT 65536 1 i6 x1 H l2 a5 b5
  have P6 := fun (W : World) (B : Nat) (H : Own1 Tb w W B L2) => own1_set hT 8 1 i8 x1 H l2 a6 b6
  have P7 := fun (W : World) (B : Nat) (H : Own1 Tb w W B L2) => own1_next hT 0 7 true i0 H l2 n1
  have P8 := fun (W : World) (B : Nat) (H : Own1 Tb w W B L2) => own1_next hT 7 300 true i7 H l2 n2
  have P9 := fun (W : World) (B : Nat) (H : Own1 Tb w W B L2) => own1_next hT 300 0 false i3 H l2 n3
  have Pa := fun (W : World) (B : Nat) (H : Own1 Tb w W B L2) => own1_get hT 7 1 true i7 H l2 g1 g2
  have Pb := fun (W : World) (B : Nat) (H : Own1 Tb w W B L2) => own1_len hT H l2 k1
  clear a1 a2 a3 a4 a5 a6 b1 b2 b3 b4 b5 b6 n1 n2 n3 g1 g2 k1 l0 l1 l2 i0 i3 i6 i7 i8 x1 x2 x3 hI hW hL1 hL2
  go_enter Tryd.func22, Tryd.ntmps22
  go_wp2_with (first
    | (go_at_call 9; (with_reducible refine hN.mono ?_); rintro e w1 ⟨B, rfl, H⟩)
    | (go_at_call 16; (with_reducible refine (P1 _ _ H).mono ?_); rintro e w2 ⟨rfl, H2⟩; clear P1 H)
    | (go_at_call 16; (with_reducible refine (P2 _ _ H2).mono ?_); rintro e w3 ⟨rfl, H3⟩; clear P2 H2)
    | (go_at_call 16; (with_reducible refine (P3 _ _ H3).mono ?_); rintro e w4 ⟨rfl, H4⟩; clear P3 H3)
    | (go_at_call 16; (with_reducible refine (P4 _ _ H4).mono ?_); rintro e w5 ⟨rfl, H5⟩; clear P4 H4)
    | (go_at_call 16; (with_reducible refine (P5 _ _ H5).mono ?_); rintro e w6 ⟨rfl, H6⟩; clear P5 H5)
    | (go_at_call 18; (with_reducible refine (P6 _ _ H6).mono ?_); rintro e w7 ⟨rfl, H7⟩; clear P6 H6)
    | (go_at_call 25; (with_reducible refine (P7 _ _ H7).mono ?_); rintro e w8 ⟨rfl, H8⟩; clear P7 H7)
    | (go_at_call 25; (with_reducible refine (P8 _ _ H8).mono ?_); rintro e w9 ⟨rfl, H9⟩; clear P8 H8)
    | (go_at_call 25; (with_reducible refine (P9 _ _ H9).mono ?_); rintro e wa ⟨rfl, Ha⟩; clear P9 H9)
    | (go_at_call 15; (with_reducible refine (Pa _ _ Ha).mono ?_); rintro e wb ⟨rfl, Hb⟩; clear Pa Ha)
    | (go_at_call 13; (with_reducible refine (Pb _ _ Hb).mono ?_); rintro e wc ⟨rfl, Hc⟩))
  go_ret
  exact ⟨rfl, Hc.world⟩
end
end Go.Proofs.YtenghpgnhmglpaaDoor
