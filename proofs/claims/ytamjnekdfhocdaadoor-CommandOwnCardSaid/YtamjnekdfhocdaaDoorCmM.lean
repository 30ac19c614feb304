/- Commands and replies as rows of numbers, signed numbers, flags; their bytes, and what is read from bytes: in plain numbers. No condition. -/
import Derived.Test.YtamjnekdfhocdaaDoorObM
namespace Go.Proofs.YtamjnekdfhocdaaDoor
set_option linter.unusedVariables false
/-- What one field tells: a number, a signed one, a flag; and which of them it is. -/
inductive Fv where
  | u (n : Nat)
  | i (z : Int)
  | b (x : Bool)
inductive Ft where
  | u
  | i
  | b
def Fv.ok : Fv → Prop
  | .u n => n < 18446744073709551616
  | .i z => -9223372036854775808 ≤ z ∧ z < 9223372036854775808
  | .b _ => True
def Fv.ty : Fv → Ft
  | .u _ => .u
  | .i _ => .i
  | .b _ => .b
def encF : Fv → List UInt8
  | .u n => numL n
  | .i z => numL (zg z)
  | .b x => [if x then 1 else 0]
noncomputable def decV : Ft → List UInt8 → Fv
  | .u, S => .u (nuV S)
  | .i, S => .i (sg (nuV S))
  | .b, S => .b (flV S)
noncomputable def decE : Ft → Ey → Ey
  | .u, s => nuE s
  | .i, s => nuE s
  | .b, s => flE s
def encL : List Fv → List UInt8
  | [] => []
  | f :: l => encF f ++ encL l
noncomputable def decL : List Ft → Ey → List Fv
  | [], _ => []
  | t :: l, s => decV t s.left :: decL l (decE t s)
noncomputable def endL : List Ft → Ey → Ey
  | [], s => s
  | t :: l, s => endL l (decE t s)
theorem num_at {S : List UInt8} {n : Nat} {R : List UInt8} (h : rdNum S = some (n, R)) (b : Bool) : nuV S = n ∧ nuE ⟨S, b⟩ = ⟨R, b⟩ := by
  unfold nuV nuE
  simp only [h, and_self]
theorem num_no {S : List UInt8} (h : rdNum S = none) (b : Bool) : nuE ⟨S, b⟩ = Ey.fail := by unfold nuE; simp only [h]
theorem dec_enc (f : Fv) (h : f.ok) (R : List UInt8) : decV f.ty (encF f ++ R) = f ∧ decE f.ty ⟨encF f ++ R, false⟩ = ⟨R, false⟩ := by
  cases f with
  | u n =>
    obtain ⟨a, b⟩ := num_at (rdNum_num h R) false
    exact ⟨congrArg Fv.u a, b⟩
  | i z =>
    obtain ⟨a, b⟩ := num_at (rdNum_num (zg_lt h) R) false
    refine ⟨?_, b⟩
    show Fv.i (sg (nuV (numL (zg z) ++ R))) = _
    rw [a, sg_zg]
  | b x => cases x <;> exact ⟨rfl, rfl⟩
theorem key_num {S : List UInt8} (h : (nuE ⟨S, false⟩).bad = false) : S = numL (nuV S) ++ (nuE ⟨S, false⟩).left := by
  cases hr : rdNum S with
  | none => rw [num_no hr] at h; cases h
  | some p =>
    obtain ⟨n, R⟩ := p
    obtain ⟨a, b⟩ := num_at hr false
    rw [a, b]
    exact (rdNum_some hr).2
theorem key_flag {S : List UInt8} (h : (flE ⟨S, false⟩).bad = false) : S = [if flV S then 1 else 0] ++ (flE ⟨S, false⟩).left := by
  cases S with
  | nil => cases h
  | cons b R =>
    unfold flE at h ⊢
    by_cases h1 : 1 < byV (Ey.mk (b :: R) false).left
    · rw [if_pos h1] at h; cases h
    · rw [if_neg h1]
      have hb : b.toNat ≤ 1 := Nat.le_of_not_lt h1
      show b :: R = [_] ++ R
      congr 1
      unfold flV byV
      rcases (by omega : b.toNat = 0 ∨ b.toNat = 1) with e | e
      · have : b = 0 := UInt8.toNat_inj.1 e
        subst this; rfl
      · have : b = 1 := UInt8.toNat_inj.1 e
        subst this; rfl
theorem enc_dec (t : Ft) (S : List UInt8) (h : (decE t ⟨S, false⟩).bad = false) : S = encF (decV t S) ++ (decE t ⟨S, false⟩).left ∧ (decV t S).ok ∧ (decV t S).ty = t := by
  cases t with
  | u => exact ⟨key_num h, nuV_lt S, rfl⟩
  | i =>
    refine ⟨?_, sg_lt (nuV_lt S), rfl⟩
    show S = numL (zg (sg (nuV S))) ++ _
    rw [zg_sg]
    exact key_num h
  | b => exact ⟨key_flag h, trivial, rfl⟩
theorem decE_fail (t : Ft) : decE t Ey.fail = Ey.fail := by
  have h : nuE Ey.fail = Ey.fail := num_no rdNum_nil true
  cases t
  · exact h
  · exact h
  · rfl
theorem decE_bad {t : Ft} {S : List UInt8} (h : (decE t ⟨S, false⟩).bad = true) : decE t ⟨S, false⟩ = Ey.fail := by
  have hn : (nuE ⟨S, false⟩).bad = true → nuE ⟨S, false⟩ = Ey.fail := fun h => by
    cases hr : rdNum S with
    | none => exact num_no hr false
    | some p =>
      obtain ⟨n, R⟩ := p
      rw [(num_at hr false).2] at h
      cases h
  cases t
  · exact hn h
  · exact hn h
  · show flE ⟨S, false⟩ = Ey.fail
    have h : (flE ⟨S, false⟩).bad = true := h
    unfold flE at h ⊢
    by_cases h1 : 1 < byV (Ey.mk S false).left
    · rw [if_pos h1]
    · rw [if_neg h1] at h ⊢
      cases S with
      | nil => rfl
      | cons b R => cases h
theorem endL_fail : ∀ l, endL l Ey.fail = Ey.fail
  | [] => rfl
  | t :: l => by rw [endL, decE_fail, endL_fail l]
theorem decL_encL : ∀ (l : List Fv) (R : List UInt8), (∀ f ∈ l, f.ok) → decL (l.map Fv.ty) ⟨encL l ++ R, false⟩ = l ∧ endL (l.map Fv.ty) ⟨encL l ++ R, false⟩ = ⟨R, false⟩
  | [], R, _ => ⟨rfl, rfl⟩
  | f :: l, R, h => by
    obtain ⟨a, b⟩ := dec_enc f (h f (by simp)) (encL l ++ R)
    obtain ⟨c, d⟩ := decL_encL l R (fun g hg => h g (by simp [hg]))
    rw [List.map_cons, encL, List.append_assoc, decL, endL]
    simp only
    rw [a, b, c, d]
    exact ⟨rfl, rfl⟩
theorem encL_decL : ∀ (l : List Ft) (S : List UInt8), (endL l ⟨S, false⟩).bad = false → S = encL (decL l ⟨S, false⟩) ++ (endL l ⟨S, false⟩).left ∧ (∀ f ∈ decL l ⟨S, false⟩, f.ok) ∧ (decL l ⟨S, false⟩).map Fv.ty = l
  | [], S, _ => ⟨rfl, (fun f h => by cases h), rfl⟩
  | t :: l, S, h => by
    rw [endL] at h ⊢
    rw [decL]
    cases hb : (decE t ⟨S, false⟩).bad with
    | true =>
      rw [decE_bad hb, endL_fail] at h
      cases h
    | false =>
      obtain ⟨a, b, c⟩ := enc_dec t S hb
      obtain ⟨R, hR⟩ : ∃ R, (decE t ⟨S, false⟩).left = R := ⟨_, rfl⟩
      have hs : decE t ⟨S, false⟩ = ⟨R, false⟩ := by
        cases hd : decE t ⟨S, false⟩ with
        | mk x y => rw [hd] at hR hb; subst hR; subst hb; rfl
      rw [hs] at h ⊢
      obtain ⟨d, e, g⟩ := encL_decL l R h
      rw [hR] at a
      refine ⟨?_, ?_, ?_⟩
      · rw [encL, List.append_assoc, ← d]; exact a
      · intro f hf
        rcases List.mem_cons.1 hf with rfl | hf
        · exact b
        · exact e f hf
      · rw [List.map_cons, c, g]
/-- A command. -/
structure Cm where
  k : Nat
  rate : Nat
  most : Int
  hor : Nat
  si : Int
  sq : Int
  lf : Bool
  r0 : Nat
  r1 : Nat
  r2 : Nat
  s0 : Nat
  s1 : Nat
  s2 : Nat
  u0 : Nat
  u1 : Nat
  u2 : Nat
  pk : Int
  bt : Int
  id : Int
  pid : Nat
  pc : Int
  pl : Int
  pa : Nat
  to : Nat
deriving DecidableEq
def Cm.zero (k : Nat) : Cm := ⟨k, 0, 0, 0, 0, 0, false, 0, 0, 0, 0, 0, 0, 0, 0, 0, 0, 0, 0, 0, 0, 0, 0, 0⟩
/-- What each kind has. -/
def tyC (k : Nat) : List Ft :=
  if k = 1 then [.u, .i, .u] else if k = 2 then [.i, .i, .b, .u, .u, .u, .u, .u, .u, .u, .u, .u, .i, .i] else if k = 3 then [.i, .u, .u, .u, .u, .u, .u, .u, .u, .u]
  else if k = 5 then [.u, .i, .i, .u] else if k = 6 then [.u] else [.i]
def hasC (c : Cm) : List Fv :=
  if c.k = 1 then [.u c.rate, .i c.most, .u c.hor] else if c.k = 2 then [.i c.si, .i c.sq, .b c.lf, .u c.r0, .u c.r1, .u c.r2, .u c.s0, .u c.s1, .u c.s2, .u c.u0, .u c.u1, .u c.u2, .i c.pk, .i c.bt]
  else if c.k = 3 then [.i c.si, .u c.r0, .u c.r1, .u c.r2, .u c.s0, .u c.s1, .u c.s2, .u c.u0, .u c.u1, .u c.u2]
  else if c.k = 5 then [.u c.pid, .i c.pc, .i c.pl, .u c.pa] else if c.k = 6 then [.u c.to] else [.i c.id]
def ownC (c : Cm) : Cm :=
  if c.k = 1 then { Cm.zero c.k with rate := c.rate, most := c.most, hor := c.hor }
  else if c.k = 2 then { Cm.zero c.k with si := c.si, sq := c.sq, lf := c.lf, r0 := c.r0, r1 := c.r1, r2 := c.r2, s0 := c.s0, s1 := c.s1, s2 := c.s2, u0 := c.u0, u1 := c.u1, u2 := c.u2, pk := c.pk, bt := c.bt }
  else if c.k = 3 then { Cm.zero c.k with si := c.si, r0 := c.r0, r1 := c.r1, r2 := c.r2, s0 := c.s0, s1 := c.s1, s2 := c.s2, u0 := c.u0, u1 := c.u1, u2 := c.u2 }
  else if c.k = 4 ∨ c.k = 7 then { Cm.zero c.k with id := c.id }
  else if c.k = 5 then { Cm.zero c.k with pid := c.pid, pc := c.pc, pl := c.pl, pa := c.pa }
  else if c.k = 6 then { Cm.zero c.k with to := c.to } else Cm.zero c.k
/-- What is read, as a command. -/
def mkC (k : Nat) (l : List Fv) : Cm :=
  match k, l with
  | 1, [.u a, .i b, .u c] => { Cm.zero 1 with rate := a, most := b, hor := c }
  | 2, [.i a, .i b, .b c, .u d, .u e, .u f, .u g, .u h, .u i, .u j, .u m, .u n, .i o, .i p] => { Cm.zero 2 with si := a, sq := b, lf := c, r0 := d, r1 := e, r2 := f, s0 := g, s1 := h, s2 := i, u0 := j, u1 := m, u2 := n, pk := o, bt := p }
  | 3, [.i a, .u d, .u e, .u f, .u g, .u h, .u i, .u j, .u m, .u n] => { Cm.zero 3 with si := a, r0 := d, r1 := e, r2 := f, s0 := g, s1 := h, s2 := i, u0 := j, u1 := m, u2 := n }
  | 4, [.i a] => { Cm.zero 4 with id := a }
  | 5, [.u a, .i b, .i c, .u d] => { Cm.zero 5 with pid := a, pc := b, pl := c, pa := d }
  | 6, [.u a] => { Cm.zero 6 with to := a }
  | 7, [.i a] => { Cm.zero 7 with id := a }
  | k, _ => Cm.zero k
def mayC (c : Cm) : Prop := 1 ≤ c.k ∧ c.k ≤ 7 ∧ ownC c = c
instance (c : Cm) : Decidable (mayC c) := inferInstanceAs (Decidable (_ ∧ _ ∧ _))
def Cm.ok (c : Cm) : Prop := c.k < 256 ∧ ∀ f ∈ [Fv.u c.rate, .i c.most, .u c.hor, .i c.si, .i c.sq, .u c.r0, .u c.r1, .u c.r2, .u c.s0, .u c.s1, .u c.s2, .u c.u0, .u c.u1, .u c.u2, .i c.pk, .i c.bt, .i c.id, .u c.pid, .i c.pc, .i c.pl, .u c.pa, .u c.to], f.ok
/-- A command's bytes. -/
def bytC (c : Cm) : List UInt8 := UInt8.ofNat c.k :: encL (hasC c)
/-- The command whose bytes these are. -/
noncomputable def rdC : List UInt8 → Option Cm
  | [] => none
  | b :: R => if 1 ≤ b.toNat ∧ b.toNat ≤ 7 ∧ (endL (tyC b.toNat) ⟨R, false⟩).bad = false ∧ (endL (tyC b.toNat) ⟨R, false⟩).left = [] then some (mkC b.toNat (decL (tyC b.toNat) ⟨R, false⟩)) else none
theorem ownC_own (c : Cm) : ownC (ownC c) = ownC c := by
  obtain ⟨k, a1, a2, a3, a4, a5, a6, a7, a8, a9, a10, a11, a12, a13, a14, a15, a16, a17, a18, a19, a20, a21, a22, a23⟩ := c
  by_cases h1 : k = 1
  · subst h1; rfl
  by_cases h2 : k = 2
  · subst h2; rfl
  by_cases h3 : k = 3
  · subst h3; rfl
  by_cases h4 : k = 4
  · subst h4; rfl
  by_cases h7 : k = 7
  · subst h7; rfl
  by_cases h5 : k = 5
  · subst h5; rfl
  by_cases h6 : k = 6
  · subst h6; rfl
  simp [ownC, Cm.zero, h1, h2, h3, h4, h5, h6, h7]
theorem ownC_kind (c : Cm) : (ownC c).k = c.k := by
  unfold ownC
  split
  · rfl
  · split
    · rfl
    · split
      · rfl
      · split
        · rfl
        · split
          · rfl
          · split <;> rfl
theorem hasC_ty (c : Cm) : (hasC c).map Fv.ty = tyC c.k := by
  unfold hasC tyC
  split
  · rfl
  · split
    · rfl
    · split
      · rfl
      · split
        · rfl
        · split <;> rfl
theorem hasC_ok {c : Cm} (h : c.ok) : ∀ f ∈ hasC c, f.ok := by
  obtain ⟨_, h⟩ := h
  simp only [List.forall_mem_cons, List.not_mem_nil, false_implies, implies_true, and_true] at h
  obtain ⟨a1, a2, a3, a4, a5, a7, a8, a9, a10, a11, a12, a13, a14, a15, a16, a17, a18, a19, a20, a21, a22, a23⟩ := h
  unfold hasC
  split
  · simp only [List.forall_mem_cons, List.not_mem_nil, false_implies, implies_true, and_true]; exact ⟨a1, a2, a3⟩
  · split
    · simp only [List.forall_mem_cons, List.not_mem_nil, false_implies, implies_true, and_true]; exact ⟨a4, a5, trivial, a7, a8, a9, a10, a11, a12, a13, a14, a15, a16, a17⟩
    · split
      · simp only [List.forall_mem_cons, List.not_mem_nil, false_implies, implies_true, and_true]; exact ⟨a4, a7, a8, a9, a10, a11, a12, a13, a14, a15⟩
      · split
        · simp only [List.forall_mem_cons, List.not_mem_nil, false_implies, implies_true, and_true]; exact ⟨a19, a20, a21, a22⟩
        · split
          · simp only [List.forall_mem_cons, List.not_mem_nil, false_implies, implies_true, and_true]; exact a23
          · simp only [List.forall_mem_cons, List.not_mem_nil, false_implies, implies_true, and_true]; exact a18
theorem mkC_has {c : Cm} (h : mayC c) : mkC c.k (hasC c) = c := by
  obtain ⟨h1, h2, h3⟩ := h
  obtain ⟨k, a1, a2, a3, a4, a5, a6, a7, a8, a9, a10, a11, a12, a13, a14, a15, a16, a17, a18, a19, a20, a21, a22, a23⟩ := c
  simp only at h1 h2
  rcases (by omega : k = 1 ∨ k = 2 ∨ k = 3 ∨ k = 4 ∨ k = 5 ∨ k = 6 ∨ k = 7) with rfl | rfl | rfl | rfl | rfl | rfl | rfl <;> exact h3
theorem rdC_byt {c : Cm} (h : mayC c) (ho : c.ok) : rdC (bytC c) = some c := by
  have hk : (UInt8.ofNat c.k).toNat = c.k := by rw [UInt8.toNat_ofNat']; exact Nat.mod_eq_of_lt ho.1
  obtain ⟨a, b⟩ := decL_encL (hasC c) [] (hasC_ok ho)
  rw [hasC_ty, List.append_nil] at a b
  unfold rdC bytC
  simp only
  rw [hk, a, b, if_pos ⟨h.1, h.2.1, rfl, rfl⟩, mkC_has h]
theorem ty_u {f : Fv} (h : f.ty = .u) : ∃ n, f = .u n := by cases f <;> first | exact ⟨_, rfl⟩ | cases h
theorem ty_i {f : Fv} (h : f.ty = .i) : ∃ n, f = .i n := by cases f <;> first | exact ⟨_, rfl⟩ | cases h
theorem ty_b {f : Fv} (h : f.ty = .b) : ∃ n, f = .b n := by cases f <;> first | exact ⟨_, rfl⟩ | cases h
theorem tys_cons {l : List Fv} {t : Ft} {r : List Ft} (h : l.map Fv.ty = t :: r) : ∃ f g, l = f :: g ∧ f.ty = t ∧ g.map Fv.ty = r := by
  cases l with
  | nil => cases h
  | cons f g => exact ⟨f, g, rfl, (List.cons.inj h).1, (List.cons.inj h).2⟩
theorem tys_nil {l : List Fv} (h : l.map Fv.ty = []) : l = [] := List.map_eq_nil_iff.1 h
theorem zero_ok : (Fv.u 0).ok ∧ (Fv.i 0).ok := by constructor <;> (unfold Fv.ok; decide)
theorem mkC_of {k : Nat} (h1 : 1 ≤ k) (h2 : k ≤ 7) {l : List Fv} (ht : l.map Fv.ty = tyC k) (ho : ∀ f ∈ l, f.ok) : mayC (mkC k l) ∧ (mkC k l).ok ∧ (mkC k l).k = k ∧ hasC (mkC k l) = l := by
  obtain ⟨z1, z2⟩ := zero_ok
  rcases (by omega : k = 1 ∨ k = 2 ∨ k = 3 ∨ k = 4 ∨ k = 5 ∨ k = 6 ∨ k = 7) with rfl | rfl | rfl | rfl | rfl | rfl | rfl
  · rw [show tyC 1 = [.u, .i, .u] from rfl] at ht
    obtain ⟨f0, g0, rfl, e0, ht0⟩ := tys_cons ht
    obtain ⟨x0, rfl⟩ := ty_u e0
    obtain ⟨f1, g1, rfl, e1, ht1⟩ := tys_cons ht0
    obtain ⟨x1, rfl⟩ := ty_i e1
    obtain ⟨f2, g2, rfl, e2, ht2⟩ := tys_cons ht1
    obtain ⟨x2, rfl⟩ := ty_u e2
    have := tys_nil ht2
    subst this
    simp only [List.forall_mem_cons] at ho
    obtain ⟨o0, o1, o2, _⟩ := ho
    refine ⟨⟨h1, h2, rfl⟩, ⟨by show 1 < 256; decide, ?_⟩, rfl, rfl⟩
    simp only [List.forall_mem_cons, List.not_mem_nil, false_implies, implies_true, and_true]
    exact ⟨o0, o1, o2, z2, z2, z1, z1, z1, z1, z1, z1, z1, z1, z1, z2, z2, z2, z1, z2, z2, z1, z1⟩
  · rw [show tyC 2 = [.i, .i, .b, .u, .u, .u, .u, .u, .u, .u, .u, .u, .i, .i] from rfl] at ht
    obtain ⟨f0, g0, rfl, e0, ht0⟩ := tys_cons ht
    obtain ⟨x0, rfl⟩ := ty_i e0
    obtain ⟨f1, g1, rfl, e1, ht1⟩ := tys_cons ht0
    obtain ⟨x1, rfl⟩ := ty_i e1
    obtain ⟨f2, g2, rfl, e2, ht2⟩ := tys_cons ht1
    obtain ⟨x2, rfl⟩ := ty_b e2
    obtain ⟨f3, g3, rfl, e3, ht3⟩ := tys_cons ht2
    obtain ⟨x3, rfl⟩ := ty_u e3
    obtain ⟨f4, g4, rfl, e4, ht4⟩ := tys_cons ht3
    obtain ⟨x4, rfl⟩ := ty_u e4
    obtain ⟨f5, g5, rfl, e5, ht5⟩ := tys_cons ht4
    obtain ⟨x5, rfl⟩ := ty_u e5
    obtain ⟨f6, g6, rfl, e6, ht6⟩ := tys_cons ht5
    obtain ⟨x6, rfl⟩ := ty_u e6
    obtain ⟨f7, g7, rfl, e7, ht7⟩ := tys_cons ht6
    obtain ⟨x7, rfl⟩ := ty_u e7
    obtain ⟨f8, g8, rfl, e8, ht8⟩ := tys_cons ht7
    obtain ⟨x8, rfl⟩ := ty_u e8
    obtain ⟨f9, g9, rfl, e9, ht9⟩ := tys_cons ht8
    obtain ⟨x9, rfl⟩ := ty_u e9
    obtain ⟨f10, g10, rfl, e10, ht10⟩ := tys_cons ht9
    obtain ⟨x10, rfl⟩ := ty_u e10
    obtain ⟨f11, g11, rfl, e11, ht11⟩ := tys_cons ht10
    obtain ⟨x11, rfl⟩ := ty_u e11
    obtain ⟨f12, g12, rfl, e12, ht12⟩ := tys_cons ht11
    obtain ⟨x12, rfl⟩ := ty_i e12
    obtain ⟨f13, g13, rfl, e13, ht13⟩ := tys_cons ht12
    obtain ⟨x13, rfl⟩ := ty_i e13
    have := tys_nil ht13
    subst this
    simp only [List.forall_mem_cons] at ho
    obtain ⟨o0, o1, o2, o3, o4, o5, o6, o7, o8, o9, o10, o11, o12, o13, _⟩ := ho
    refine ⟨⟨h1, h2, rfl⟩, ⟨by show 2 < 256; decide, ?_⟩, rfl, rfl⟩
    simp only [List.forall_mem_cons, List.not_mem_nil, false_implies, implies_true, and_true]
    exact ⟨z1, z2, z1, o0, o1, o3, o4, o5, o6, o7, o8, o9, o10, o11, o12, o13, z2, z1, z2, z2, z1, z1⟩
  · rw [show tyC 3 = [.i, .u, .u, .u, .u, .u, .u, .u, .u, .u] from rfl] at ht
    obtain ⟨f0, g0, rfl, e0, ht0⟩ := tys_cons ht
    obtain ⟨x0, rfl⟩ := ty_i e0
    obtain ⟨f1, g1, rfl, e1, ht1⟩ := tys_cons ht0
    obtain ⟨x1, rfl⟩ := ty_u e1
    obtain ⟨f2, g2, rfl, e2, ht2⟩ := tys_cons ht1
    obtain ⟨x2, rfl⟩ := ty_u e2
    obtain ⟨f3, g3, rfl, e3, ht3⟩ := tys_cons ht2
    obtain ⟨x3, rfl⟩ := ty_u e3
    obtain ⟨f4, g4, rfl, e4, ht4⟩ := tys_cons ht3
    obtain ⟨x4, rfl⟩ := ty_u e4
    obtain ⟨f5, g5, rfl, e5, ht5⟩ := tys_cons ht4
    obtain ⟨x5, rfl⟩ := ty_u e5
    obtain ⟨f6, g6, rfl, e6, ht6⟩ := tys_cons ht5
    obtain ⟨x6, rfl⟩ := ty_u e6
    obtain ⟨f7, g7, rfl, e7, ht7⟩ := tys_cons ht6
    obtain ⟨x7, rfl⟩ := ty_u e7
    obtain ⟨f8, g8, rfl, e8, ht8⟩ := tys_cons ht7
    obtain ⟨x8, rfl⟩ := ty_u e8
    obtain ⟨f9, g9, rfl, e9, ht9⟩ := tys_cons ht8
    obtain ⟨x9, rfl⟩ := ty_u e9
    have := tys_nil ht9
    subst this
    simp only [List.forall_mem_cons] at ho
    obtain ⟨o0, o1, o2, o3, o4, o5, o6, o7, o8, o9, _⟩ := ho
    refine ⟨⟨h1, h2, rfl⟩, ⟨by show 3 < 256; decide, ?_⟩, rfl, rfl⟩
    simp only [List.forall_mem_cons, List.not_mem_nil, false_implies, implies_true, and_true]
    exact ⟨z1, z2, z1, o0, z2, o1, o2, o3, o4, o5, o6, o7, o8, o9, z2, z2, z2, z1, z2, z2, z1, z1⟩
  · rw [show tyC 4 = [.i] from rfl] at ht
    obtain ⟨f0, g0, rfl, e0, ht0⟩ := tys_cons ht
    obtain ⟨x0, rfl⟩ := ty_i e0
    have := tys_nil ht0
    subst this
    simp only [List.forall_mem_cons] at ho
    obtain ⟨o0, _⟩ := ho
    refine ⟨⟨h1, h2, rfl⟩, ⟨by show 4 < 256; decide, ?_⟩, rfl, rfl⟩
    simp only [List.forall_mem_cons, List.not_mem_nil, false_implies, implies_true, and_true]
    exact ⟨z1, z2, z1, z2, z2, z1, z1, z1, z1, z1, z1, z1, z1, z1, z2, z2, o0, z1, z2, z2, z1, z1⟩
  · rw [show tyC 5 = [.u, .i, .i, .u] from rfl] at ht
    obtain ⟨f0, g0, rfl, e0, ht0⟩ := tys_cons ht
    obtain ⟨x0, rfl⟩ := ty_u e0
    obtain ⟨f1, g1, rfl, e1, ht1⟩ := tys_cons ht0
    obtain ⟨x1, rfl⟩ := ty_i e1
    obtain ⟨f2, g2, rfl, e2, ht2⟩ := tys_cons ht1
    obtain ⟨x2, rfl⟩ := ty_i e2
    obtain ⟨f3, g3, rfl, e3, ht3⟩ := tys_cons ht2
    obtain ⟨x3, rfl⟩ := ty_u e3
    have := tys_nil ht3
    subst this
    simp only [List.forall_mem_cons] at ho
    obtain ⟨o0, o1, o2, o3, _⟩ := ho
    refine ⟨⟨h1, h2, rfl⟩, ⟨by show 5 < 256; decide, ?_⟩, rfl, rfl⟩
    simp only [List.forall_mem_cons, List.not_mem_nil, false_implies, implies_true, and_true]
    exact ⟨z1, z2, z1, z2, z2, z1, z1, z1, z1, z1, z1, z1, z1, z1, z2, z2, z2, o0, o1, o2, o3, z1⟩
  · rw [show tyC 6 = [.u] from rfl] at ht
    obtain ⟨f0, g0, rfl, e0, ht0⟩ := tys_cons ht
    obtain ⟨x0, rfl⟩ := ty_u e0
    have := tys_nil ht0
    subst this
    simp only [List.forall_mem_cons] at ho
    obtain ⟨o0, _⟩ := ho
    refine ⟨⟨h1, h2, rfl⟩, ⟨by show 6 < 256; decide, ?_⟩, rfl, rfl⟩
    simp only [List.forall_mem_cons, List.not_mem_nil, false_implies, implies_true, and_true]
    exact ⟨z1, z2, z1, z2, z2, z1, z1, z1, z1, z1, z1, z1, z1, z1, z2, z2, z2, z1, z2, z2, z1, o0⟩
  · rw [show tyC 7 = [.i] from rfl] at ht
    obtain ⟨f0, g0, rfl, e0, ht0⟩ := tys_cons ht
    obtain ⟨x0, rfl⟩ := ty_i e0
    have := tys_nil ht0
    subst this
    simp only [List.forall_mem_cons] at ho
    obtain ⟨o0, _⟩ := ho
    refine ⟨⟨h1, h2, rfl⟩, ⟨by show 7 < 256; decide, ?_⟩, rfl, rfl⟩
    simp only [List.forall_mem_cons, List.not_mem_nil, false_implies, implies_true, and_true]
    exact ⟨z1, z2, z1, z2, z2, z1, z1, z1, z1, z1, z1, z1, z1, z1, z2, z2, o0, z1, z2, z2, z1, z1⟩
theorem rdC_some {S : List UInt8} {c : Cm} (h : rdC S = some c) : mayC c ∧ c.ok ∧ S = bytC c := by
  cases S with
  | nil => cases h
  | cons b R =>
    unfold rdC at h
    simp only at h
    split at h
    · rename_i hc
      obtain ⟨h1, h2, h3, h4⟩ := hc
      obtain ⟨a, o, t⟩ := encL_decL (tyC b.toNat) R h3
      obtain ⟨m, k1, k2, k3⟩ := mkC_of h1 h2 t o
      have e := Option.some.inj h
      subst e
      refine ⟨m, k1, ?_⟩
      unfold bytC
      rw [k2, k3, UInt8.ofNat_toNat]
      rw [h4, List.append_nil] at a
      rw [← a]
    · cases h
theorem rdC_iff {S : List UInt8} {c : Cm} : rdC S = some c ↔ mayC c ∧ c.ok ∧ S = bytC c :=
  ⟨rdC_some, fun h => by obtain ⟨a, b, rfl⟩ := h; exact rdC_byt a b⟩
theorem bytC_inj {c d : Cm} (hc : mayC c) (ho : c.ok) (hd : mayC d) (hp : d.ok) (h : bytC c = bytC d) : c = d := by
  have := rdC_byt hc ho
  rw [h, rdC_byt hd hp] at this
  exact (Option.some.inj this).symm
theorem rdC_more {c : Cm} (h : mayC c) (ho : c.ok) {R : List UInt8} (hR : R ≠ []) : rdC (bytC c ++ R) = none := by
  have hk : (UInt8.ofNat c.k).toNat = c.k := by rw [UInt8.toNat_ofNat']; exact Nat.mod_eq_of_lt ho.1
  obtain ⟨a, b⟩ := decL_encL (hasC c) R (hasC_ok ho)
  rw [hasC_ty] at a b
  unfold rdC bytC
  rw [List.cons_append]
  simp only
  rw [hk, b, if_neg (fun q => hR q.2.2.2)]
theorem rdC_less {c : Cm} (h : mayC c) (ho : c.ok) {P R : List UInt8} (e : bytC c = P ++ R) (hR : R ≠ []) : rdC P = none := by
  cases hp : rdC P with
  | none => rfl
  | some d =>
    obtain ⟨m, k, rfl⟩ := rdC_some hp
    have := rdC_more m k hR
    rw [← e, rdC_byt h ho] at this
    cases this
/-- A reply. -/
structure Rp where
  code : Int
  now : Nat
  t0 : Nat
  t1 : Nat
  t2 : Nat
  t3 : Nat
  t4 : Nat
  t5 : Nat
  t6 : Nat
  t7 : Nat
deriving DecidableEq
def tyR : List Ft := [.i, .u, .u, .u, .u, .u, .u, .u, .u, .u]
def hasR (r : Rp) : List Fv := [.i r.code, .u r.now, .u r.t0, .u r.t1, .u r.t2, .u r.t3, .u r.t4, .u r.t5, .u r.t6, .u r.t7]
def mkR (l : List Fv) : Rp :=
  match l with
  | [.i a, .u b, .u c, .u d, .u e, .u f, .u g, .u h, .u i, .u j] => ⟨a, b, c, d, e, f, g, h, i, j⟩
  | _ => ⟨0, 0, 0, 0, 0, 0, 0, 0, 0, 0⟩
def Rp.ok (r : Rp) : Prop := ∀ f ∈ hasR r, f.ok
/-- A reply's bytes. -/
def bytR (r : Rp) : List UInt8 := 0 :: encL (hasR r)
/-- The reply whose bytes these are. -/
noncomputable def rdR : List UInt8 → Option Rp
  | [] => none
  | b :: R => if b.toNat = 0 ∧ (endL tyR ⟨R, false⟩).bad = false ∧ (endL tyR ⟨R, false⟩).left = [] then some (mkR (decL tyR ⟨R, false⟩)) else none
theorem mkR_of {l : List Fv} (ht : l.map Fv.ty = tyR) (ho : ∀ f ∈ l, f.ok) : (mkR l).ok ∧ hasR (mkR l) = l := by
  rw [tyR] at ht
  obtain ⟨f0, g0, rfl, e0, ht0⟩ := tys_cons ht
  obtain ⟨x0, rfl⟩ := ty_i e0
  obtain ⟨f1, g1, rfl, e1, ht1⟩ := tys_cons ht0
  obtain ⟨x1, rfl⟩ := ty_u e1
  obtain ⟨f2, g2, rfl, e2, ht2⟩ := tys_cons ht1
  obtain ⟨x2, rfl⟩ := ty_u e2
  obtain ⟨f3, g3, rfl, e3, ht3⟩ := tys_cons ht2
  obtain ⟨x3, rfl⟩ := ty_u e3
  obtain ⟨f4, g4, rfl, e4, ht4⟩ := tys_cons ht3
  obtain ⟨x4, rfl⟩ := ty_u e4
  obtain ⟨f5, g5, rfl, e5, ht5⟩ := tys_cons ht4
  obtain ⟨x5, rfl⟩ := ty_u e5
  obtain ⟨f6, g6, rfl, e6, ht6⟩ := tys_cons ht5
  obtain ⟨x6, rfl⟩ := ty_u e6
  obtain ⟨f7, g7, rfl, e7, ht7⟩ := tys_cons ht6
  obtain ⟨x7, rfl⟩ := ty_u e7
  obtain ⟨f8, g8, rfl, e8, ht8⟩ := tys_cons ht7
  obtain ⟨x8, rfl⟩ := ty_u e8
  obtain ⟨f9, g9, rfl, e9, ht9⟩ := tys_cons ht8
  obtain ⟨x9, rfl⟩ := ty_u e9
  have := tys_nil ht9
  subst this
  exact ⟨ho, rfl⟩
theorem rdR_byt {r : Rp} (ho : r.ok) : rdR (bytR r) = some r := by
  obtain ⟨a, b⟩ := decL_encL (hasR r) [] ho
  rw [show (hasR r).map Fv.ty = tyR from rfl, List.append_nil] at a b
  unfold rdR bytR
  simp only
  rw [a, b, if_pos ⟨rfl, rfl, rfl⟩]
  rfl
theorem rdR_some {S : List UInt8} {r : Rp} (h : rdR S = some r) : r.ok ∧ S = bytR r := by
  cases S with
  | nil => cases h
  | cons b R =>
    unfold rdR at h
    simp only at h
    split at h
    · rename_i hc
      obtain ⟨h1, h3, h4⟩ := hc
      obtain ⟨a, o, t⟩ := encL_decL tyR R h3
      obtain ⟨k1, k2⟩ := mkR_of t o
      have e := Option.some.inj h
      subst e
      refine ⟨k1, ?_⟩
      unfold bytR
      rw [k2, show b = 0 from UInt8.toNat_inj.1 h1]
      rw [h4, List.append_nil] at a
      rw [← a]
    · cases h
theorem rdR_more {r : Rp} (ho : r.ok) {R : List UInt8} (hR : R ≠ []) : rdR (bytR r ++ R) = none := by
  obtain ⟨a, b⟩ := decL_encL (hasR r) R ho
  rw [show (hasR r).map Fv.ty = tyR from rfl] at a b
  unfold rdR bytR
  rw [List.cons_append]
  simp only
  rw [b, if_neg (fun q => hR q.2.2)]
theorem rdR_less {r : Rp} (ho : r.ok) {P R : List UInt8} (e : bytR r = P ++ R) (hR : R ≠ []) : rdR P = none := by
  cases hp : rdR P with
  | none => rfl
  | some d =>
    obtain ⟨k, rfl⟩ := rdR_some hp
    have := rdR_more k hR
    rw [← e, rdR_byt ho] at this
    cases this
/-- No bytes are a command's and a reply's. -/
theorem rd_apart {S : List UInt8} (h : rdC S ≠ none) : rdR S = none := by
  cases S with
  | nil => rfl
  | cons b R =>
    unfold rdC at h
    unfold rdR
    simp only at h ⊢
    by_cases hb : b.toNat = 0
    · rw [if_neg (fun q => by omega)] at h
      exact absurd rfl h
    · rw [if_neg (fun q => hb q.1)]
theorem ownC_may {c : Cm} (h1 : 1 ≤ c.k) (h2 : c.k ≤ 7) : mayC (ownC c) := ⟨by rw [ownC_kind]; exact h1, by rw [ownC_kind]; exact h2, ownC_own c⟩
end Go.Proofs.YtamjnekdfhocdaaDoor
