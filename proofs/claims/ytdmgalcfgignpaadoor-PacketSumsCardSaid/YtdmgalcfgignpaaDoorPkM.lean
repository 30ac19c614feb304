/- Plain lists of bytes: the text of a packet's four numbers, how it is read, digit by digit, and how it is cut at its blanks. No condition. -/
import Derived.Lib.ItoaNum
import Derived.Lib.Join
namespace Go.Proofs.YtdmgalcfgignpaaDoor
open Go.Lib
set_option linter.unusedVariables false

/-- A packet's four numbers. -/
structure Pk where
  id : Int
  cls : Int
  len : Int
  tick : Int

/-- They are what the fields can hold. -/
def Pk.ok (p : Pk) : Prop := (0 ≤ p.id ∧ p.id < 18446744073709551616) ∧ (-9223372036854775808 ≤ p.cls ∧ p.cls < 9223372036854775808) ∧ (-9223372036854775808 ≤ p.len ∧ p.len < 9223372036854775808) ∧ (0 ≤ p.tick ∧ p.tick < 18446744073709551616)
/-- It has a text. -/
def Pk.good (p : Pk) : Prop := 0 ≤ p.cls ∧ 0 ≤ p.len
def Pk.zero : Pk := ⟨0, 0, 0, 0⟩
theorem Pk.zero_ok : Pk.zero.ok := by unfold Pk.ok Pk.zero; decide

/-- Its text. -/
def txt (p : Pk) : List UInt8 := decDigits p.id.toNat ++ 32 :: (decDigits p.cls.toNat ++ 32 :: (decDigits p.len.toNat ++ 32 :: decDigits p.tick.toNat))

theorem digit_of (d : Nat) (h : d < 10) : (UInt8.ofNat (48 + d)).toNat = 48 + d := by
  rw [UInt8.toNat_ofNat']; omega

theorem dec_digits : ∀ (u : Nat), ∀ c ∈ decDigits u, 48 ≤ c.toNat ∧ c.toNat ≤ 57 := by
  intro u
  induction u using Nat.strongRecOn with
  | _ u ih =>
    intro c hc
    rw [decDigits] at hc
    split at hc
    · rename_i h
      simp only [List.mem_singleton] at hc
      subst hc
      rw [digit_of u h]; omega
    · rename_i h
      rcases List.mem_append.1 hc with hc | hc
      · exact ih (u / 10) (by omega) c hc
      · simp only [List.mem_singleton] at hc
        subst hc
        rw [digit_of _ (by omega)]; omega

theorem dec_ne (u : Nat) : decDigits u ≠ [] := by
  intro h
  have := decDigits_length u
  have := nDigits_pos u
  rw [h] at *
  simp at *
  omega

theorem dec_short (u : Nat) (h : u < 18446744073709551616) : (decDigits u).length ≤ 20 := by
  rw [decDigits_length]
  by_cases h0 : u = 0
  · subst h0; rw [nDigits_small (by omega)]; omega
  · have := numDigits_eq u (by omega) h
    split at this <;> omega

/-! ### Reading -/
/-- A row of numbers with one of them set. -/
def uq (n : Nat → Int) (k : Nat) (x : Int) : Nat → Int := fun j => if j = k then x else n j
theorem uq_uq (n : Nat → Int) (k : Nat) (x y : Int) : uq (uq n k x) k y = uq n k y := by
  funext j; unfold uq; split <;> rfl
theorem uq_at (n : Nat → Int) (k : Nat) (x : Int) : uq n k x k = x := by unfold uq; rw [if_pos rfl]
theorem uq_ne (n : Nat → Int) (k j : Nat) (x : Int) (h : j ≠ k) : uq n k x j = n j := by unfold uq; rw [if_neg h]

/-- One digit more. -/
def more (x : Int) (c : Nat) : Int := (x * 10 % 18446744073709551616 + ((c : Int) - 48)) % 18446744073709551616
theorem more_word (x : Int) (c : Nat) : 0 ≤ more x c ∧ more x c < 18446744073709551616 := by unfold more; omega

/-- Digits into the number of the word, a blank to the next word, nothing else. -/
def rd : List UInt8 → Nat → (Nat → Int) → Option (Nat → Int)
  | [], _, n => some n
  | c :: r, k, n =>
    if 48 ≤ c.toNat ∧ c.toNat ≤ 57 then rd r k (uq n k (more (n k) c.toNat))
    else if c.toNat = 32 ∧ k < 3 then rd r (k + 1) n else none

theorem rd_digit {c : UInt8} (r : List UInt8) (k : Nat) (n : Nat → Int) (h : 48 ≤ c.toNat ∧ c.toNat ≤ 57) : rd (c :: r) k n = rd r k (uq n k (more (n k) c.toNat)) := by
  rw [rd, if_pos h]
theorem rd_blank {c : UInt8} (r : List UInt8) (k : Nat) (n : Nat → Int) (h : c.toNat = 32) (hk : k < 3) : rd (c :: r) k n = rd r (k + 1) n := by
  rw [rd, if_neg (by omega), if_pos ⟨h, hk⟩]
theorem rd_none {c : UInt8} (r : List UInt8) (k : Nat) (n : Nat → Int) (h : ¬ (48 ≤ c.toNat ∧ c.toNat ≤ 57)) (h2 : ¬ (c.toNat = 32 ∧ k < 3)) : rd (c :: r) k n = none := by
  rw [rd, if_neg h, if_neg h2]

theorem rd_dec : ∀ (u : Nat) (r : List UInt8) (k : Nat) (n : Nat → Int), u < 18446744073709551616 → n k = 0 → rd (decDigits u ++ r) k n = rd r k (uq n k (u : Int)) := by
  intro u
  induction u using Nat.strongRecOn with
  | _ u ih =>
    intro r k n hu h0
    rw [decDigits]
    split
    · rename_i h
      rw [List.cons_append, List.nil_append, rd_digit _ _ _ (by rw [digit_of u h]; omega), digit_of u h, h0]
      congr 2
      unfold more; omega
    · rename_i h
      rw [List.append_assoc, ih (u / 10) (by omega) _ k n (by omega) h0, List.cons_append, List.nil_append, rd_digit _ _ _ (by rw [digit_of _ (by omega)]; omega), digit_of _ (by omega), uq_uq, uq_at]
      congr 2
      unfold more; omega

/-- The four numbers of a packet, in a row. -/
def nums (p : Pk) : Nat → Int := uq (uq (uq (uq (fun _ => 0) 0 p.id) 1 p.cls) 2 p.len) 3 p.tick

theorem rd_txt (p : Pk) (h : p.ok) (g : p.good) : rd (txt p) 0 (fun _ => 0) = some (nums p) := by
  obtain ⟨h0, h1, h2, h3⟩ := h
  obtain ⟨g1, g2⟩ := g
  unfold txt nums
  have b : (32 : UInt8).toNat = 32 := rfl
  have z : ∀ j, (fun _ : Nat => (0 : Int)) j = 0 := fun _ => rfl
  generalize (fun _ : Nat => (0 : Int)) = n0 at z ⊢
  rw [rd_dec _ _ _ _ (by omega) (z 0), rd_blank _ _ _ b (by omega), rd_dec _ _ _ _ (by omega) (by rw [uq_ne _ _ _ _ (by omega), z]), rd_blank _ _ _ b (by omega),
    rd_dec _ _ _ _ (by omega) (by rw [uq_ne _ _ _ _ (by omega), uq_ne _ _ _ _ (by omega), z]), rd_blank _ _ _ b (by omega)]
  have e := rd_dec p.tick.toNat [] 3 (uq (uq (uq n0 0 (p.id.toNat : Int)) 1 (p.cls.toNat : Int)) 2 (p.len.toNat : Int)) (by omega) (by rw [uq_ne _ _ _ _ (by omega), uq_ne _ _ _ _ (by omega), uq_ne _ _ _ _ (by omega), z])
  rw [List.append_nil] at e
  rw [e, rd, Int.toNat_of_nonneg h0.1, Int.toNat_of_nonneg g1, Int.toNat_of_nonneg g2, Int.toNat_of_nonneg h3.1]

theorem nums_at (p : Pk) : nums p 0 = p.id ∧ nums p 1 = p.cls ∧ nums p 2 = p.len ∧ nums p 3 = p.tick := by
  unfold nums uq; simp

theorem txt_inj {p q : Pk} (hp : p.ok) (gp : p.good) (hq : q.ok) (gq : q.good) (h : txt p = txt q) : p = q := by
  have a := rd_txt p hp gp
  rw [h, rd_txt q hq gq] at a
  have a := Option.some.inj a
  obtain ⟨p0, p1, p2, p3⟩ := nums_at p
  obtain ⟨q0, q1, q2, q3⟩ := nums_at q
  rw [a] at q0 q1 q2 q3
  cases p; cases q
  simp_all

/-- What Parse has to tell of a text: the packet whose text it is, and OK; or none, and ErrArg. -/
def IsP (s : List UInt8) (r : Pk) (e : Int) : Prop :=
  (r.ok ∧ r.good ∧ s = txt r ∧ e = 0) ∨ ((∀ p : Pk, p.ok → p.good → s ≠ txt p) ∧ r = Pk.zero ∧ e = 2)
theorem IsP.ok {s : List UInt8} {r : Pk} {e : Int} (h : IsP s r e) : r.ok := by
  rcases h with h | h
  · exact h.1
  · rw [h.2.1]; exact Pk.zero_ok
theorem IsP.unique {s : List UInt8} {r r' : Pk} {e e' : Int} (h : IsP s r e) (h' : IsP s r' e') : r = r' ∧ e = e' := by
  rcases h with ⟨a, b, c, d⟩ | ⟨a, b, c⟩
  · rcases h' with ⟨a', b', c', d'⟩ | ⟨a', b', c'⟩
    · exact ⟨txt_inj a b a' b' (c ▸ c'), by rw [d, d']⟩
    · exact absurd c (a' r a b)
  · rcases h' with ⟨a', b', c', d'⟩ | ⟨a', b', c'⟩
    · exact absurd c' (a r' a' b')
    · exact ⟨by rw [b, b'], by rw [c, c']⟩
theorem IsP.of_txt {p : Pk} (h : p.ok) (g : p.good) {r : Pk} {e : Int} (k : IsP (txt p) r e) : r = p ∧ e = 0 :=
  k.unique (.inl ⟨h, g, rfl, rfl⟩)

/-- From what was read, by the text that it has: as the program goes. -/
theorem IsP.of_read {s : List UInt8} {n : Nat → Int} (hn : rd s 0 (fun _ => 0) = some n) {p : Pk} (e0 : p.id = n 0) (e1 : 0 ≤ p.cls → p.cls = n 1) (e2 : 0 ≤ p.len → p.len = n 2) (e3 : p.tick = n 3)
    (f1 : n 1 < 9223372036854775808 → p.cls = n 1) (f2 : n 2 < 9223372036854775808 → p.len = n 2) (hok : p.ok) :
    (p.good → txt p = s → IsP s p 0) ∧ (¬ (p.good ∧ txt p = s) → IsP s Pk.zero 2) := by
  refine ⟨fun g h => .inl ⟨hok, g, h.symm, rfl⟩, fun h => .inr ⟨fun q hq gq e => h ?_, rfl, rfl⟩⟩
  have a := rd_txt q hq gq
  rw [← e, hn] at a
  have a := Option.some.inj a
  obtain ⟨q0, q1, q2, q3⟩ := nums_at q
  rw [← a] at q0 q1 q2 q3
  have hq' := hq
  obtain ⟨_, c1, c2, _⟩ := hq'
  have k1 := f1 (by omega)
  have k2 := f2 (by omega)
  have : p = q := by
    cases p; cases q
    simp_all
  subst this
  exact ⟨gq, e.symm⟩
theorem IsP.of_none {s : List UInt8} (hn : rd s 0 (fun _ => 0) = none) : IsP s Pk.zero 2 :=
  .inr ⟨fun q hq gq e => (by have a := rd_txt q hq gq; rw [← e, hn] at a; cases a), rfl, rfl⟩

/-! ### Cutting at blanks -/
def cut : List UInt8 → List (List UInt8)
  | [] => [[]]
  | c :: r => if c = 32 then [] :: cut r else match cut r with | [] => [[c]] | x :: y => (c :: x) :: y

theorem cut_end : ∀ (a : List UInt8), (∀ c ∈ a, c ≠ 32) → cut a = [a]
  | [], _ => rfl
  | c :: a, h => by
    rw [cut, if_neg (h c (by simp)), cut_end a (fun x hx => h x (by simp [hx]))]
theorem cut_blank : ∀ (a r : List UInt8), (∀ c ∈ a, c ≠ 32) → cut (a ++ 32 :: r) = a :: cut r
  | [], r, _ => by rw [List.nil_append, cut, if_pos rfl]
  | c :: a, r, h => by
    rw [List.cons_append, cut, if_neg (h c (by simp)), cut_blank a r (fun x hx => h x (by simp [hx]))]

theorem dec_no (u : Nat) : ∀ c ∈ decDigits u, c ≠ 32 := by
  intro c hc e
  have := dec_digits u c hc
  subst e
  have b : (32 : UInt8).toNat = 32 := rfl
  omega
theorem cut_txt (p : Pk) : cut (txt p) = [decDigits p.id.toNat, decDigits p.cls.toNat, decDigits p.len.toNat, decDigits p.tick.toNat] := by
  unfold txt
  rw [cut_blank _ _ (dec_no _), cut_blank _ _ (dec_no _), cut_blank _ _ (dec_no _), cut_end _ (dec_no _)]
theorem cut_ne : ∀ (s : List UInt8), cut s ≠ []
  | [] => by simp [cut]
  | c :: r => by
    rw [cut]
    split
    · simp
    · split <;> simp
/-- What was cut is put together again. -/
def glue : List (List UInt8) → List UInt8
  | [] => []
  | [a] => a
  | a :: b :: r => a ++ 32 :: glue (b :: r)
theorem glue_cut : ∀ (s : List UInt8), glue (cut s) = s
  | [] => rfl
  | c :: r => by
    have h := glue_cut r
    have hn := cut_ne r
    rw [cut]
    split
    · rename_i e
      match hr : cut r, hn with
      | x :: y, _ => rw [glue, ← hr, h, e]; rfl
    · match hr : cut r, hn with
      | [x], _ =>
        rw [hr] at h
        rw [glue] at h
        simp only
        rw [glue, h]
      | x :: y :: z, _ =>
        rw [hr] at h
        rw [glue] at h
        simp only
        rw [glue, List.cons_append, h]
theorem cut_length : ∀ (s : List UInt8), (cut s).length ≤ s.length + 1
  | [] => by simp [cut]
  | c :: r => by
    have h := cut_length r
    have hn := cut_ne r
    rw [cut]
    split
    · simp; omega
    · match hr : cut r, hn with
      | x :: y, _ => rw [hr] at h; simp at h ⊢; omega

/-- What the document's Digits has to tell of a word: a number, and whether the word is that number's text. -/
def IsD (s : List UInt8) (n : Int) (is : Bool) : Prop :=
  (0 ≤ n ∧ n < 18446744073709551616) ∧ (is = true → s = decDigits n.toNat) ∧ (∀ u : Nat, u < 18446744073709551616 → s = decDigits u → is = true ∧ n = (u : Int))

theorem IsP.of_words {s : List UInt8} {a b c d : List UInt8} (h : cut s = [a, b, c, d]) {x y z t : Int} {i j k l : Bool} (ha : IsD a x i) (hb : IsD b y j) (hc : IsD c z k) (hd : IsD d t l) :
    (i = true → j = true → y ≤ 9223372036854775807 → k = true → z ≤ 9223372036854775807 → l = true → IsP s ⟨x, y, z, t⟩ 0) ∧
    (¬ (i = true ∧ (j = true ∧ y ≤ 9223372036854775807) ∧ (k = true ∧ z ≤ 9223372036854775807) ∧ l = true) → IsP s Pk.zero 2) := by
  obtain ⟨xw, xa, xb⟩ := ha
  obtain ⟨yw, ya, yb⟩ := hb
  obtain ⟨zw, za, zb⟩ := hc
  obtain ⟨tw, ta, tb⟩ := hd
  refine ⟨fun hi hj hy hk hz hl => .inl ⟨⟨xw, ⟨show -9223372036854775808 ≤ y by omega, show y < 9223372036854775808 by omega⟩, ⟨show -9223372036854775808 ≤ z by omega, show z < 9223372036854775808 by omega⟩, tw⟩, ⟨yw.1, zw.1⟩, ?_, rfl⟩, fun hn => .inr ⟨fun q hq gq e => hn ?_, rfl, rfl⟩⟩
  · have g := glue_cut s
    rw [h, xa hi, ya hj, za hk, ta hl] at g
    rw [← g]
    simp [glue, txt]
  · have g := cut_txt q
    rw [← e, h] at g
    simp only [List.cons.injEq, and_true] at g
    obtain ⟨g1, g2, g3, g4⟩ := g
    obtain ⟨⟨q0, q0'⟩, ⟨q1, q1'⟩, ⟨q2, q2'⟩, ⟨q3, q3'⟩⟩ := hq
    obtain ⟨s1, s2⟩ := gq
    obtain ⟨r1, _⟩ := xb _ (by omega) g1
    obtain ⟨r2, r2'⟩ := yb _ (by omega) g2
    obtain ⟨r3, r3'⟩ := zb _ (by omega) g3
    obtain ⟨r4, _⟩ := tb _ (by omega) g4
    exact ⟨r1, ⟨r2, by omega⟩, ⟨r3, by omega⟩, r4⟩
theorem IsP.of_few {s : List UInt8} (h : (cut s).length ≠ 4) : IsP s Pk.zero 2 :=
  .inr ⟨fun q hq gq e => h (by rw [e, cut_txt]; rfl), rfl, rfl⟩

theorem txt_length (p : Pk) (h : p.ok) (g : p.good) : (txt p).length ≤ 83 := by
  obtain ⟨h0, h1, h2, h3⟩ := h
  obtain ⟨g1, g2⟩ := g
  have a := dec_short p.id.toNat (by omega)
  have b := dec_short p.cls.toNat (by omega)
  have c := dec_short p.len.toNat (by omega)
  have d := dec_short p.tick.toNat (by omega)
  unfold txt
  simp only [List.length_append, List.length_cons]
  omega
end Go.Proofs.YtdmgalcfgignpaaDoor
