/- Plain lists of bytes: a curve's word and a spec's text, how they are cut and read. No condition. -/
import Derived.Test.YtpopcnebndgblaaGreatGA
import Derived.Lib.ItoaNum
import Derived.Lib.Join
import Derived.Lib.Split
import Derived.Lib.IndexLaws
import Derived.Lib.IndexBytes
import Derived.Lib.ParseIntB
namespace Go.Proofs.YtpopcnebndgblaaGreat
open Go.Lib W
set_option linter.unusedVariables false

def I64 (x : Int) : Prop := -9223372036854775808 ≤ x ∧ x < 9223372036854775808
/-- A curve's three numbers. -/
structure Cw where
  f : Int
  l : Int
  r : Int
def Cw.ok (c : Cw) : Prop := Word c.f ∧ Word c.l ∧ Word c.r
def Cw.zero : Cw := ⟨0, 0, 0⟩
theorem word_zero : Word 0 := ⟨by omega, by omega⟩
theorem Cw.zero_ok : Cw.zero.ok := ⟨word_zero, word_zero, word_zero⟩
/-- A spec's numbers. -/
structure Sp where
  id : Int
  par : Int
  leaf : Bool
  re : Cw
  sh : Cw
  up : Cw
  pk : Int
  bt : Int
/-- They are what the fields can hold. -/
def Sp.ok (p : Sp) : Prop := I64 p.id ∧ I64 p.par ∧ p.re.ok ∧ p.sh.ok ∧ p.up.ok ∧ I64 p.pk ∧ I64 p.bt
/-- It has a text. -/
def Sp.good (p : Sp) : Prop := 0 ≤ p.id ∧ 0 ≤ p.par ∧ 0 ≤ p.pk ∧ 0 ≤ p.bt
def Sp.zero : Sp := ⟨0, 0, false, Cw.zero, Cw.zero, Cw.zero, 0, 0⟩
theorem i64_zero : I64 0 := ⟨by omega, by omega⟩
theorem Sp.zero_ok : Sp.zero.ok := ⟨i64_zero, i64_zero, Cw.zero_ok, Cw.zero_ok, Cw.zero_ok, i64_zero, i64_zero⟩

/-! ### Digits -/
theorem digit_of (d : Nat) (h : d < 10) : (UInt8.ofNat (48 + d)).toNat = 48 + d := by
  rw [UInt8.toNat_ofNat']; omega
theorem dec_digits : ∀ (u : Nat), ∀ c ∈ decDigits u, 48 ≤ c.toNat ∧ c.toNat ≤ 57 := by
  intro u
  induction u using Nat.strongRecOn with
  | _ u ih =>
    intro c hc
    rw [decDigits] at hc
    split at hc
    · rename_i h
      simp only [List.mem_singleton] at hc
      subst hc
      rw [digit_of u h]; omega
    · rename_i h
      rcases List.mem_append.1 hc with hc | hc
      · exact ih (u / 10) (by omega) c hc
      · simp only [List.mem_singleton] at hc
        subst hc
        rw [digit_of _ (by omega)]; omega
theorem dec_ne (u : Nat) : decDigits u ≠ [] := by
  intro h
  have := decDigits_length u
  have := nDigits_pos u
  rw [h] at *
  simp at *
  omega
theorem dec_short (u : Nat) (h : u < 18446744073709551616) : (decDigits u).length ≤ 20 := by
  rw [decDigits_length]
  by_cases h0 : u = 0
  · subst h0; rw [nDigits_small (by omega)]; omega
  · have := numDigits_eq u (by omega) h
    split at this <;> omega
theorem dec_no (d : UInt8) (hd : d.toNat < 48) (u : Nat) : ∀ c ∈ decDigits u, c ≠ d := by
  intro c hc e
  have := dec_digits u c hc
  subst e
  omega
theorem dec_read : ∀ (u : Nat) (r : List UInt8), u < 18446744073709551616 → parseUint10 0 (decDigits u ++ r) = parseUint10 u r := by
  intro u
  induction u using Nat.strongRecOn with
  | _ u ih =>
    intro r hu
    rw [decDigits]
    split
    · rename_i h
      rw [List.cons_append, List.nil_append, parseUint10, if_pos (by rw [digit_of u h]; omega), digit_of u h, if_neg (by omega), if_neg (by omega)]
      congr 1
      omega
    · rename_i h
      rw [List.append_assoc, ih (u / 10) (by omega) _ (by omega), List.cons_append, List.nil_append, parseUint10, if_pos (by rw [digit_of _ (by omega)]; omega), digit_of _ (by omega), if_neg (by omega), if_neg (by omega)]
      congr 1
      omega
theorem dec_mag (u : Nat) (h : u < 18446744073709551616) : parseMag (decDigits u) = .ok u := by
  have e := dec_read u [] h
  rw [List.append_nil] at e
  rw [parseMag, if_neg (dec_ne u), e, parseUint10]
theorem dec_atoi (u : Nat) (h : u < 9223372036854775808) : atoiAll (decDigits u) = .ok (u : Int) := by
  have hm := dec_mag u (by omega)
  have hd := dec_digits u
  generalize decDigits u = l at hm hd
  cases l with
  | nil => rw [parseMag, if_pos rfl] at hm; cases hm
  | cons c r =>
    have hc := hd c (by simp)
    have n1 : ¬ (c.toNat = 43 ∨ c.toNat = 45) := by omega
    have n2 : ¬ c.toNat = 45 := by omega
    have hi : (if c.toNat = 43 ∨ c.toNat = 45 then r else c :: r) = c :: r := if_neg n1
    have h3 : ¬ (¬ c.toNat = 45 ∧ 9223372036854775808 ≤ u) := by omega
    unfold atoiAll
    simp only [hi, hm]
    rw [if_neg h3, if_neg (fun h => n2 h.1), if_neg n2]
theorem dec_readM : ∀ (u : Nat) (r : List UInt8), u < 18446744073709551616 → parseUintM 18446744073709551615 0 (decDigits u ++ r) = parseUintM 18446744073709551615 u r := by
  intro u
  induction u using Nat.strongRecOn with
  | _ u ih =>
    intro r hu
    rw [decDigits]
    split
    · rename_i h
      rw [List.cons_append, List.nil_append, parseUintM, if_pos (by rw [digit_of u h]; omega), digit_of u h, if_neg (by omega), if_neg (by omega)]
      congr 1
      omega
    · rename_i h
      rw [List.append_assoc, ih (u / 10) (by omega) _ (by omega), List.cons_append, List.nil_append, parseUintM, if_pos (by rw [digit_of _ (by omega)]; omega), digit_of _ (by omega), if_neg (by omega), if_neg (by omega)]
      congr 1
      omega
theorem dec_uint (u : Nat) (h : u < 18446744073709551616) : parseUintB 64 (decDigits u) = .ok u := by
  have e := dec_readM u [] h
  rw [List.append_nil] at e
  rw [parseUintB, if_neg (dec_ne u), show 2 ^ 64 - 1 = 18446744073709551615 from rfl, e, parseUintM]
theorem dec_inj {u v : Nat} (hu : u < 18446744073709551616) (hv : v < 18446744073709551616) (h : decDigits u = decDigits v) : u = v := by
  have a := dec_mag u hu
  rw [h, dec_mag v hv] at a
  cases a; rfl
theorem decI_inj {x y : Int} (hx : Word x) (hy : Word y) (h : decDigits x.toNat = decDigits y.toNat) : x = y := by
  unfold Word at hx hy
  have := dec_inj (by omega) (by omega) h
  omega

/-! ### Words put together, and cut -/
def gl (d : UInt8) : List (List UInt8) → List UInt8
  | [] => []
  | [a] => a
  | a :: b :: r => a ++ d :: gl d (b :: r)
def cutd (d : UInt8) : List UInt8 → List (List UInt8)
  | [] => [[]]
  | c :: r => if c = d then [] :: cutd d r else match cutd d r with | [] => [[c]] | x :: y => (c :: x) :: y
theorem cutd_end {d : UInt8} : ∀ (a : List UInt8), (∀ c ∈ a, c ≠ d) → cutd d a = [a]
  | [], _ => rfl
  | c :: a, h => by
    rw [cutd, if_neg (h c (by simp)), cutd_end a (fun x hx => h x (by simp [hx]))]
theorem cutd_sep {d : UInt8} : ∀ (a r : List UInt8), (∀ c ∈ a, c ≠ d) → cutd d (a ++ d :: r) = a :: cutd d r
  | [], r, _ => by rw [List.nil_append, cutd, if_pos rfl]
  | c :: a, r, h => by
    rw [List.cons_append, cutd, if_neg (h c (by simp)), cutd_sep a r (fun x hx => h x (by simp [hx]))]
theorem cutd_gl {d : UInt8} : ∀ (ws : List (List UInt8)), ws ≠ [] → (∀ w ∈ ws, ∀ c ∈ w, c ≠ d) → cutd d (gl d ws) = ws
  | [], h, _ => absurd rfl h
  | [a], _, h => cutd_end a (h a (by simp))
  | a :: b :: r, _, h => by
    rw [gl, cutd_sep a _ (h a (by simp)), cutd_gl (b :: r) (by simp) (fun w hw => h w (by simp at hw ⊢; exact .inr hw))]
theorem cutd_ne {d : UInt8} : ∀ (s : List UInt8), cutd d s ≠ []
  | [] => by simp [cutd]
  | c :: r => by
    rw [cutd]
    split
    · simp
    · split <;> simp
theorem gl_cutd {d : UInt8} : ∀ (s : List UInt8), gl d (cutd d s) = s
  | [] => rfl
  | c :: r => by
    have h := gl_cutd (d := d) r
    have hn := cutd_ne (d := d) r
    rw [cutd]
    split
    · rename_i e
      match hr : cutd d r, hn with
      | x :: y, _ => rw [gl, ← hr, h, e]; rfl
    · match hr : cutd d r, hn with
      | [x], _ =>
        rw [hr] at h
        rw [gl] at h
        simp only
        rw [gl, h]
      | x :: y :: z, _ =>
        rw [hr] at h
        rw [gl] at h
        simp only
        rw [gl, List.cons_append, h]
theorem cutd_length {d : UInt8} : ∀ (s : List UInt8), (cutd d s).length ≤ s.length + 1
  | [] => by simp [cutd]
  | c :: r => by
    have h := cutd_length (d := d) r
    have hn := cutd_ne (d := d) r
    rw [cutd]
    split
    · simp; omega
    · match hr : cutd d r, hn with
      | x :: y, _ => rw [hr] at h; simp at h ⊢; omega
theorem gl_length {d : UInt8} : ∀ (ws : List (List UInt8)), ws.length ≤ (gl d ws).length + 1
  | [] => by simp
  | [a] => by simp
  | a :: b :: r => by
    have h := gl_length (d := d) (b :: r)
    rw [gl]
    simp only [List.length_append, List.length_cons] at h ⊢
    omega

/-! ### The library's own cutting -/
theorem index_none {d : UInt8} {a : List UInt8} (h : ∀ c ∈ a, c ≠ d) : index a [d] = -1 := by
  rw [index_one]
  induction a with
  | nil => rfl
  | cons b l ih =>
    rw [indexByte, if_neg (by have := h b (by simp); simpa using this), ih (fun c hc => h c (by simp [hc]))]
    rfl
theorem index_at {d : UInt8} : ∀ (a r : List UInt8), (∀ c ∈ a, c ≠ d) → index (a ++ d :: r) [d] = (a.length : Int) := by
  intro a r h
  rw [index_one]
  induction a with
  | nil => simp [indexByte]
  | cons b l ih =>
    have e := ih (fun c hc => h c (by simp [hc]))
    rw [List.cons_append, indexByte, if_neg (by have := h b (by simp); simpa using this), e]
    rw [if_neg (by simp only [beq_iff_eq]; omega)]
    simp
theorem splitK_gl {d : UInt8} : ∀ (ws : List (List UInt8)) (k : Nat), ws ≠ [] → (∀ w ∈ ws, ∀ c ∈ w, c ≠ d) → ws.length ≤ k + 1 → splitK [d] 0 k (gl d ws) = ws
  | [], _, h, _, _ => absurd rfl h
  | [a], k, _, h, _ => by
    have hi := index_none (h a (by simp))
    cases k with
    | zero => rfl
    | succ k => rw [splitK, gl, hi]; rfl
  | a :: b :: r, 0, _, _, hk => by simp at hk
  | a :: b :: r, k + 1, _, h, hk => by
    have hi := index_at a (gl d (b :: r)) (h a (by simp))
    have ih := splitK_gl (b :: r) k (by simp) (fun w hw => h w (by simp at hw ⊢; exact .inr hw)) (by simp at hk ⊢; omega)
    rw [splitK, gl, hi, if_neg (by simp only [beq_iff_eq]; omega)]
    have e1 : (a ++ d :: gl d (b :: r)).take ((a.length : Int).toNat + 0) = a := by
      rw [Int.toNat_natCast, Nat.add_zero, List.take_left']; rfl
    have e2 : (a ++ d :: gl d (b :: r)).drop ((a.length : Int).toNat + [d].length) = gl d (b :: r) := by
      rw [Int.toNat_natCast, List.length_singleton, List.drop_append]
      simp
    rw [e1, e2, ih]
/-- A list of bytes. -/
abbrev bs (l : List UInt8) : ByteArray := ⟨l.toArray⟩
theorem bs_of (s : ByteArray) : bs s.data.toList = s := by cases s; rfl
theorem bs_inj {a b : List UInt8} (h : bs a = bs b) : a = b := by
  have := congrArg (fun x : ByteArray => x.data.toList) h
  simpa using this
theorem split_gl {d : UInt8} (s : ByteArray) (ws : List (List UInt8)) (k : Nat) (h : ws ≠ []) (hn : ∀ w ∈ ws, ∀ c ∈ w, c ≠ d) (hk : ws.length ≤ k + 1) (e : s.data.toList = gl d ws) : splitB ⟨#[d]⟩ 0 k s = ws.map bs := by
  have h1 := splitB_data ⟨#[d]⟩ 0 k s
  rw [e, splitK_gl ws k h hn hk] at h1
  rw [← h1, List.map_map]
  have : (bs ∘ fun x : ByteArray => x.data.toList) = id := by funext x; exact bs_of x
  rw [this, List.map_id]

/-! ### Texts -/
/-- A curve's word. -/
def partsT (c : Cw) : List (List UInt8) := [decDigits c.f.toNat, decDigits c.l.toNat, decDigits c.r.toNat]
def wordT (c : Cw) : List UInt8 := gl 47 (partsT c)
theorem parts_no (c : Cw) : ∀ w ∈ partsT c, ∀ x ∈ w, x ≠ 47 := by
  intro w hw
  simp only [partsT, List.mem_cons, List.not_mem_nil, or_false] at hw
  rcases hw with rfl | rfl | rfl <;> exact dec_no 47 (by decide) _
theorem cut_word (c : Cw) : cutd 47 (wordT c) = partsT c := cutd_gl _ (by simp [partsT]) (parts_no c)
theorem word_no (c : Cw) : ∀ x ∈ wordT c, x ≠ 32 := by
  intro x hx
  have h47 : (47 : UInt8) ≠ 32 := by decide
  simp only [wordT, partsT, gl, List.mem_append, List.mem_cons] at hx
  rcases hx with hx | rfl | hx | rfl | hx
  · exact dec_no 32 (by decide) _ x hx
  · exact h47
  · exact dec_no 32 (by decide) _ x hx
  · exact h47
  · exact dec_no 32 (by decide) _ x hx
theorem word_inj {c d : Cw} (hc : c.ok) (hd : d.ok) (h : wordT c = wordT d) : c = d := by
  have e := cut_word c
  rw [h, cut_word d] at e
  simp only [partsT, List.cons.injEq, and_true] at e
  obtain ⟨e1, e2, e3⟩ := e
  obtain ⟨c1, c2, c3⟩ := hc
  obtain ⟨d1, d2, d3⟩ := hd
  have a := decI_inj d1 c1 e1
  have b := decI_inj d2 c2 e2
  have f := decI_inj d3 c3 e3
  cases c; cases d
  simp_all
theorem word_short (c : Cw) (h : c.ok) : (wordT c).length ≤ 62 := by
  obtain ⟨⟨a0, a1⟩, ⟨b0, b1⟩, ⟨c0, c1⟩⟩ := h
  have a := dec_short c.f.toNat (by omega)
  have b := dec_short c.l.toNat (by omega)
  have d := dec_short c.r.toNat (by omega)
  simp only [wordT, partsT, gl, List.length_append, List.length_cons]
  omega
/-- Its first word. -/
def firstT (b : Bool) : List UInt8 := if b then [108, 101, 97, 102] else [105, 110, 110, 101, 114]
theorem first_inj {a b : Bool} (h : firstT a = firstT b) : a = b := by
  cases a <;> cases b <;> first | rfl | (exfalso; revert h; decide)
theorem first_no (b : Bool) : ∀ x ∈ firstT b, x ≠ 32 := by cases b <;> decide
theorem first_leaf (b : Bool) : (firstT b = [108, 101, 97, 102]) ↔ b = true := by cases b <;> decide
/-- A spec's words, and its text. -/
def wordsT (p : Sp) : List (List UInt8) := [firstT p.leaf, decDigits p.id.toNat, decDigits p.par.toNat, wordT p.re, wordT p.sh, wordT p.up, decDigits p.pk.toNat, decDigits p.bt.toNat]
def txt (p : Sp) : List UInt8 := gl 32 (wordsT p)
theorem words_no (p : Sp) : ∀ w ∈ wordsT p, ∀ x ∈ w, x ≠ 32 := by
  intro w hw
  simp only [wordsT, List.mem_cons, List.not_mem_nil, or_false] at hw
  rcases hw with rfl | rfl | rfl | rfl | rfl | rfl | rfl | rfl
  · exact first_no _
  · exact dec_no 32 (by decide) _
  · exact dec_no 32 (by decide) _
  · exact word_no _
  · exact word_no _
  · exact word_no _
  · exact dec_no 32 (by decide) _
  · exact dec_no 32 (by decide) _
theorem cut_txt (p : Sp) : cutd 32 (txt p) = wordsT p := cutd_gl _ (by simp [wordsT]) (words_no p)
theorem i64_word {x : Int} (h : I64 x) (g : 0 ≤ x) : Word x := by unfold I64 at h; unfold Word; omega
theorem words_inj {p q : Sp} (hp : p.ok) (gp : p.good) (hq : q.ok) (gq : q.good) (h : wordsT p = wordsT q) : p = q := by
  simp only [wordsT, List.cons.injEq, and_true] at h
  obtain ⟨e0, e1, e2, e3, e4, e5, e6, e7⟩ := h
  obtain ⟨p1, p2, p3, p4, p5, p6, p7⟩ := hp
  obtain ⟨q1, q2, q3, q4, q5, q6, q7⟩ := hq
  obtain ⟨g1, g2, g3, g4⟩ := gp
  obtain ⟨k1, k2, k3, k4⟩ := gq
  have a := first_inj e0
  have b := decI_inj (i64_word p1 g1) (i64_word q1 k1) e1
  have c := decI_inj (i64_word p2 g2) (i64_word q2 k2) e2
  have d := word_inj p3 q3 e3
  have e := word_inj p4 q4 e4
  have f := word_inj p5 q5 e5
  have g := decI_inj (i64_word p6 g3) (i64_word q6 k3) e6
  have i := decI_inj (i64_word p7 g4) (i64_word q7 k4) e7
  cases p; cases q
  simp_all
theorem txt_inj {p q : Sp} (hp : p.ok) (gp : p.good) (hq : q.ok) (gq : q.good) (h : txt p = txt q) : p = q := by
  have e := cut_txt p
  rw [h, cut_txt q] at e
  exact words_inj hp gp hq gq e.symm
theorem txt_short (p : Sp) (h : p.ok) (g : p.good) : (txt p).length ≤ 300 := by
  obtain ⟨p1, p2, p3, p4, p5, p6, p7⟩ := h
  obtain ⟨g1, g2, g3, g4⟩ := g
  unfold I64 at p1 p2 p6 p7
  have a := dec_short p.id.toNat (by omega)
  have b := dec_short p.par.toNat (by omega)
  have c := dec_short p.pk.toNat (by omega)
  have d := dec_short p.bt.toNat (by omega)
  have e := word_short _ p3
  have f := word_short _ p4
  have i := word_short _ p5
  have k : (firstT p.leaf).length ≤ 5 := by cases p.leaf <;> decide
  simp only [txt, wordsT, gl, List.length_append, List.length_cons]
  omega

/-! ### What is told of a word, of a text -/
/-- A curve, and OK; or none, and ErrArg. -/
def IsC (s : List UInt8) (r : Cw) (e : Int) : Prop :=
  (r.ok ∧ s = wordT r ∧ e = 0) ∨ ((∀ c : Cw, c.ok → s ≠ wordT c) ∧ r = Cw.zero ∧ e = 2)
theorem IsC.ok {s : List UInt8} {r : Cw} {e : Int} (h : IsC s r e) : r.ok := by
  rcases h with h | h
  · exact h.1
  · rw [h.2.1]; exact Cw.zero_ok
theorem IsC.unique {s : List UInt8} {r r' : Cw} {e e' : Int} (h : IsC s r e) (h' : IsC s r' e') : r = r' ∧ e = e' := by
  rcases h with ⟨a, b, c⟩ | ⟨a, b, c⟩
  · rcases h' with ⟨a', b', c'⟩ | ⟨a', b', c'⟩
    · exact ⟨word_inj a a' (b ▸ b'), by rw [c, c']⟩
    · exact absurd b (a' r a)
  · rcases h' with ⟨a', b', c'⟩ | ⟨a', b', c'⟩
    · exact absurd b' (a r' a')
    · exact ⟨by rw [b, b'], by rw [c, c']⟩
theorem IsC.of_word {c : Cw} (h : c.ok) {r : Cw} {e : Int} (k : IsC (wordT c) r e) : r = c ∧ e = 0 :=
  k.unique (.inl ⟨h, rfl, rfl⟩)
/-- The spec, and OK; or none, and ErrArg. -/
def IsS (s : List UInt8) (r : Sp) (e : Int) : Prop :=
  (r.ok ∧ r.good ∧ s = txt r ∧ e = 0) ∨ ((∀ p : Sp, p.ok → p.good → s ≠ txt p) ∧ r = Sp.zero ∧ e = 2)
theorem IsS.ok {s : List UInt8} {r : Sp} {e : Int} (h : IsS s r e) : r.ok := by
  rcases h with h | h
  · exact h.1
  · rw [h.2.1]; exact Sp.zero_ok
theorem IsS.unique {s : List UInt8} {r r' : Sp} {e e' : Int} (h : IsS s r e) (h' : IsS s r' e') : r = r' ∧ e = e' := by
  rcases h with ⟨a, b, c, d⟩ | ⟨a, b, c⟩
  · rcases h' with ⟨a', b', c', d'⟩ | ⟨a', b', c'⟩
    · exact ⟨txt_inj a b a' b' (c ▸ c'), by rw [d, d']⟩
    · exact absurd c (a' r a b)
  · rcases h' with ⟨a', b', c', d'⟩ | ⟨a', b', c'⟩
    · exact absurd c' (a r' a' b')
    · exact ⟨by rw [b, b'], by rw [c, c']⟩
theorem IsS.of_txt {p : Sp} (h : p.ok) (g : p.good) {r : Sp} {e : Int} (k : IsS (txt p) r e) : r = p ∧ e = 0 :=
  k.unique (.inl ⟨h, g, rfl, rfl⟩)

/-! ### As the program goes: whatever was read, its text is compared -/
/-- A number read from a word: the one whose digits these are, else whatever. -/
def IsI (s : List UInt8) (n : Int) : Prop := I64 n ∧ ∀ u : Nat, u < 9223372036854775808 → s = decDigits u → n = (u : Int)
def IsU (s : List UInt8) (n : Int) : Prop := Word n ∧ ∀ u : Nat, u < 18446744073709551616 → s = decDigits u → n = (u : Int)
theorem IsC.of_read {s : List UInt8} {a b c : List UInt8} (hw : ∀ q : Cw, q.ok → s = wordT q → [a, b, c] = partsT q) {x y z : Int} (hx : IsU a x) (hy : IsU b y) (hz : IsU c z) :
    (wordT ⟨x, y, z⟩ = s → IsC s ⟨x, y, z⟩ 0) ∧ (wordT ⟨x, y, z⟩ ≠ s → IsC s Cw.zero 2) := by
  refine ⟨fun h => .inl ⟨⟨hx.1, hy.1, hz.1⟩, h.symm, rfl⟩, fun h => .inr ⟨fun q hq e => h ?_, rfl, rfl⟩⟩
  have k := hw q hq e
  simp only [partsT, List.cons.injEq, and_true] at k
  obtain ⟨k1, k2, k3⟩ := k
  obtain ⟨⟨q1, q1'⟩, ⟨q2, q2'⟩, ⟨q3, q3'⟩⟩ := hq
  have a1 := hx.2 _ (by omega) k1
  have a2 := hy.2 _ (by omega) k2
  have a3 := hz.2 _ (by omega) k3
  have : (⟨x, y, z⟩ : Cw) = q := by
    cases q
    simp only [Cw.mk.injEq]
    simp only at a1 a2 a3 q1 q2 q3
    omega
  rw [this, e]
theorem IsC.of_few {s : List UInt8} (hw : ∀ q : Cw, q.ok → s ≠ wordT q) : IsC s Cw.zero 2 := .inr ⟨hw, rfl, rfl⟩
theorem IsS.of_read {s : List UInt8} {w0 w1 w2 w3 w4 w5 w6 w7 : List UInt8} (hw : ∀ q : Sp, q.ok → q.good → s = txt q → [w0, w1, w2, w3, w4, w5, w6, w7] = wordsT q) {i p k b : Int} {x y z : Cw} {ex ey ez : Int} {l : Bool}
    (hl : l = true ↔ w0 = [108, 101, 97, 102]) (hi : IsI w1 i) (hp : IsI w2 p) (hx : IsC w3 x ex) (hy : IsC w4 y ey) (hz : IsC w5 z ez) (hk : IsI w6 k) (hb : IsI w7 b) :
    ((⟨i, p, l, x, y, z, k, b⟩ : Sp).good → txt ⟨i, p, l, x, y, z, k, b⟩ = s → IsS s ⟨i, p, l, x, y, z, k, b⟩ 0) ∧
    (¬ ((⟨i, p, l, x, y, z, k, b⟩ : Sp).good ∧ txt ⟨i, p, l, x, y, z, k, b⟩ = s) → IsS s Sp.zero 2) := by
  refine ⟨fun g h => .inl ⟨⟨hi.1, hp.1, hx.ok, hy.ok, hz.ok, hk.1, hb.1⟩, g, h.symm, rfl⟩, fun h => .inr ⟨fun q hq gq e => h ?_, rfl, rfl⟩⟩
  have f := hw q hq gq e
  simp only [wordsT, List.cons.injEq, and_true] at f
  obtain ⟨f0, f1, f2, f3, f4, f5, f6, f7⟩ := f
  obtain ⟨q1, q2, q3, q4, q5, q6, q7⟩ := hq
  have gq' := gq
  obtain ⟨g1, g2, g3, g4⟩ := gq'
  unfold I64 at q1 q2 q6 q7
  have a1 := hi.2 _ (by omega) f1
  have a2 := hp.2 _ (by omega) f2
  have a6 := hk.2 _ (by omega) f6
  have a7 := hb.2 _ (by omega) f7
  rw [f3] at hx
  rw [f4] at hy
  rw [f5] at hz
  have a3 := (hx.of_word q3).1
  have a4 := (hy.of_word q4).1
  have a5 := (hz.of_word q5).1
  have a0 : l = q.leaf := by
    have t := first_leaf q.leaf
    rw [← f0] at t
    have t := hl.trans t
    cases l <;> cases hq : q.leaf <;> simp_all
  have : (⟨i, p, l, x, y, z, k, b⟩ : Sp) = q := by
    cases q
    simp only [Sp.mk.injEq]
    simp only at a0 a1 a2 a3 a4 a5 a6 a7 g1 g2 g3 g4
    refine ⟨by omega, by omega, a0, a3, a4, a5, by omega, by omega⟩
  rw [this]
  exact ⟨gq, e.symm⟩
theorem IsS.of_few {s : List UInt8} (hw : ∀ q : Sp, q.ok → q.good → s ≠ txt q) : IsS s Sp.zero 2 := .inr ⟨hw, rfl, rfl⟩

/-! ### As the document goes: each word is asked whether it is one -/
/-- What the document's Digits has to tell of a word: a number, and whether the word is that number's text. -/
def IsD (s : List UInt8) (n : Int) (is : Bool) : Prop :=
  (0 ≤ n ∧ n < 18446744073709551616) ∧ (is = true → s = decDigits n.toNat) ∧ (∀ u : Nat, u < 18446744073709551616 → s = decDigits u → is = true ∧ n = (u : Int))
theorem IsC.of_cut {s : List UInt8} {a b c : List UInt8} (h : cutd 47 s = [a, b, c]) {x y z : Int} (ha : IsD a x true) (hb : IsD b y true) (hc : IsD c z true) : IsC s ⟨x, y, z⟩ 0 := by
  refine .inl ⟨⟨ha.1, hb.1, hc.1⟩, ?_, rfl⟩
  have g := gl_cutd (d := 47) s
  rw [h, ha.2.1 rfl, hb.2.1 rfl, hc.2.1 rfl] at g
  rw [← g]
  rfl
theorem IsC.of_bad {s : List UInt8} {a : List UInt8} (h : a ∈ cutd 47 s) {x : Int} (ha : IsD a x false) : IsC s Cw.zero 2 := by
  refine .inr ⟨fun q hq e => ?_, rfl, rfl⟩
  rw [e, cut_word] at h
  obtain ⟨⟨q1, q1'⟩, ⟨q2, q2'⟩, ⟨q3, q3'⟩⟩ := hq
  simp only [partsT, List.mem_cons, List.not_mem_nil, or_false] at h
  rcases h with h | h | h
  · exact absurd (ha.2.2 _ (by omega) h).1 (by simp)
  · exact absurd (ha.2.2 _ (by omega) h).1 (by simp)
  · exact absurd (ha.2.2 _ (by omega) h).1 (by simp)
theorem IsC.of_many {s : List UInt8} (h : (cutd 47 s).length ≠ 3) : IsC s Cw.zero 2 :=
  .inr ⟨fun q hq e => h (by rw [e, cut_word]; rfl), rfl, rfl⟩
theorem IsS.of_words {s : List UInt8} {w0 w1 w2 w3 w4 w5 w6 w7 : List UInt8} (h : cutd 32 s = [w0, w1, w2, w3, w4, w5, w6, w7]) {i p k b : Int} {x y z : Cw} {ex ey ez : Int} {i1 i2 i6 i7 : Bool}
    (h1 : IsD w1 i i1) (h2 : IsD w2 p i2) (hx : IsC w3 x ex) (hy : IsC w4 y ey) (hz : IsC w5 z ez) (h6 : IsD w6 k i6) (h7 : IsD w7 b i7) :
    (∀ l : Bool, w0 = firstT l → (i1 = true ∧ i ≤ 9223372036854775807) → (i2 = true ∧ p ≤ 9223372036854775807) → (i6 = true ∧ k ≤ 9223372036854775807) → (i7 = true ∧ b ≤ 9223372036854775807) → ex = 0 → ey = 0 → ez = 0 → IsS s ⟨i, p, l, x, y, z, k, b⟩ 0) ∧
    (¬ ((w0 = firstT true ∨ w0 = firstT false) ∧ (i1 = true ∧ i ≤ 9223372036854775807) ∧ (i2 = true ∧ p ≤ 9223372036854775807) ∧ (i6 = true ∧ k ≤ 9223372036854775807) ∧ (i7 = true ∧ b ≤ 9223372036854775807) ∧ ex = 0 ∧ ey = 0 ∧ ez = 0) → IsS s Sp.zero 2) := by
  obtain ⟨v1, a1, b1⟩ := h1
  obtain ⟨v2, a2, b2⟩ := h2
  obtain ⟨v6, a6, b6⟩ := h6
  obtain ⟨v7, a7, b7⟩ := h7
  refine ⟨fun l e0 e1 e2 e6 e7 e3 e4 e5 => .inl ⟨⟨⟨show -9223372036854775808 ≤ i by omega, show i < 9223372036854775808 by omega⟩, ⟨show -9223372036854775808 ≤ p by omega, show p < 9223372036854775808 by omega⟩, hx.ok, hy.ok, hz.ok, ⟨show -9223372036854775808 ≤ k by omega, show k < 9223372036854775808 by omega⟩, ⟨show -9223372036854775808 ≤ b by omega, show b < 9223372036854775808 by omega⟩⟩, ⟨v1.1, v2.1, v6.1, v7.1⟩, ?_, rfl⟩, fun hn => .inr ⟨fun q hq gq e => hn ?_, rfl, rfl⟩⟩
  · have g := gl_cutd (d := 32) s
    have c3 : w3 = wordT x := by rcases hx with ⟨_, c, _⟩ | ⟨_, _, c⟩; exact c; omega
    have c4 : w4 = wordT y := by rcases hy with ⟨_, c, _⟩ | ⟨_, _, c⟩; exact c; omega
    have c5 : w5 = wordT z := by rcases hz with ⟨_, c, _⟩ | ⟨_, _, c⟩; exact c; omega
    rw [h, e0, a1 e1.1, a2 e2.1, c3, c4, c5, a6 e6.1, a7 e7.1] at g
    rw [← g]
    rfl
  · have g := cut_txt q
    rw [← e, h] at g
    simp only [wordsT, List.cons.injEq, and_true] at g
    obtain ⟨g0, g1, g2, g3, g4, g5, g6, g7⟩ := g
    obtain ⟨q1, q2, q3, q4, q5, q6, q7⟩ := hq
    obtain ⟨k1, k2, k3, k4⟩ := gq
    unfold I64 at q1 q2 q6 q7
    obtain ⟨r1, r1'⟩ := b1 _ (by omega) g1
    obtain ⟨r2, r2'⟩ := b2 _ (by omega) g2
    obtain ⟨r6, r6'⟩ := b6 _ (by omega) g6
    obtain ⟨r7, r7'⟩ := b7 _ (by omega) g7
    rw [g3] at hx
    rw [g4] at hy
    rw [g5] at hz
    refine ⟨?_, ⟨r1, by omega⟩, ⟨r2, by omega⟩, ⟨r6, by omega⟩, ⟨r7, by omega⟩, (hx.of_word q3).2, (hy.of_word q4).2, (hz.of_word q5).2⟩
    rw [g0]
    cases q.leaf
    · exact .inr rfl
    · exact .inl rfl
theorem IsS.of_many {s : List UInt8} (h : (cutd 32 s).length ≠ 8) : IsS s Sp.zero 2 :=
  .inr ⟨fun q hq gq e => h (by rw [e, cut_txt]; rfl), rfl, rfl⟩
end Go.Proofs.YtpopcnebndgblaaGreat
