/- What the document's own Words answers: a text, cut at its blanks. Condition: at most 200 bytes. -/
import Derived.Test.YtkcmfcgoknhodaaDoorSrD
namespace Go.Proofs.YtkcmfcgoknhodaaDoor
open Go.RowKit Go.Lib W
set_option linter.unusedVariables false

abbrev cut : List UInt8 → List (List UInt8) := cutd 32
theorem cut_end (a : List UInt8) (h : ∀ c ∈ a, c ≠ 32) : cut a = [a] := cutd_end a h
theorem cut_blank (a r : List UInt8) (h : ∀ c ∈ a, c ≠ 32) : cut (a ++ 32 :: r) = a :: cut r := cutd_sep a r h
/-- A list of bytes as a string. -/
abbrev str (l : List UInt8) : Value := .string ⟨l.toArray⟩
theorem piece (s : ByteArray) (f k : Nat) (hf : f ≤ k) (hk : k ≤ s.size) : s.extract f k = ⟨((s.data.toList.drop f).take (k - f)).toArray⟩ := by
  apply ByteArray.ext
  rw [ByteArray.data_extract]
  apply Array.ext'
  simp [Array.toList_extract]
theorem cut_step (l : List UInt8) (f k : Nat) (hf : f ≤ k) (hk : k < l.length) (hc : l[k] = 32) (hno : ∀ c ∈ (l.drop f).take (k - f), c ≠ 32) : cut (l.drop f) = (l.drop f).take (k - f) :: cut (l.drop (k + 1)) := by
  have e : l.drop f = (l.drop f).take (k - f) ++ 32 :: l.drop (k + 1) := by
    have h := (List.take_append_drop (k - f) (l.drop f)).symm
    rw [List.drop_drop, show f + (k - f) = k by omega, List.drop_eq_getElem_cons hk, hc] at h
    exact h
  have h := cut_blank ((l.drop f).take (k - f)) (l.drop (k + 1)) hno
  rw [← e] at h
  exact h
theorem no_step (l : List UInt8) (f k : Nat) (hf : f ≤ k) (hk : k < l.length) (hc : l[k] ≠ 32) (hno : ∀ c ∈ (l.drop f).take (k - f), c ≠ 32) : ∀ c ∈ (l.drop f).take (k + 1 - f), c ≠ 32 := by
  have e : (l.drop f).take (k + 1 - f) = (l.drop f).take (k - f) ++ [l[k]] := by
    rw [show k + 1 - f = (k - f) + 1 by omega, List.take_add_one, List.getElem?_drop, show f + (k - f) = k by omega, List.getElem?_eq_getElem hk]
    rfl
  intro c h
  rw [e] at h
  rcases List.mem_append.1 h with h | h
  · exact hno c h
  · simp only [List.mem_singleton] at h
    subst h; exact hc
theorem cut_last (l : List UInt8) (f : Nat) (hno : ∀ c ∈ (l.drop f).take (l.length - f), c ≠ 32) : cut (l.drop f) = [(l.drop f).take (l.length - f)] := by
  have e : (l.drop f).take (l.length - f) = l.drop f := List.take_of_length_le (by rw [List.length_drop]; omega)
  rw [e] at hno ⊢
  exact cut_end _ hno
theorem own_snoc {w : World} {base : Nat} {v : Value} {pre : List (List UInt8)} {x : ByteArray} {l : List UInt8} (h : w.ownsRow base 9 1 v (pre.length + 1) (pre.map str ++ [.string x])) (e : x = ⟨l.toArray⟩) : w.ownsRow base 9 1 v (pre ++ [l]).length ((pre ++ [l]).map str) := by
  rw [e] at h
  rw [List.map_append, List.length_append]
  exact h

set_option maxHeartbeats 4000000 in
set_option maxRecDepth 100000 in
theorem Words_any (s : ByteArray) (w : World) (hs : s.size ≤ 1000) :
    Calls Tryd.prog 17 #[.string s] w fun e w' => (∃ v, e = .returned v ∧ w'.ownsRow w.heap.size 9 1 v (cut s.data.toList).length ((cut s.data.toList).map str)) ∧ Below w.heap.size w w' := by
  obtain ⟨i0, hi, hz0, hz1, hz2⟩ := info_parts infoS
  go_enter Tryd.func17, Tryd.ntmps17
  go_wp2
  go_loopw [3, 4, 5] (fun v fr i wr => ∃ (k f : Nat) (pre : List (List UInt8)), i = .int .i64 k ∧ fr = .int .i64 f ∧ wr.ownsRow w.heap.size 9 1 v pre.length (pre.map str) ∧ Below w.heap.size w wr ∧ pre.length ≤ k ∧
      ((k ≤ s.size ∧ f ≤ k ∧ (∀ c ∈ (s.data.toList.drop f).take (k - f), c ≠ 32) ∧ cut s.data.toList = pre ++ cut (s.data.toList.drop f)) ∨ (k = s.size + 1 ∧ cut s.data.toList = pre))) (fun _ _ i _ => s.size + 1 - (Lib.intOf i).toNat)
  case atStart => exact ⟨0, 0, [], rfl, rfl, World.ownsRow_nil _ _ _ _, Below.refl _ _, by simp, .inl ⟨by omega, by omega, by simp, rfl⟩⟩
  case round =>
    obtain ⟨k, f, pre, rfl, rfl, hown, hbw, hpk, hor⟩ := hrel
    rcases hor with ⟨hk, hf, hno, hcut⟩ | ⟨hk, hcut⟩
    · have hl : s.data.toList.length = s.size := by rw [Array.length_toList]; rfl
      have hE := Lib.hid (piece s f k hf hk)
      have hB : ∀ {v' w'} (g : World.grownBy (wr.alloc (.cells #[.string (s.extract f k)] 9)) w' v'), (∀ g, v' = some g → w.heap.size ≤ g) → Below w.heap.size w w' := fun g h => (hbw.alloc hbw.size _).grown g (by have := hbw.size; simp; omega) h
      replace hcut := Lib.hid hcut
      replace hno := Lib.hid hno
      by_cases hk1 : k < s.size
      · have hkn : ((k : Int) == (s.size : Int)) = false := beq_eq_false_iff_ne.2 (by omega)
        by_cases h32 : (s[k]'hk1).toNat = 32
        · have hb : (((s[k]'hk1).toNat : Int) == 32) = true := by simp [h32]
          have hc : s.data.toList[k]'(by omega) = 32 := UInt8.toNat_inj.1 h32
          have hst := Lib.hid (cut_step s.data.toList f k hf (by omega) hc hno.out)
          clear h32 hc
          go_wp2_with (first
            | (at_builtin; refine wpList_append_own _ rfl _ _ 44 rfl w.heap.size 9 i0 (.string ⟨#[]⟩) 1 16 Tryd.underlying44 hi hz0 hz1 hz2 rfl (by decide) _ _ _ rfl (hown.alloc _) ⟨_, 0, none⟩ 1 1 [.string (s.extract f k)] rfl rfl (one_news _ _ _) (one_str _) (by unfold maxLen; omega) (by omega) (by have := hbw.size; simp; omega) ?_; intro v' w' hown' hgrow _))
          go_wp2
          refine ⟨⟨k + 1, k + 1, pre ++ [(s.data.toList.drop f).take (k - f)], by rw [Int.natCast_add]; rfl, by rw [Int.natCast_add]; rfl, own_snoc hown' hE.out, hB hgrow (fun g e => (hown.lt g e).1), by simp; omega, .inl ⟨by omega, by omega, by simp, ?_⟩⟩, by simp [Lib.intOf]; omega⟩
          rw [hcut.out, hst.out]; simp
        · have hb : (((s[k]'hk1).toNat : Int) == 32) = false := beq_eq_false_iff_ne.2 (by omega)
          have hc : s.data.toList[k]'(by omega) ≠ 32 := fun e => h32 (by have := congrArg UInt8.toNat e; exact this)
          have hst := Lib.hid (no_step s.data.toList f k hf (by omega) hc hno.out)
          clear h32 hc hB
          go_wp2
          exact ⟨⟨k + 1, f, pre, by rw [Int.natCast_add]; rfl, rfl, hown, hbw, by omega, .inl ⟨by omega, by omega, hst.out, hcut.out⟩⟩, by simp [Lib.intOf]; omega⟩
      · have hks : k = s.size := by omega
        have hkn : ((k : Int) == (s.size : Int)) = true := by simp [hks]
        have hst := Lib.hid (cut_last s.data.toList f (by rw [hl, ← hks]; exact hno.out))
        replace hks := Lib.hid hks
        go_wp2_with (first
          | (at_builtin; refine wpList_append_own _ rfl _ _ 44 rfl w.heap.size 9 i0 (.string ⟨#[]⟩) 1 16 Tryd.underlying44 hi hz0 hz1 hz2 rfl (by decide) _ _ _ rfl (hown.alloc _) ⟨_, 0, none⟩ 1 1 [.string (s.extract f k)] rfl rfl (one_news _ _ _) (one_str _) (by unfold maxLen; omega) (by omega) (by have := hbw.size; simp; omega) ?_; intro v' w' hown' hgrow _))
        go_wp2
        refine ⟨⟨k + 1, k + 1, pre ++ [(s.data.toList.drop f).take (k - f)], by rw [Int.natCast_add]; rfl, by rw [Int.natCast_add]; rfl, own_snoc hown' hE.out, hB hgrow (fun g e => (hown.lt g e).1), by simp; omega, .inr ⟨by rw [hks.out], ?_⟩⟩, by simp [Lib.intOf]; omega⟩
        rw [hcut.out, hst.out, hl, hks.out]
    · replace hcut := Lib.hid hcut
      subst hk
      go_wp2
      go_ret
      exact ⟨⟨_, rfl, by rw [hcut.out]; exact hown⟩, hbw⟩
end Go.Proofs.YtkcmfcgoknhodaaDoor
