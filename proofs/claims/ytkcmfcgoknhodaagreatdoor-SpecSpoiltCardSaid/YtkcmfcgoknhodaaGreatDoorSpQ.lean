/- What the program's Parse tells of a text: the spec whose text it is, or none. Condition: the library's tables and errors are laid; the text isn't as long as four thousand million bytes. -/
import Derived.Test.YtkcmfcgoknhodaaGreatDoorSpP
namespace Go.Proofs.YtkcmfcgoknhodaaGreatDoor
open Go.RowKit Go.Lib W
set_option linter.unusedVariables false
theorem list8 {α : Type} {L : List α} (h : L.length = 8) : ∃ a b c d e f g i, L = [a, b, c, d, e, f, g, i] := by
  match L, h with
  | [a, b, c, d, e, f, g, i], _ => exact ⟨a, b, c, d, e, f, g, i, rfl⟩
theorem map_data (ws : List (List UInt8)) : (ws.map bs).map (fun x : ByteArray => x.data.toList) = ws := by
  rw [List.map_map]
  have k : ((fun x : ByteArray => x.data.toList) ∘ bs) = id := by funext x; simp
  rw [k, List.map_id]
theorem toList_data (a : ByteArray) : a.toList = a.data.toList := by rw [ByteArray.toList_eq]
theorem Parse_any (s : ByteArray) (hs : s.size < 4294967281) : ∃ (r : Sp) (e : Int), IsS s.data.toList r e ∧ ∀ w, Lw w →
    Calls Tryz.prog 9 #[.string s] w fun x w' => x = .returned (.tuple #[spW r, .int .i64 e]) ∧ Below w.heap.size w w' := by
  obtain ⟨L, N, hLN, hN, hgl, hsz, hS⟩ := split_any s 32 9 hs (by omega) (by omega)
  have hgl' : ∀ q : Sp, q.ok → q.good → s.data.toList = txt q → L = (wordsT q).map bs := fun q _ _ e => hgl (wordsT q) (by simp [wordsT]) (words_no q) (by simp [wordsT]) e
  by_cases h8 : L.length = 8
  · obtain ⟨w0, w1, w2, w3, w4, w5, w6, w7, rfl⟩ := list8 h8
    obtain ⟨ii, hi, g1⟩ := signed_any w1 (by have := hsz w1 (by simp); omega)
    obtain ⟨qq, hq, g2⟩ := signed_any w2 (by have := hsz w2 (by simp); omega)
    obtain ⟨pk, hk, g6⟩ := signed_any w6 (by have := hsz w6 (by simp); omega)
    obtain ⟨bt, hb, g7⟩ := signed_any w7 (by have := hsz w7 (by simp); omega)
    obtain ⟨x, ex, hx, g3⟩ := Curve_any w3 (by have := hsz w3 (by simp); omega)
    obtain ⟨y, ey, hy, g4⟩ := Curve_any w4 (by have := hsz w4 (by simp); omega)
    obtain ⟨z, ez, hz, g5⟩ := Curve_any w5 (by have := hsz w5 (by simp); omega)
    have hw : ∀ q : Sp, q.ok → q.good → s.data.toList = txt q → [w0.data.toList, w1.data.toList, w2.data.toList, w3.data.toList, w4.data.toList, w5.data.toList, w6.data.toList, w7.data.toList] = wordsT q := fun q hq gq e => by
      have h := hgl' q hq gq e
      have h := congrArg (List.map fun x : ByteArray => x.data.toList) h
      rw [map_data] at h
      exact h
    obtain ⟨lf, hlf⟩ : ∃ lf, (w0.toList == [108, 101, 97, 102]) = lf := ⟨_, rfl⟩
    have hl : lf = true ↔ w0.data.toList = [108, 101, 97, 102] := by rw [← hlf, beq_iff_eq, toList_data]
    obtain ⟨k1, k2⟩ := IsS.of_read hw hl hi hq hx hy hz hk hb
    have hok : (⟨ii, qq, lf, x, y, z, pk, bt⟩ : Sp).ok := ⟨hi.1, hq.1, hx.ok, hy.ok, hz.ok, hk.1, hb.1⟩
    have hR := fun (D : ByteArray) (te : Int) (ca cb : Bool) (h1 : (te == 0) = ca) (h2 : (D.toList == s.toList) = cb) (hX : ∀ w, Lw w → Calls Tryz.prog 8 #[spW ⟨ii, qq, lf, x, y, z, pk, bt⟩] w fun e w' => e = .returned (.tuple #[.string D, .int .i64 te]) ∧ Below w.heap.size w w') (w : World) (hl : Lw w) =>
      Parse_read s w0 w1 w2 w3 w4 w5 w6 w7 D N ii qq pk bt te ex ey ez lf x y z w hl ca cb h1 h2 hS hlf g1 g2 g6 g7 g3 g4 g5 hX
    by_cases g : (⟨ii, qq, lf, x, y, z, pk, bt⟩ : Sp).good
    · by_cases e : txt ⟨ii, qq, lf, x, y, z, pk, bt⟩ = s.data.toList
      · exact ⟨⟨ii, qq, lf, x, y, z, pk, bt⟩, 0, k1 g e, fun w hl => hR (bs (txt ⟨ii, qq, lf, x, y, z, pk, bt⟩)) 0 true true rfl (by rw [e, bs_of]; simp) (fun w hl => Text_good _ hok g w hl) w hl⟩
      · exact ⟨Sp.zero, 2, k2 (fun h => e h.2), fun w hl => hR (bs (txt ⟨ii, qq, lf, x, y, z, pk, bt⟩)) 0 true false rfl (strne (fun h => e (by rw [← h]))) (fun w hl => Text_good _ hok g w hl) w hl⟩
    · obtain ⟨cb, hcb⟩ : ∃ cb, ((⟨#[]⟩ : ByteArray).toList == s.toList) = cb := ⟨_, rfl⟩
      exact ⟨Sp.zero, 2, k2 (fun h => g h.1), fun w hl => hR ⟨#[]⟩ 2 false cb rfl hcb (fun w hl => Text_bad _ g w) w hl⟩
  · refine ⟨Sp.zero, 2, IsS.of_few (fun q hq gq e => h8 (by rw [hgl' q hq gq e]; rfl)), fun w hl => Parse_few s L N ?_ w hS⟩
    rw [beq_eq_false_iff_ne]
    omega
end Go.Proofs.YtkcmfcgoknhodaaGreatDoor
