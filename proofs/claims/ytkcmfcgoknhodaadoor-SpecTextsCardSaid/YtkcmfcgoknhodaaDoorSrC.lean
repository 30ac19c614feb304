/- What the document's own Curve tells of a word. Condition: at most 1000 bytes. -/
import Derived.Test.YtkcmfcgoknhodaaDoorSrT
namespace Go.Proofs.YtkcmfcgoknhodaaDoor
open Go.RowKit Go.Lib W
set_option linter.unusedVariables false
theorem infoU : (Tryd.prog.info? 22).map (fun i => (i.zero, i.size, i.bytes)) = some (some (.int .u64 0), 1, 8) := by kernel_rfl
theorem one_int (x : Int) : ∀ u ∈ [Value.int .u64 x], u.oneCell' = true := by
  intro u hu
  simp only [List.mem_singleton] at hu
  subst hu; rfl
theorem cutd_step {d : UInt8} (l : List UInt8) (f k : Nat) (hf : f ≤ k) (hk : k < l.length) (hc : l[k] = d) (hno : ∀ c ∈ (l.drop f).take (k - f), c ≠ d) : cutd d (l.drop f) = (l.drop f).take (k - f) :: cutd d (l.drop (k + 1)) := by
  have e : l.drop f = (l.drop f).take (k - f) ++ d :: l.drop (k + 1) := by
    have h := (List.take_append_drop (k - f) (l.drop f)).symm
    rw [List.drop_drop, show f + (k - f) = k by omega, List.drop_eq_getElem_cons hk, hc] at h
    exact h
  have h := cutd_sep ((l.drop f).take (k - f)) (l.drop (k + 1)) hno
  rw [← e] at h
  exact h
theorem nod_step {d : UInt8} (l : List UInt8) (f k : Nat) (hf : f ≤ k) (hk : k < l.length) (hc : l[k] ≠ d) (hno : ∀ c ∈ (l.drop f).take (k - f), c ≠ d) : ∀ c ∈ (l.drop f).take (k + 1 - f), c ≠ d := by
  have e : (l.drop f).take (k + 1 - f) = (l.drop f).take (k - f) ++ [l[k]] := by
    rw [show k + 1 - f = (k - f) + 1 by omega, List.take_add_one, List.getElem?_drop, show f + (k - f) = k by omega, List.getElem?_eq_getElem hk]
    rfl
  intro c h
  rw [e] at h
  rcases List.mem_append.1 h with h | h
  · exact hno c h
  · simp only [List.mem_singleton] at h
    subst h; exact hc
theorem cutd_last {d : UInt8} (l : List UInt8) (f : Nat) (hno : ∀ c ∈ (l.drop f).take (l.length - f), c ≠ d) : cutd d (l.drop f) = [(l.drop f).take (l.length - f)] := by
  have e : (l.drop f).take (l.length - f) = l.drop f := List.take_of_length_le (by rw [List.length_drop]; omega)
  rw [e] at hno ⊢
  exact cutd_end _ hno
theorem own_slice {w : World} {base : Nat} {e : TypeId} {size : Nat} {v : Value} {n : Nat} {xs : List Value} (h : w.ownsRow base e size v n xs) : ∃ a c, v = .slice a n c := by
  rcases h.2 with ⟨e, h0⟩ | ⟨g, cap, cur, rfl, _⟩
  · exact ⟨none, 0, by rw [e, h0]⟩
  · exact ⟨_, _, rfl⟩
abbrev nuV (l : List UInt8) : Value := .int .u64 (dgN l)
theorem own_snocU {w : World} {base : Nat} {v : Value} {pre : List (List UInt8)} {l : List UInt8} (h : w.ownsRow base 22 1 v (pre.length + 1) (pre.map nuV ++ [.int .u64 (dgN l)])) : w.ownsRow base 22 1 v (pre ++ [l]).length ((pre ++ [l]).map nuV) := by
  rw [List.map_append, List.length_append]
  exact h
theorem Digits_of (s : ByteArray) (w : World) : Calls Tryd.prog 18 #[.string s] w fun e w' => e = .returned (.tuple #[.int .u64 (dgN s.data.toList), .bool (dgB s.data.toList)]) ∧ Below w.heap.size w w' := Digits_any s w
theorem Digits_piece (s x : ByteArray) (l : List UInt8) (hx : x = ⟨l.toArray⟩) (b : Bool) (hb : dgB l = b) (w : World) : Calls Tryd.prog 18 #[.string x] w fun e w' => e = .returned (.tuple #[.int .u64 (dgN l), .bool b]) ∧ Below w.heap.size w w' := by
  subst hx hb
  exact Digits_of ⟨l.toArray⟩ w
set_option maxHeartbeats 8000000 in
set_option maxRecDepth 100000 in
theorem rCurve_of (s : ByteArray) (w : World) (hs : s.size ≤ 1000) (r : Cw) (ee : Int)
    (hbad : ∀ x ∈ cutd 47 s.data.toList, dgB x = false → r = Cw.zero ∧ ee = 2)
    (hmany : (cutd 47 s.data.toList).length ≠ 3 → r = Cw.zero ∧ ee = 2)
    (hok : ∀ a b c, cutd 47 s.data.toList = [a, b, c] → dgB a = true → dgB b = true → dgB c = true → r = ⟨dgN a, dgN b, dgN c⟩ ∧ ee = 0) :
    Calls Tryd.prog 9 #[.string s] w fun e w' => e = .returned (.tuple #[.agg #[.int .u64 r.f, .int .u64 r.l, .int .u64 r.r], .int .i64 ee]) ∧ Below w.heap.size w w' := by
  obtain ⟨i0, hi, hz0, hz1, hz2⟩ := info_parts infoU
  have B0 := Bl.new w 24 z3
  have T0 := up1 w (.cells z3 24)
  replace hbad := Lib.hid hbad
  replace hmany := Lib.hid hmany
  replace hok := Lib.hid hok
  go_enter Tryd.func9, Tryd.ntmps9
  go_wp2
  go_loopw [4, 5, 6] (fun v fr i wr => ∃ (k f : Nat) (pre : List (List UInt8)), i = .int .i64 k ∧ fr = .int .i64 f ∧ wr.ownsRow (w.heap.size + 1) 22 1 v pre.length (pre.map nuV) ∧ Bl wr w.heap.size z3 24 ∧ Below w.heap.size w wr ∧ w.heap.size + 1 ≤ wr.heap.size ∧ pre.length ≤ k ∧ (∀ x ∈ pre, dgB x = true) ∧
      ((k ≤ s.size ∧ f ≤ k ∧ (∀ c ∈ (s.data.toList.drop f).take (k - f), c ≠ 47) ∧ cutd 47 s.data.toList = pre ++ cutd 47 (s.data.toList.drop f)) ∨ (k = s.size + 1 ∧ cutd 47 s.data.toList = pre))) (fun _ _ i _ => s.size + 1 - (Lib.intOf i).toNat)
  case atStart => exact ⟨0, 0, [], rfl, rfl, World.ownsRow_nil _ _ _ _, B0, T0, by simp, by simp, by simp, .inl ⟨by omega, by omega, by simp, rfl⟩⟩
  case round =>
    obtain ⟨k, f, pre, rfl, rfl, hown, hB, hbw, hsz, hpk, hall, hor⟩ := hrel
    replace hall := Lib.hid hall
    have hl : s.data.toList.length = s.size := by rw [Array.length_toList]; rfl
    rcases hor with ⟨hk, hf, hno, hcut⟩ | ⟨hk, hcut⟩
    · have hE := Lib.hid (piece s f k hf hk)
      replace hcut := Lib.hid hcut
      replace hno := Lib.hid hno
      have hle : (k : Int) ≤ (s.size : Int) := by omega
      by_cases hk1 : k < s.size
      · have hlt : (k : Int) < (s.size : Int) := by omega
        by_cases h47 : (s[k]'hk1).toNat = 47
        · have hb : (((s[k]'hk1).toNat : Int) == 47) = true := by simp [h47]
          have hc : s.data.toList[k]'(by omega) = 47 := UInt8.toNat_inj.1 h47
          have hst := Lib.hid (cutd_step s.data.toList f k hf (by omega) hc hno.out)
          have hmem : (s.data.toList.drop f).take (k - f) ∈ cutd 47 s.data.toList := by rw [hcut.out, hst.out]; simp
          replace hmem := Lib.hid hmem
          clear h47 hc
          cases hd : dgB ((s.data.toList.drop f).take (k - f))
          · have hD := fun w => Digits_piece s (s.extract f k) _ hE.out false hd w
            obtain ⟨e1, e2⟩ := hbad.out _ hmem.out hd
            replace hd := Lib.hid hd
            subst e1 e2
            go_wp2_with (go_at_call 18; (with_reducible refine (hD _).mono ?_); rintro e w2 ⟨rfl, hb⟩; replace hown := own_below hown hb; replace hB := hB.below hb; replace hbw := sps hbw hb hbw.size; replace hsz := Nat.le_trans hsz hb.size; clear hb; obtain ⟨c0, c1, c2, f0, f1, f2⟩ := id hB.tri3)
            exact bodyPost_ret (v := .tuple #[.agg #[.int .u64 0, .int .u64 0, .int .u64 0], .int .i64 2]) (by simp [results, Tryd.results9, go_sem, c0, c1, c2]) rfl ⟨rfl, ((hbw.setCell (Nat.le_refl _) _).setCell (Nat.le_refl _) _).setCell (Nat.le_refl _) _⟩
          · have hD := fun w => Digits_piece s (s.extract f k) _ hE.out true hd w
            replace hd := Lib.hid hd
            go_wp2_with (first
              | (go_at_call 18; (with_reducible refine (hD _).mono ?_); rintro e w2 ⟨rfl, hb⟩; replace hown := own_below hown hb; replace hB := hB.below hb; replace hbw := sps hbw hb hbw.size; replace hsz := Nat.le_trans hsz hb.size; clear hb; obtain ⟨c0, c1, c2, f0, f1, f2⟩ := id hB.tri3)
              | (at_builtin; refine wpList_append_own _ rfl _ _ 53 rfl (w.heap.size + 1) 22 i0 (.int .u64 0) 1 8 Tryd.underlying53 hi hz0 hz1 hz2 rfl (by decide) _ _ _ rfl (hown.alloc _) ⟨_, 0, none⟩ 1 1 [.int .u64 (dgN ((s.data.toList.drop f).take (k - f)))] rfl rfl (one_news _ _ _) (one_int _) (by unfold maxLen; omega) (by omega) (by simp; omega) ?_; intro v' w' hown' hgrow _))
            go_wp2
            have hB' := (hB.alloc (.cells #[.int .u64 (dgN ((s.data.toList.drop f).take (k - f)))] 22))
            refine ⟨⟨k + 1, k + 1, pre ++ [(s.data.toList.drop f).take (k - f)], by rw [Int.natCast_add]; rfl, by rw [Int.natCast_add]; rfl, own_snocU hown', (hgrow.block w.heap.size hB'.lt (fun e => by have := (hown.lt _ e.symm).1; omega)).trans hB', (hbw.alloc hbw.size _).grown hgrow (by have := hbw.size; simp; omega) (fun k e => by have := (hown.lt k e).1; omega), (by have := hgrow.size; simp at this; omega), by simp; omega, ?_, .inl ⟨by omega, by omega, by simp, ?_⟩⟩, by simp [Lib.intOf]; omega⟩
            · intro x hx
              rcases List.mem_append.1 hx with hx | hx
              · exact hall.out x hx
              · simp only [List.mem_singleton] at hx
                subst hx; exact hd.out
            · rw [hcut.out, hst.out]; simp
        · have hb : (((s[k]'hk1).toNat : Int) == 47) = false := beq_eq_false_iff_ne.2 (by omega)
          have hc : s.data.toList[k]'(by omega) ≠ 47 := fun e => h47 (by have := congrArg UInt8.toNat e; exact this)
          have hst := Lib.hid (nod_step s.data.toList f k hf (by omega) hc hno.out)
          clear h47 hc
          go_wp2
          exact ⟨⟨k + 1, f, pre, by rw [Int.natCast_add]; rfl, rfl, hown, hB, hbw, hsz, by omega, hall.out, .inl ⟨by omega, by omega, hst.out, hcut.out⟩⟩, by simp [Lib.intOf]; omega⟩
      · have hks : k = s.size := by omega
        have hlt : ¬ (k : Int) < (s.size : Int) := by omega
        have hst := Lib.hid (cutd_last s.data.toList f (by rw [hl, ← hks]; exact hno.out))
        have hmem : (s.data.toList.drop f).take (k - f) ∈ cutd 47 s.data.toList := by rw [hcut.out, hst.out, hl, hks]; simp
        replace hmem := Lib.hid hmem
        replace hks := Lib.hid hks
        cases hd : dgB ((s.data.toList.drop f).take (k - f))
        · have hD := fun w => Digits_piece s (s.extract f k) _ hE.out false hd w
          obtain ⟨e1, e2⟩ := hbad.out _ hmem.out hd
          replace hd := Lib.hid hd
          subst e1 e2
          go_wp2_with (go_at_call 18; (with_reducible refine (hD _).mono ?_); rintro e w2 ⟨rfl, hb⟩; replace hown := own_below hown hb; replace hB := hB.below hb; replace hbw := sps hbw hb hbw.size; replace hsz := Nat.le_trans hsz hb.size; clear hb; obtain ⟨c0, c1, c2, f0, f1, f2⟩ := id hB.tri3)
          exact bodyPost_ret (v := .tuple #[.agg #[.int .u64 0, .int .u64 0, .int .u64 0], .int .i64 2]) (by simp [results, Tryd.results9, go_sem, c0, c1, c2]) rfl ⟨rfl, ((hbw.setCell (Nat.le_refl _) _).setCell (Nat.le_refl _) _).setCell (Nat.le_refl _) _⟩
        · have hD := fun w => Digits_piece s (s.extract f k) _ hE.out true hd w
          replace hd := Lib.hid hd
          go_wp2_with (first
            | (go_at_call 18; (with_reducible refine (hD _).mono ?_); rintro e w2 ⟨rfl, hb⟩; replace hown := own_below hown hb; replace hB := hB.below hb; replace hbw := sps hbw hb hbw.size; replace hsz := Nat.le_trans hsz hb.size; clear hb; obtain ⟨c0, c1, c2, f0, f1, f2⟩ := id hB.tri3)
            | (at_builtin; refine wpList_append_own _ rfl _ _ 53 rfl (w.heap.size + 1) 22 i0 (.int .u64 0) 1 8 Tryd.underlying53 hi hz0 hz1 hz2 rfl (by decide) _ _ _ rfl (hown.alloc _) ⟨_, 0, none⟩ 1 1 [.int .u64 (dgN ((s.data.toList.drop f).take (k - f)))] rfl rfl (one_news _ _ _) (one_int _) (by unfold maxLen; omega) (by omega) (by simp; omega) ?_; intro v' w' hown' hgrow _))
          go_wp2
          have hB' := (hB.alloc (.cells #[.int .u64 (dgN ((s.data.toList.drop f).take (k - f)))] 22))
          refine ⟨⟨k + 1, k + 1, pre ++ [(s.data.toList.drop f).take (k - f)], by rw [Int.natCast_add]; rfl, by rw [Int.natCast_add]; rfl, own_snocU hown', (hgrow.block w.heap.size hB'.lt (fun e => by have := (hown.lt _ e.symm).1; omega)).trans hB', (hbw.alloc hbw.size _).grown hgrow (by have := hbw.size; simp; omega) (fun k e => by have := (hown.lt k e).1; omega), (by have := hgrow.size; simp at this; omega), by simp; omega, ?_, .inr ⟨by rw [hks.out], ?_⟩⟩, by simp [Lib.intOf]; omega⟩
          · intro x hx
            rcases List.mem_append.1 hx with hx | hx
            · exact hall.out x hx
            · simp only [List.mem_singleton] at hx
              subst hx; exact hd.out
          · rw [hcut.out, hst.out, hl, hks.out]
    · replace hcut := Lib.hid hcut
      have hlt : ¬ (k : Int) ≤ (s.size : Int) := by omega
      have hks := Lib.hid hk
      clear hk
      obtain ⟨c0, c1, c2, f0, f1, f2⟩ := id hB.tri3
      by_cases h3 : pre.length = 3
      · obtain ⟨a, b, c, rfl⟩ := list3 h3
        obtain ⟨e1, e2⟩ := hok.out a b c hcut.out (hall.out a (by simp)) (hall.out b (by simp)) (hall.out c (by simp))
        subst e1 e2
        obtain ⟨g, cap, rfl, hg, hlt2, hcap, _, hcells⟩ := own_some hown (by simp)
        have q0 : wr.cell? ⟨g, 0, none⟩ = some (nuV a) := by have := hcells 0 (nuV a) rfl; rwa [Lib.add_plain] at this
        have q1 : wr.cell? ⟨g, 1, none⟩ = some (nuV b) := by have := hcells 1 (nuV b) rfl; rwa [Lib.add_plain] at this
        have q2 : wr.cell? ⟨g, 2, none⟩ = some (nuV c) := by have := hcells 2 (nuV c) rfl; rwa [Lib.add_plain] at this
        have hgB : g ≠ w.heap.size := by omega
        clear hcells hown h3
        go_wp2
        go_region
        go_wp2
        exact bodyPost_ret (v := .tuple #[.agg #[.int .u64 (dgN a), .int .u64 (dgN b), .int .u64 (dgN c)], .int .i64 0]) (by simp [results, Tryd.results9, go_sem, c0, c1, c2]) rfl ⟨rfl, (((hbw.setCell (Nat.le_refl _) _).setCell (Nat.le_refl _) _).setCell (Nat.le_refl _) _).drew⟩
      · obtain ⟨e1, e2⟩ := hmany.out (by rw [hcut.out]; exact h3)
        subst e1 e2
        have h3' : ((pre.length : Int) == 3) = false := beq_eq_false_iff_ne.2 (by omega)
        obtain ⟨sa, sc, rfl⟩ := own_slice hown
        clear h3
        go_wp2
        exact bodyPost_ret (v := .tuple #[.agg #[.int .u64 0, .int .u64 0, .int .u64 0], .int .i64 2]) (by simp [results, Tryd.results9, go_sem, c0, c1, c2]) rfl ⟨rfl, ((hbw.setCell (Nat.le_refl _) _).setCell (Nat.le_refl _) _).setCell (Nat.le_refl _) _⟩
end Go.Proofs.YtkcmfcgoknhodaaDoor
