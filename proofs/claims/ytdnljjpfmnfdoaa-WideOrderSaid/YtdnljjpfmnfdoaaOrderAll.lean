/- The walk of WideOrder: every case. No condition but that words are words. -/
import Derived.Test.YtdnljjpfmnfdoaaOrderWalk
namespace Go.Proofs.Ytdnljjpfmnfdoaa.wideOrder
open Go.RowKit W
set_option linter.unusedVariables false

theorem p_word {a b c d : Int} (ha : Word a) (hb : Word b) (hc : Word c) (hd : Word d) : Word (pH a b c d) ∧ Word (pL a b c d) := by
  unfold Word at *
  unfold pH pL V
  split <;> exact ⟨⟨by omega, by omega⟩, by omega, by omega⟩
theorem p_V {a b c d : Int} (h : V a b + V c d < 340282366920938463463374607431768211456) : pE a b c d = 0 ∧ V (pH a b c d) (pL a b c d) = V a b + V c d := by
  unfold pE pH pL
  rw [if_pos h, if_pos h, if_pos h]
  refine ⟨rfl, ?_⟩
  generalize V a b + V c d = t
  unfold V; omega
theorem p_no {a b c d : Int} (h : ¬ V a b + V c d < 340282366920938463463374607431768211456) : pE a b c d = 10 := by
  unfold pE; rw [if_neg h]
theorem m_no {a b c d : Int} (h : ¬ V c d ≤ V a b) : mE a b c d = 10 := by
  unfold mE; rw [if_neg h]
theorem m_ok {a b c d : Int} (h : V c d ≤ V a b) : mE a b c d = 0 := by
  unfold mE; rw [if_pos h]
theorem cmp3 (x y : Int) : (cmpN x y = -1 ∧ cmpN y x = 1 ∧ x < y) ∨ (cmpN x y = 0 ∧ cmpN y x = 0 ∧ x = y) ∨ (cmpN x y = 1 ∧ cmpN y x = -1 ∧ y < x) := by
  rcases Int.lt_trichotomy x y with h | h | h
  · exact .inl ⟨cmpN_lt h, cmpN_gt h, h⟩
  · exact .inr (.inl ⟨cmpN_eq h, cmpN_eq h.symm, h⟩)
  · exact .inr (.inr ⟨cmpN_gt h, cmpN_lt h, h⟩)

theorem t1 {ah al bh bl ch cl : Int} (h1 : Word ah) (h2 : Word al) (h3 : Word bh) (h4 : Word bl) : T1 ah al bh bl (cmpW ah al bh bl) (cmpW bh bl ah al) (cmpW bh bl ch cl) (cmpW ah al ch cl) := by
  unfold T1 cmpW
  have a := cmp3 (V ah al) (V bh bl)
  have b := cmp3 (V bh bl) (V ch cl)
  have c := cmp3 (V ah al) (V ch cl)
  refine ⟨?_, by omega⟩
  unfold Word at *
  have e : V ah al = V bh bl ↔ (ah = bh ∧ al = bl) := by
    unfold V
    constructor
    · intro h; omega
    · rintro ⟨rfl, rfl⟩; rfl
  rcases a with ⟨a1, a2, a3⟩ | ⟨a1, a2, a3⟩ | ⟨a1, a2, a3⟩
  · exact .inr (.inl ⟨a1, a2, fun h => by have := e.2 h; omega⟩)
  · exact .inl ⟨a1, a2, (e.1 a3).1, (e.1 a3).2⟩
  · exact .inr (.inr ⟨a1, a2, fun h => by have := e.2 h; omega⟩)
theorem t2 {ah al bh bl ch cl : Int} (h1 : Word ah) (h2 : Word al) (h3 : Word bh) (h4 : Word bl) (h5 : Word ch) (h6 : Word cl) :
    T2 (pH ah al ch cl) (pL ah al ch cl) (pH bh bl ch cl) (pL bh bl ch cl) (cmpW ah al bh bl) (pE ah al ch cl) (pE bh bl ch cl) := by
  unfold T2
  by_cases a : V ah al + V ch cl < 340282366920938463463374607431768211456
  · obtain ⟨e1, v1⟩ := p_V a
    by_cases b : V bh bl + V ch cl < 340282366920938463463374607431768211456
    · obtain ⟨e2, v2⟩ := p_V b
      refine .inl ⟨e1, e2, fun w => ?_⟩
      have := Cmp_any (pH ah al ch cl) (pL ah al ch cl) (pH bh bl ch cl) (pL bh bl ch cl) w (p_word h1 h2 h5 h6).2 (p_word h3 h4 h5 h6).2
      have e : cmpW (pH ah al ch cl) (pL ah al ch cl) (pH bh bl ch cl) (pL bh bl ch cl) = cmpW ah al bh bl := by
        unfold cmpW
        rw [v1, v2]
        unfold cmpN
        split <;> split <;> (try omega) <;> split <;> (try omega) <;> rfl
      rwa [e] at this
    · exact .inr (.inl ⟨e1, p_no b⟩)
  · by_cases b : V bh bl + V ch cl < 340282366920938463463374607431768211456
    · refine .inr (.inr (.inr ⟨p_no a, (p_V b).1, ?_⟩))
      rw [cmpW_gt (by omega)]; omega
    · exact .inr (.inr (.inl ⟨p_no a, p_no b⟩))
theorem t3 {ah al bh bl i j k : Int} (hk : Word k) : T3 (cmpW ah al bh bl) (mE ah al bh bl) i j k (cmpN (i * k) (j * k)) := by
  unfold T3
  refine ⟨?_, ?_⟩
  · by_cases h : V bh bl ≤ V ah al
    · refine .inr ⟨m_ok h, ?_⟩
      have := cmp3 (V ah al) (V bh bl)
      unfold cmpW; omega
    · refine .inl ⟨m_no h, ?_⟩
      rw [cmpW_lt (by omega)]; omega
  · rcases Int.lt_or_eq_of_le hk.1 with h | h
    · rcases Int.lt_trichotomy i j with e | e | e
      · exact .inr (.inl ⟨h, cmpN_lt (Int.mul_lt_mul_of_pos_right e h), e⟩)
      · exact .inr (.inr (.inl ⟨h, cmpN_eq (by rw [e]), e⟩))
      · exact .inr (.inr (.inr ⟨h, cmpN_gt (Int.mul_lt_mul_of_pos_right e h), e⟩))
    · refine .inl ⟨h.symm, ?_⟩
      rw [← h, Int.mul_zero, Int.mul_zero]; rfl

theorem walk (ah al bh bl ch cl i j k : Int) (h1 : Word ah) (h2 : Word al) (h3 : Word bh) (h4 : Word bl) (h5 : Word ch) (h6 : Word cl) (hi : Word i) (hj : Word j) (hk : Word k) (w : World) :
    Calls Try.prog 7 #[.agg #[.int .u64 ah, .int .u64 al], .agg #[.int .u64 bh, .int .u64 bl], .agg #[.int .u64 ch, .int .u64 cl], .int .u64 i, .int .u64 j, .int .u64 k] w fun e w' => e = .returned (.bool true) ∧ Below w.heap.size w w' := by
  have C6 : Cm (xH i k) (xL i k) (xH j k) (xL j k) (cmpN (i * k) (j * k)) := fun w => by
    have := Cmp_any (xH i k) (xL i k) (xH j k) (xL j k) w (xL_word _ _) (xL_word _ _)
    unfold cmpW at this
    rwa [V_x, V_x] at this
  exact core ah al bh bl ch cl i j k _ _ _ _ _ _ _ _ _ _ _ _ _ _ _ _ _ _ w hk.1 (fun w => Cmp_any ah al bh bl w h2 h4) (fun w => Cmp_any bh bl ch cl w h4 h6) (fun w => Cmp_any ah al ch cl w h2 h6) (fun w => Cmp_any bh bl ah al w h4 h2)
    (fun w => Plus_any ah al ch cl w h1 h2 h5 h6) (fun w => Plus_any bh bl ch cl w h3 h4 h5 h6) (fun w => Minus_any ah al bh bl w h1 h2 h3 h4) (fun w => Mul_any i k w hi hk) (fun w => Mul_any j k w hj hk) C6 (fun _ w => by
      have := Cmp_any (xH i k) (xL i k) (xH i k) (xL i k) w (xL_word _ _) (xL_word _ _)
      rwa [cmpW_eq rfl] at this) (t1 h1 h2 h3 h4) (t2 h1 h2 h3 h4 h5 h6) (t3 hk)
end Go.Proofs.Ytdnljjpfmnfdoaa.wideOrder
