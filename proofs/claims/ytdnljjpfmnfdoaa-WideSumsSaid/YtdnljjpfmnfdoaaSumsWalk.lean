/- The walk of WideSums. -/
import Derived.Test.YtdnljjpfmnfdoaaSum
import Derived.Test.YtdnljjpfmnfdoaaRef
import Derived.Test.YtdnljjpfmnfdoaaDiv
import Derived.Test.YtdnljjpfmnfdoaaRefDiv
import Derived.Test.YtdnljjpfmnfdoaaHas
import Derived.Deep.RegionHeld3
namespace Go.Proofs.Ytdnljjpfmnfdoaa
open Go.RowKit W
set_option linter.unusedVariables false
set_option maxRecDepth 100000 in
set_option maxHeartbeats 1000000 in
theorem WideSums_walk (a b c d n : Int) (ha : Word a) (hb : Word b) (hc : Word c) (hd : Word d) (hn : Word n) (w : World) :
    Calls Try.prog 3 #[.agg #[.int .u64 a, .int .u64 b], .agg #[.int .u64 c, .int .u64 d], .int .u64 n] w fun e w' => e = .returned (.bool true) ∧ Below w.heap.size w w' := by
  go_enter Try.func3, Try.ntmps3
  go_wp2_with (first
    | (go_at_call 10; (with_reducible refine (Plus_any a b c d _ ha hb hc hd).mono ?_); rintro e w1 ⟨rfl, hb1⟩; have HA1 := ((Has.new w a b).alloc (.cells #[.int .u64 c, .int .u64 d] 24)).below hb1; obtain ⟨xA1, yA1, zA1⟩ := id HA1; have HB1 := (Has.new2 w (.cells #[.int .u64 a, .int .u64 b] 24) c d).below hb1; obtain ⟨xB1, yB1, zB1⟩ := id HB1)
    | (go_at_call 11; (with_reducible refine (rPlus_any a b c d _ ha hb hc hd).mono ?_); rintro e w2 ⟨rfl, hb2⟩; have HA2 := (HA1.alloc (.cells #[.int .u64 (pH a b c d), .int .u64 (pL a b c d)] 24)).below hb2; obtain ⟨xA2, yA2, zA2⟩ := id HA2; have HB2 := (HB1.alloc (.cells #[.int .u64 (pH a b c d), .int .u64 (pL a b c d)] 24)).below hb2; obtain ⟨xB2, yB2, zB2⟩ := id HB2; have HP2 := (Has.new w1 (pH a b c d) (pL a b c d)).below hb2; obtain ⟨xP2, yP2, zP2⟩ := id HP2)
    | (go_at_call 12; (with_reducible refine (Minus_any a b c d _ ha hb hc hd).mono ?_); rintro e w3 ⟨rfl, hb3⟩; have HA3 := (HA2.alloc (.cells #[.int .u64 (pH a b c d), .int .u64 (pL a b c d)] 24)).below hb3; obtain ⟨xA3, yA3, zA3⟩ := id HA3; have HB3 := (HB2.alloc (.cells #[.int .u64 (pH a b c d), .int .u64 (pL a b c d)] 24)).below hb3; obtain ⟨xB3, yB3, zB3⟩ := id HB3; have HP3 := (HP2.alloc (.cells #[.int .u64 (pH a b c d), .int .u64 (pL a b c d)] 24)).below hb3; obtain ⟨xP3, yP3, zP3⟩ := id HP3; have HQ3 := (Has.new w2 (pH a b c d) (pL a b c d)).below hb3; obtain ⟨xQ3, yQ3, zQ3⟩ := id HQ3)
    | (go_at_call 13; (with_reducible refine (rMinus_any a b c d _ ha hb hc hd).mono ?_); rintro e w4 ⟨rfl, hb4⟩; have HA4 := (HA3.alloc (.cells #[.int .u64 (mH a b c d), .int .u64 (mL a b c d)] 24)).below hb4; obtain ⟨xA4, yA4, zA4⟩ := id HA4; have HB4 := (HB3.alloc (.cells #[.int .u64 (mH a b c d), .int .u64 (mL a b c d)] 24)).below hb4; obtain ⟨xB4, yB4, zB4⟩ := id HB4; have HP4 := (HP3.alloc (.cells #[.int .u64 (mH a b c d), .int .u64 (mL a b c d)] 24)).below hb4; obtain ⟨xP4, yP4, zP4⟩ := id HP4; have HQ4 := (HQ3.alloc (.cells #[.int .u64 (mH a b c d), .int .u64 (mL a b c d)] 24)).below hb4; obtain ⟨xQ4, yQ4, zQ4⟩ := id HQ4; have HR4 := (Has.new w3 (mH a b c d) (mL a b c d)).below hb4; obtain ⟨xR4, yR4, zR4⟩ := id HR4)
    | (go_at_call 14; (with_reducible refine (Div_any a b n _ ha hb hn).mono ?_); rintro e w5 ⟨rfl, hb5⟩; have HA5 := (HA4.alloc (.cells #[.int .u64 (mH a b c d), .int .u64 (mL a b c d)] 24)).below hb5; obtain ⟨xA5, yA5, zA5⟩ := id HA5; have HB5 := (HB4.alloc (.cells #[.int .u64 (mH a b c d), .int .u64 (mL a b c d)] 24)).below hb5; obtain ⟨xB5, yB5, zB5⟩ := id HB5; have HP5 := (HP4.alloc (.cells #[.int .u64 (mH a b c d), .int .u64 (mL a b c d)] 24)).below hb5; obtain ⟨xP5, yP5, zP5⟩ := id HP5; have HQ5 := (HQ4.alloc (.cells #[.int .u64 (mH a b c d), .int .u64 (mL a b c d)] 24)).below hb5; obtain ⟨xQ5, yQ5, zQ5⟩ := id HQ5; have HR5 := (HR4.alloc (.cells #[.int .u64 (mH a b c d), .int .u64 (mL a b c d)] 24)).below hb5; obtain ⟨xR5, yR5, zR5⟩ := id HR5; have HS5 := (Has.new w4 (mH a b c d) (mL a b c d)).below hb5; obtain ⟨xS5, yS5, zS5⟩ := id HS5)
    | (go_at_call 15; (with_reducible refine (rDiv_any a b n _ ha hb hn).mono ?_); rintro e w6 ⟨rfl, hb6⟩; have HA6 := (HA5).below hb6; obtain ⟨xA6, yA6, zA6⟩ := id HA6; have HB6 := (HB5).below hb6; obtain ⟨xB6, yB6, zB6⟩ := id HB6; have HP6 := (HP5).below hb6; obtain ⟨xP6, yP6, zP6⟩ := id HP6; have HQ6 := (HQ5).below hb6; obtain ⟨xQ6, yQ6, zQ6⟩ := id HQ6; have HR6 := (HR5).below hb6; obtain ⟨xR6, yR6, zR6⟩ := id HR6; have HS6 := (HS5).below hb6; obtain ⟨xS6, yS6, zS6⟩ := id HS6))
  have hW6 : Below w.heap.size w w6 := by
    have t1 := up (up2 w _ _) hb1 (by simp; omega)
    have t2 := up (t1.alloc (Nat.le_trans (by omega) t1.size) _) hb2 (by have := t1.size; simp; omega)
    have t3 := up (t2.alloc (Nat.le_trans (by omega) t2.size) _) hb3 (by have := t2.size; simp; omega)
    have t4 := up (t3.alloc (Nat.le_trans (by omega) t3.size) _) hb4 (by have := t3.size; simp; omega)
    have t5 := up (t4.alloc (Nat.le_trans (by omega) t4.size) _) hb5 (by have := t4.size; simp; omega)
    exact up t5 hb6 t5.size
  clear hb1 hb2 hb3 hb4 hb5 hb6
  go_region_held3 (fun w' => w'.cell? ⟨w.heap.size, 0, none⟩ = some (.int .u64 (a)) ∧ w'.cell? ⟨w.heap.size, 1, none⟩ = some (.int .u64 (b)) ∧ w'.cell? ⟨w.heap.size + 1, 0, none⟩ = some (.int .u64 (c)) ∧ w'.cell? ⟨w.heap.size + 1, 1, none⟩ = some (.int .u64 (d)) ∧ w'.cell? ⟨w1.heap.size, 0, none⟩ = some (.int .u64 (pH a b c d)) ∧ w'.cell? ⟨w1.heap.size, 1, none⟩ = some (.int .u64 (pL a b c d)) ∧ w'.cell? ⟨w2.heap.size, 0, none⟩ = some (.int .u64 (pH a b c d)) ∧ w'.cell? ⟨w2.heap.size, 1, none⟩ = some (.int .u64 (pL a b c d)) ∧ w'.cell? ⟨w3.heap.size, 0, none⟩ = some (.int .u64 (mH a b c d)) ∧ w'.cell? ⟨w3.heap.size, 1, none⟩ = some (.int .u64 (mL a b c d)) ∧ w'.cell? ⟨w4.heap.size, 0, none⟩ = some (.int .u64 (mH a b c d)) ∧ w'.cell? ⟨w4.heap.size, 1, none⟩ = some (.int .u64 (mL a b c d)))
    (first | exact ⟨yA6, zA6, yB6, zB6, yP6, zP6, yQ6, zQ6, yR6, zR6, yS6, zS6⟩ | exact ⟨(HA6.below hb7).2.1, (HA6.below hb7).2.2, (HB6.below hb7).2.1, (HB6.below hb7).2.2, (HP6.below hb7).2.1, (HP6.below hb7).2.2, (HQ6.below hb7).2.1, (HQ6.below hb7).2.2, (HR6.below hb7).2.1, (HR6.below hb7).2.2, (HS6.below hb7).2.1, (HS6.below hb7).2.2⟩ | exact ⟨(HA6.below hb8).2.1, (HA6.below hb8).2.2, (HB6.below hb8).2.1, (HB6.below hb8).2.2, (HP6.below hb8).2.1, (HP6.below hb8).2.2, (HQ6.below hb8).2.1, (HQ6.below hb8).2.2, (HR6.below hb8).2.1, (HR6.below hb8).2.2, (HS6.below hb8).2.1, (HS6.below hb8).2.2⟩ | exact ⟨((HA6.below hb7).below hb8).2.1, ((HA6.below hb7).below hb8).2.2, ((HB6.below hb7).below hb8).2.1, ((HB6.below hb7).below hb8).2.2, ((HP6.below hb7).below hb8).2.1, ((HP6.below hb7).below hb8).2.2, ((HQ6.below hb7).below hb8).2.1, ((HQ6.below hb7).below hb8).2.2, ((HR6.below hb7).below hb8).2.1, ((HR6.below hb7).below hb8).2.2, ((HS6.below hb7).below hb8).2.1, ((HS6.below hb7).below hb8).2.2⟩)
    (first
      | (go_at_call 16; (with_reducible refine (Cmp_any a b c d _ hb hd).mono ?_); rintro e w7 ⟨rfl, hb7⟩; (first | replace hb7 := undrew hb7 | replace hb7 := undrewN hb7 | skip))
      | (go_at_call 17; (with_reducible refine (rCmp_any a b c d _ hb hd).mono ?_); rintro e w8 ⟨rfl, hb8⟩; (first | replace hb8 := undrew hb8 | replace hb8 := undrewN hb8 | skip)))
  go_wp2
  go_ret
  exact ⟨rfl, up (up hW6 hb7 hW6.size) hb8 (Nat.le_trans hW6.size hb7.size)⟩
end Go.Proofs.Ytdnljjpfmnfdoaa
