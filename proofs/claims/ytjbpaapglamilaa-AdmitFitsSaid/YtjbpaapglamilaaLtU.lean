/- When curves are late first, and whether they can be kept: the program's own answers. No condition but words, and how many there are. -/
import Derived.Test.YtjbpaapglamilaaCoU
import Derived.Deep.RegionHeld3
namespace Go.Proofs.Ytjbpaapglamilaa
open Go.RowKit W
set_option linter.unusedVariables false
def sm (g : Cv → Int) : List Cv → Int
  | [] => 0
  | c :: cs => g c + sm g cs
theorem sm_app (g : Cv → Int) (a b : List Cv) : sm g (a ++ b) = sm g a + sm g b := by
  induction a with
  | nil => simp [sm]
  | cons c cs ih => simp only [List.cons_append, sm, ih]; omega
theorem sm_le {g : Cv → Int} {B : Int} : ∀ {l : List Cv}, (∀ c ∈ l, 0 ≤ g c ∧ g c ≤ B) → 0 ≤ sm g l ∧ sm g l ≤ l.length * B
  | [], _ => by simp [sm]
  | c :: cs, h => by
    have h1 := h c (by simp)
    have h2 := sm_le (l := cs) (fun d hd => h d (List.mem_cons_of_mem _ hd))
    simp only [sm, List.length_cons]
    have e : ((cs.length + 1 : Nat) : Int) * B = cs.length * B + B := by rw [Int.natCast_add, Int.add_mul]; simp
    omega
theorem sm_lin {g1 g2 g3 : Cv → Int} : ∀ {l : List Cv}, (∀ c ∈ l, g1 c = g2 c + g3 c) → sm g1 l = sm g2 l + sm g3 l
  | [], _ => by simp [sm]
  | c :: cs, h => by
    have h1 := h c (by simp)
    have h2 := sm_lin (l := cs) (fun d hd => h d (List.mem_cons_of_mem _ hd))
    simp only [sm]; omega
theorem sm_mul {g1 g2 g3 : Cv → Int} {m : Int} : ∀ {l : List Cv}, (∀ c ∈ l, g1 c = g2 c + g3 c * m) → sm g1 l = sm g2 l + sm g3 l * m
  | [], _ => by simp [sm]
  | c :: cs, h => by
    have h1 := h c (by simp)
    have h2 := sm_mul (l := cs) (fun d hd => h d (List.mem_cons_of_mem _ hd))
    simp only [sm, Int.add_mul]; omega
theorem sm_four {g1 g2 g3 g4 : Cv → Int} : ∀ {l : List Cv}, (∀ c ∈ l, g1 c + g2 c = g3 c + g4 c) → sm g1 l + sm g2 l = sm g3 l + sm g4 l
  | [], _ => by simp [sm]
  | c :: cs, h => by
    have h1 := h c (by simp)
    have h2 := sm_four (l := cs) (fun d hd => h d (List.mem_cons_of_mem _ hd))
    simp only [sm]; omega
/-- Curves that may be, told by words. -/
def Good (ys : List Cv) : Prop := ∀ c ∈ ys, c.word ∧ c.may
theorem good_cnt {xs : List Cv} (h : ∀ c ∈ xs, c.word) : Good (cnt xs) := fun c hc => ⟨h c (cnt_mem hc), mayB_is.1 (cnt_may xs c hc)⟩
def rAt (j : Int) (c : Cv) : Int := if c.l = j then c.r else 0
def fAt (j : Int) (c : Cv) : Int := if c.l = j then c.f else 0
def pU (ys : List Cv) (j : Int) : Int := (if j = 0 then sm (·.f) ys else 0) + sm (rAt j) ys
def pV (ys : List Cv) (j : Int) : Int := sm (fAt j) ys
def slope (F : Int) (c : Cv) : Int := if c.l ≤ F then c.r else c.f
def slF (ys : List Cv) (F : Int) : Int := sm (slope F) ys
theorem small {c : Cv} (h : c.word ∧ c.may) : 0 ≤ c.f ∧ c.f ≤ 1048576 ∧ 0 ≤ c.r ∧ c.r ≤ 1048576 ∧ 0 ≤ c.l ∧ c.l ≤ 1099511627776 ∧ (c.l = 0 → c.f = 0) := by
  obtain ⟨⟨h1, h2, h3⟩, h4, h5, h6, h7⟩ := h
  unfold Word at *
  refine ⟨h1.1, h4, h3.1, h5, h2.1, h6, fun e => ?_⟩
  rcases h7 with ⟨_, h⟩ | ⟨h, _⟩ <;> omega
theorem pU_le {ys : List Cv} (h : Good ys) (j : Int) : 0 ≤ pU ys j ∧ pU ys j ≤ ys.length * 2097152 := by
  have h1 := sm_le (g := (·.f)) (B := 1048576) (l := ys) (fun c hc => by have := small (h c hc); exact ⟨this.1, this.2.1⟩)
  have h2 := sm_le (g := rAt j) (B := 1048576) (l := ys) (fun c hc => by have := small (h c hc); unfold rAt; split <;> omega)
  unfold pU; split <;> omega
theorem pV_le {ys : List Cv} (h : Good ys) (j : Int) : 0 ≤ pV ys j ∧ pV ys j ≤ ys.length * 1048576 :=
  sm_le (fun c hc => by have := small (h c hc); unfold fAt; split <;> omega)
theorem slF_le {ys : List Cv} (h : Good ys) (F : Int) : 0 ≤ slF ys F ∧ slF ys F ≤ ys.length * 1048576 :=
  sm_le (fun c hc => by have := small (h c hc); unfold slope; split <;> omega)
theorem addW_eq {x y : Int} (h0 : 0 ≤ x + y) (h1 : x + y < 18446744073709551616) : addW x y = x + y := wrapU ⟨h0, by omega⟩
theorem uv_take {ys : List Cv} (h : Good ys) (hn : ys.length ≤ 1000) : ∀ i, i ≤ ys.length → (∀ j, uF (ys.take i) j = pU (ys.take i) j) ∧ ∀ j, vF (ys.take i) j = pV (ys.take i) j
  | 0, _ => ⟨fun j => by simp [uF, pU, sm], fun j => by simp [vF, pV, sm]⟩
  | i + 1, hi => by
    obtain ⟨h1, h2⟩ := uv_take h hn i (by omega)
    have hg : Good (ys.take i) := fun c hc => h c (List.mem_of_mem_take hc)
    have hl : ((ys.take i).length : Int) ≤ 1000 := by rw [List.length_take]; omega
    have hs := small (h _ (List.getElem_mem (show i < ys.length by omega)))
    rw [List.take_succ_eq_append_getElem (by omega), uF_snoc, vF_snoc]
    generalize ys[i] = c at *
    have b0 := fun j => pU_le hg j
    have b1 := fun j => pV_le hg j
    have c0 := b0 0
    have c1 := b0 c.l
    have c2 := b1 c.l
    have m1 : ((ys.take i).length : Int) * 2097152 ≤ 1000 * 2097152 := Int.mul_le_mul_of_nonneg_right hl (by omega)
    have m2 : ((ys.take i).length : Int) * 1048576 ≤ 1000 * 1048576 := Int.mul_le_mul_of_nonneg_right hl (by omega)
    have a0 : addW (pU (ys.take i) 0) c.f = pU (ys.take i) 0 + c.f := addW_eq (by omega) (by omega)
    have a1 : oneU (pU (ys.take i)) c c.l = pU (ys.take i) c.l + if c.l = 0 then c.f else 0 := by
      unfold oneU; split
      · rename_i e; rw [a0, e]
      · omega
    have a2 : addW (oneU (pU (ys.take i)) c c.l) c.r = oneU (pU (ys.take i)) c c.l + c.r := by
      rw [a1]; refine addW_eq ?_ ?_ <;> split <;> omega
    have a3 : addW (pV (ys.take i) c.l) c.f = pV (ys.take i) c.l + c.f := addW_eq (by omega) (by omega)
    have e1 : uF (ys.take i) = pU (ys.take i) := funext h1
    have e2 : vF (ys.take i) = pV (ys.take i) := funext h2
    rw [e1, e2]
    refine ⟨fun j => ?_, fun j => ?_⟩
    · have : pU (ys.take i ++ [c]) j = pU (ys.take i) j + (if j = 0 then c.f else 0) + (if c.l = j then c.r else 0) := by
        unfold pU; rw [sm_app, sm_app]; simp only [sm, rAt]; split <;> omega
      rw [this]
      unfold stU
      split
      · rename_i e; subst e; rw [a2, a1, if_pos rfl]
      · rename_i e
        rw [if_neg (show ¬ c.l = j from fun e' => e e'.symm)]
        unfold oneU; split
        · rename_i e0; rw [a0, e0]; omega
        · omega
    · have : pV (ys.take i ++ [c]) j = pV (ys.take i) j + (if c.l = j then c.f else 0) := by
        unfold pV; rw [sm_app]; simp only [sm, fAt]; omega
      rw [this]
      unfold stV
      have e3 : oneV (pV (ys.take i)) c.l = pV (ys.take i) c.l := by unfold oneV; split <;> simp_all
      split
      · rename_i e; subst e; rw [e3, a3, if_pos rfl]
      · rename_i e
        rw [if_neg (show ¬ c.l = j from fun e' => e e'.symm)]
        unfold oneV; split <;> simp_all
theorem uv_eq {ys : List Cv} (h : Good ys) (hn : ys.length ≤ 1000) : (∀ j, uF ys j = pU ys j) ∧ ∀ j, vF ys j = pV ys j := by
  have := uv_take h hn ys.length (Nat.le_refl _)
  rwa [List.take_length] at this
theorem slF_zero {ys : List Cv} (h : Good ys) : slF ys 0 = pU ys 0 := by
  unfold slF pU
  rw [if_pos rfl]
  exact sm_lin (fun c hc => by
    have := small (h c hc)
    unfold slope rAt
    by_cases e : c.l = 0
    · rw [if_pos (by omega), if_pos e]; omega
    · rw [if_neg (by omega), if_neg e]; omega)
/-- No corner between both. -/
def Clear (ys : List Cv) (F k : Int) : Prop := ∀ c ∈ ys, c.l ≤ F ∨ k ≤ c.l
theorem slF_step {ys : List Cv} (h : Good ys) {F k : Int} (hF : 0 ≤ F) (hk : F < k) (hc : Clear ys F k) : slF ys F + pU ys k - pV ys k = slF ys k := by
  have e : sm (slope F) ys + sm (rAt k) ys = sm (slope k) ys + sm (fAt k) ys := sm_four (fun c hcm => by
    have hcl := hc c hcm
    unfold slope rAt fAt
    by_cases h1 : c.l ≤ F
    · rw [if_pos h1, if_neg (by omega), if_pos (by omega), if_neg (by omega)]
    · rw [if_neg h1]
      by_cases h2 : c.l = k
      · rw [if_pos h2, if_pos (by omega), if_pos h2]; omega
      · rw [if_neg h2, if_neg (by omega), if_neg h2])
  unfold slF pU pV
  rw [if_neg (by omega)]
  omega
theorem sum_on {ys : List Cv} (h : Good ys) {F k x : Int} (hF : 0 ≤ F) (hx : F ≤ x) (hk : x ≤ k) (hc : Clear ys F k) : sW ys x = sW ys F + slF ys F * (x - F) := by
  have e : ∀ t, sW ys t = sm (fun c => oneW c t) ys := fun t => by
    clear h hc
    induction ys with
    | nil => rfl
    | cons c cs ih => simp only [sW, sm, ih]
  rw [e, e]
  refine sm_mul (fun c hcm => ?_)
  have hm := (h c hcm).2
  simp only [oneW, if_pos hm]
  unfold cW slope
  have hcl := hc c hcm
  by_cases h1 : c.l ≤ F
  · rw [if_pos h1]
    by_cases h2 : x ≤ c.l
    · have e1 : x = F := by omega
      have e2 : c.l = F := by omega
      subst e1; rw [if_pos h2]; simp
    · rw [if_neg h2]
      by_cases h3 : F ≤ c.l
      · have e2 : c.l = F := by omega
        rw [if_pos h3, e2]
      · rw [if_neg h3]
        have := Int.mul_add c.r (F - c.l) (x - F)
        rw [show F - c.l + (x - F) = x - c.l by omega] at this
        omega
  · have h2 : x ≤ c.l := by omega
    rw [if_neg h1, if_pos h2, if_pos (by omega)]
    have := Int.mul_add c.f F (x - F)
    rw [show F + (x - F) = x by omega] at this
    omega
end Go.Proofs.Ytjbpaapglamilaa

namespace Go.Proofs.Ytjbpaapglamilaa
open Go.RowKit Go.Shelf Go.Maps W
set_option linter.unusedVariables false
/-- Block B holds five words. -/
def Fv (w : World) (B : Nat) (a b c d e : Int) : Prop := B < w.heap.size ∧ (w.cell? ⟨B, 0, none⟩ = some (.int .u64 a) ∧ w.cell? ⟨B, 1, none⟩ = some (.int .u64 b) ∧ w.cell? ⟨B, 2, none⟩ = some (.int .u64 c) ∧ w.cell? ⟨B, 3, none⟩ = some (.int .u64 d) ∧ w.cell? ⟨B, 4, none⟩ = some (.int .u64 e))
theorem Fv.of_box {w : World} {B : Nat} {a b c d e : Int} {t : TypeId} (h : Box w B #[eU a, eU b, eU c, eU d, eU e] t) : Fv w B a b c d e :=
  ⟨h.lt, by simp [World.cell?, show w.heap[B]? = _ from h]⟩
theorem Fv.below {w w' : World} {B : Nat} {a b c d e : Int} (h : Fv w B a b c d e) (hb : Below w.heap.size w w') : Fv w' B a b c d e := by
  obtain ⟨h0, h1, h2, h3, h4, h5⟩ := h
  exact ⟨Nat.lt_of_lt_of_le h0 hb.size, (hb.cell (p := ⟨B, 0, none⟩) h0).trans h1, (hb.cell (p := ⟨B, 1, none⟩) h0).trans h2, (hb.cell (p := ⟨B, 2, none⟩) h0).trans h3, (hb.cell (p := ⟨B, 3, none⟩) h0).trans h4, (hb.cell (p := ⟨B, 4, none⟩) h0).trans h5⟩
theorem Fv.alloc {w : World} {B : Nat} {a b c d e : Int} (h : Fv w B a b c d e) (o : Obj) : Fv (w.alloc o) B a b c d e := h.below (up1 w o)
theorem Fv.setNe {w : World} {B : Nat} {a b c d e : Int} (h : Fv w B a b c d e) {p : Addr} (hne : B ≠ p.block) (v : Value) : Fv (w.setCell p v) B a b c d e := by
  obtain ⟨h0, h1, h2, h3, h4, h5⟩ := h
  have hh : (w.setCell p v).heap[B]? = w.heap[B]? := Below.heap_setCell w p v B hne
  exact ⟨by simpa [World.setCell] using h0, (World.cell?_of_block (a := ⟨B, 0, none⟩) hh).trans h1, (World.cell?_of_block (a := ⟨B, 1, none⟩) hh).trans h2, (World.cell?_of_block (a := ⟨B, 2, none⟩) hh).trans h3, (World.cell?_of_block (a := ⟨B, 3, none⟩) hh).trans h4, (World.cell?_of_block (a := ⟨B, 4, none⟩) hh).trans h5⟩
set_option maxRecDepth 100000 in
set_option maxHeartbeats 4000000 in
theorem end_of (fr tt sl h l d H L mh ml : Int) (w : World) (hd : tt - fr = d) (hdw : IntKind.u64.wrap d = d)
    (hM : ∀ w, Calls Try.prog 72 #[eU sl, eU d] w fun e w' => e = .returned (.agg #[eU mh, eU ml]) ∧ Below w.heap.size w w')
    (hP : ∀ w, Calls Try.prog 92 #[.agg #[eU h, eU l], .agg #[eU mh, eU ml]] w fun e w' => e = .returned (.tuple #[.agg #[eU H, eU L], .int .i64 0]) ∧ Below w.heap.size w w') :
    Calls Try.prog 71 #[.agg #[eU fr, eU tt, eU sl, eU h, eU l]] w fun e w' => e = .returned (.agg #[eU H, eU L]) ∧ Below w.heap.size w w' := by
  have HF : Fv ((w.alloc (.cells #[eU fr, eU tt, eU sl, eU h, eU l] 98)).alloc (.cells #[eU 0, eU 0] 96)) w.heap.size fr tt sl h l := (Fv.of_box (Box.new w 98 _)).alloc _
  have HR : Own ((w.alloc (.cells #[eU fr, eU tt, eU sl, eU h, eU l] 98)).alloc (.cells #[eU 0, eU 0] 96)) (w.heap.size + 1) 0 0 := by simpa using Own.new (w.alloc (.cells #[eU fr, eU tt, eU sl, eU h, eU l] 98)) 0 0
  have T : Below w.heap.size w ((w.alloc (.cells #[eU fr, eU tt, eU sl, eU h, eU l] 98)).alloc (.cells #[eU 0, eU 0] 96)) := up2 w _ _
  go_enter Try.func71, Try.ntmps71
  go_upto_region 1 with (fail)
  obtain ⟨W0, hW0⟩ : ∃ W0, ((w.alloc (.cells #[eU fr, eU tt, eU sl, eU h, eU l] 98)).alloc (.cells #[eU 0, eU 0] 96)) = W0 := ⟨_, rfl⟩
  rw [hW0] at HF HR T ⊢
  clear hW0
  obtain ⟨pF, aF, bF, cF, dF1, eF⟩ := id HF
  have q1 : w.heap.size ≠ W0.heap.size := Nat.ne_of_lt pF
  go_cut [3, 4] from 5 (fun s3 s4 wx => ∃ M : Nat, s3 = .pointer (some ⟨M, 0, none⟩) ∧ Has wx M H L ∧ Own wx (w.heap.size + 1) 0 0 ∧ Below w.heap.size w wx)
  case first =>
    go_region_held3 (fun w' => w'.cell? ⟨w.heap.size, 0, none⟩ = some (.int .u64 fr) ∧ w'.cell? ⟨w.heap.size, 1, none⟩ = some (.int .u64 tt) ∧ w'.cell? ⟨w.heap.size, 2, none⟩ = some (.int .u64 sl) ∧ w'.cell? ⟨w.heap.size, 3, none⟩ = some (.int .u64 h) ∧ w'.cell? ⟨w.heap.size, 4, none⟩ = some (.int .u64 l))
      (first | exact HF.2 | exact (HF.alloc _).2 | exact ((HF.setNe (by have := HN.lt; have := hN; simp; omega) _).setNe (by simp; omega) _).2 | go_keep)
      (first
        | (go_at_call 72; (with_reducible refine (hM _).mono ?_); rintro e w1 ⟨rfl, hb⟩; (first | replace hb := undrew hb | replace hb := undrewN hb | skip); (first | (have HN := (Own.new _ 0 0).below hb; have hN := T.size; have hR := HR.lt; replace T := up (T.alloc T.size _) hb (T.alloc T.size _).size; replace HF := (HF.alloc _).below hb; replace HR := (HR.alloc _).below hb) | (replace HN := HN.below hb; replace T := up T hb T.size; replace HF := HF.below hb; replace HR := HR.below hb) | (replace T := up T hb T.size; replace HF := HF.below hb; replace HR := HR.below hb)); (try (obtain ⟨⟨xN, yN, zN⟩, fN, gN⟩ := id HN)); obtain ⟨pF, aF, bF, cF, dF1, eF⟩ := id HF; clear hb)
        | (go_at_call 92; (with_reducible refine (hP _).mono ?_); rintro e w2 ⟨rfl, hb⟩; (first | replace hb := undrew hb | replace hb := undrewN hb | skip); (first | (have HN := (Own.new _ 0 0).below hb; have hN := T.size; have hR := HR.lt; replace T := up (T.alloc T.size _) hb (T.alloc T.size _).size; replace HF := (HF.alloc _).below hb; replace HR := (HR.alloc _).below hb) | (replace HN := HN.below hb; replace T := up T hb T.size; replace HF := HF.below hb; replace HR := HR.below hb) | (replace T := up T hb T.size; replace HF := HF.below hb; replace HR := HR.below hb)); (try (obtain ⟨⟨xN, yN, zN⟩, fN, gN⟩ := id HN)); obtain ⟨pF, aF, bF, cF, dF1, eF⟩ := id HF; clear hb))
    all_goals
      go_wp2_with fail
      go_meet
      first
        | exact ⟨_, rfl, Has.new _ _ _, HR.alloc _, T.alloc T.size _⟩
        | exact ⟨_, rfl, (HN.store H L).1, (HR.setNe (Nat.ne_of_lt hR) _).setNe (Nat.ne_of_lt hR) _, (T.setCell hN _).setCell hN _⟩
  case rest =>
    obtain ⟨M, rfl, HQ, HR2, T2⟩ := hcut
    obtain ⟨_, xQ, yQ⟩ := HQ
    obtain ⟨⟨xR, yR, zR⟩, fR, gR⟩ := id HR2
    clear hM hP HF HR T pF aF bF cF dF1 eF q1
    go_wp2
    obtain ⟨_, c0, c1⟩ := (HR2.store H L).1
    refine bodyPost_ret (v := .agg #[eU H, eU L]) (by simp [results, Try.results71, go_sem, c0, c1]) rfl ⟨rfl, (T2.setCell (p := ⟨w.heap.size + 1, 0, none⟩) (Nat.le_succ _) _).setCell (p := ⟨w.heap.size + 1, 1, none⟩) (Nat.le_succ _) _⟩
end Go.Proofs.Ytjbpaapglamilaa

namespace Go.Proofs.Ytjbpaapglamilaa
open Go.RowKit Go.Shelf W
set_option linter.unusedVariables false
/-- The last tick that counts. -/
abbrev lastT : Int := 9223372036854775807 
def hiW (x : Int) : Int := x / 18446744073709551616
def loW (x : Int) : Int := x % 18446744073709551616
/-- The stretch from F to k. -/
def strV (ys : List Cv) (F k : Int) : Value := .agg #[eU F, eU k, eU (slF ys F), eU (hiW (sW ys F)), eU (loW (sW ys F))]
theorem good_words {ys : List Cv} (h : Good ys) : ∀ c ∈ ys, c.word := fun c hc => (h c hc).1
theorem sum_lt {ys : List Cv} (h : Good ys) (hn : ys.length ≤ 1000) {t : Int} (ht : Word t) : 0 ≤ sW ys t ∧ sW ys t < 340282366920938463463374607431768211456 := by
  have h1 := sW_nn (good_words h) ht.1
  have h2 := sW_le (good_words h) ht
  have : (ys.length : Int) ≤ 1000 := by omega
  have := Int.mul_le_mul_of_nonneg_right this (show (0 : Int) ≤ 19342813113834066795298816 by omega)
  omega
theorem split_word {x : Int} (h : 0 ≤ x ∧ x < 340282366920938463463374607431768211456) : Word (hiW x) ∧ Word (loW x) ∧ V (hiW x) (loW x) = x := by
  unfold hiW loW Word V; omega
theorem slope_word {ys : List Cv} (h : Good ys) (hn : ys.length ≤ 1000) (F : Int) : Word (slF ys F) := by
  have h1 := slF_le h F
  have : (ys.length : Int) ≤ 1000 := by omega
  have := Int.mul_le_mul_of_nonneg_right this (show (0 : Int) ≤ 1048576 by omega)
  unfold Word; omega
theorem end_sum {ys : List Cv} (h : Good ys) (hn : ys.length ≤ 1000) {F k : Int} (hF : 0 ≤ F) (hk : F < k) (hl : k ≤ 9223372036854775807) (hc : Clear ys F k) (w : World) :
    Calls Try.prog 71 #[strV ys F k] w fun e w' => e = .returned (.agg #[eU (hiW (sW ys k)), eU (loW (sW ys k))]) ∧ Below w.heap.size w w' := by
  have hFw : Word F := ⟨hF, by omega⟩
  have hkw : Word k := ⟨by omega, by omega⟩
  have hdw : Word (k - F) := ⟨by omega, by omega⟩
  obtain ⟨a1, a2, a3⟩ := split_word (sum_lt h hn hFw)
  have b := sum_lt h hn hkw
  have hs := sum_on h hF (by omega) (Int.le_refl k) hc
  have hm := V_x (slF ys F) (k - F)
  have hsl := slope_word h hn F
  have hxw : Word (xH (slF ys F) (k - F)) ∧ Word (xL (slF ys F) (k - F)) := by
    have h0 : 0 ≤ slF ys F * (k - F) := Int.mul_nonneg hsl.1 hdw.1
    have h1 := (sum_lt h hn hFw).1
    unfold xH xL Word; omega
  have hP := fun w => Plus_any (hiW (sW ys F)) (loW (sW ys F)) (xH (slF ys F) (k - F)) (xL (slF ys F) (k - F)) w a1 a2 hxw.1 hxw.2
  have e1 : V (hiW (sW ys F)) (loW (sW ys F)) + V (xH (slF ys F) (k - F)) (xL (slF ys F) (k - F)) = sW ys k := by rw [a3, hm, hs]
  unfold pH pL pE at hP
  rw [e1, if_pos b.2, if_pos b.2, if_pos b.2] at hP
  exact end_of F k (slF ys F) _ _ (k - F) _ _ _ _ w rfl (wrapU hdw) (fun w => Mul_any _ _ w hsl hdw) hP
end Go.Proofs.Ytjbpaapglamilaa

namespace Go.Proofs.Ytjbpaapglamilaa
open Go.RowKit Go.Shelf Go.Maps W
set_option linter.unusedVariables false
theorem plain_held {P : Program} {ops : Array Oper} {Q : Exit → Act → World → Prop} {S : World → Prop} {id : Nat} {a : Act} {w : World} (hm : P.follows .mixedOrders = true) (hS : S w.drew)
    (h : S w.drew → wpAnyH P .any ops Q S ops.size (Array.replicate ops.size false) a w.drew) : (Code.region id ops true).wp P Q a w :=
  wp_region_any hm (wpAny_of_held _ _ _ _ (h hS))
def ops8 : Array Oper := #[{ dst := some 30, op := Op.move (Operand.tmp 6), type := 22, pos := "sums.go:64", after := #[], guard := none }, { dst := some 31, op := Op.fieldAddr 98 (Operand.tmp 4) 2, type := 0, pos := "sums.go:64", after := #[], guard := none }, { dst := some 32, op := Op.load 22 (Operand.tmp 31), type := 22, pos := "sums.go:64", after := #[{ on := 1, ground := Ground.data }], guard := none }, { dst := some 33, op := Op.move (Operand.tmp 3), type := 109, pos := "sums.go:64", after := #[], guard := none }, { dst := some 34, op := Op.move (Operand.tmp 6), type := 22, pos := "sums.go:64", after := #[], guard := none }, { dst := some 35, op := Op.lookup 109 (Operand.tmp 33) (Operand.tmp 34) false, type := 112, pos := "sums.go:64", after := #[{ on := 3, ground := Ground.data }, { on := 4, ground := Ground.data }], guard := none }, { dst := some 36, op := Op.field 112 (Operand.tmp 35) 0, type := 22, pos := "sums.go:64", after := #[{ on := 5, ground := Ground.data }], guard := none }, { dst := some 37, op := Op.binOp BinOp.add 22 (Operand.tmp 32) (Operand.tmp 36) 22, type := 22, pos := "sums.go:64", after := #[{ on := 2, ground := Ground.data }, { on := 6, ground := Ground.data }], guard := none }, { dst := some 38, op := Op.move (Operand.tmp 3), type := 109, pos := "sums.go:64", after := #[], guard := none }, { dst := some 39, op := Op.move (Operand.tmp 6), type := 22, pos := "sums.go:64", after := #[], guard := none }, { dst := some 40, op := Op.lookup 109 (Operand.tmp 38) (Operand.tmp 39) false, type := 112, pos := "sums.go:64", after := #[{ on := 8, ground := Ground.data }, { on := 9, ground := Ground.data }], guard := none }, { dst := some 41, op := Op.field 112 (Operand.tmp 40) 1, type := 22, pos := "sums.go:64", after := #[{ on := 10, ground := Ground.data }], guard := none }, { dst := some 42, op := Op.binOp BinOp.sub 22 (Operand.tmp 37) (Operand.tmp 41) 22, type := 22, pos := "sums.go:64", after := #[{ on := 7, ground := Ground.data }, { on := 11, ground := Ground.data }], guard := none }, { dst := some 43, op := Op.load 98 (Operand.tmp 4), type := 98, pos := "sums.go:64", after := #[], guard := none }, { dst := some 44, op := Op.call { callee := Callee.value (Operand.func 71), args := #[Operand.tmp 43], argTypes := #[98] }, type := 96, pos := "sums.go:64", after := #[{ on := 13, ground := Ground.data }], guard := none }, { dst := some 45, op := Op.build 98 #[(0, Operand.tmp 30), (2, Operand.tmp 42), (3, Operand.tmp 44)], type := 98, pos := "sums.go:64", after := #[{ on := 0, ground := Ground.data }, { on := 12, ground := Ground.data }, { on := 14, ground := Ground.data }], guard := none }, { dst := none, op := Op.store 98 (Operand.tmp 4) (Operand.tmp 45), type := 0, pos := "sums.go:64", after := #[{ on := 15, ground := Ground.data }, { on := 14, ground := Ground.chain }, { on := 0, ground := Ground.phase }, { on := 1, ground := Ground.phase }, { on := 2, ground := Ground.phase }, { on := 3, ground := Ground.phase }, { on := 4, ground := Ground.phase }, { on := 5, ground := Ground.phase }, { on := 6, ground := Ground.phase }, { on := 7, ground := Ground.phase }, { on := 8, ground := Ground.phase }, { on := 9, ground := Ground.phase }, { on := 10, ground := Ground.phase }, { on := 11, ground := Ground.phase }, { on := 12, ground := Ground.phase }, { on := 13, ground := Ground.phase }, { on := 14, ground := Ground.phase }, { on := 15, ground := Ground.phase }], guard := none }]
set_option maxRecDepth 100000 in
set_option maxHeartbeats 4000000 in
theorem reg8 (b Bs : Nat) (F kx sg h0 l0 uk dk sg2 h2 l2 : Int) (W3 : World) (x0 x1 x2 x5 x7 x8 x9 x10 x11 x12 x13 x14 x15 x16 x17 x18 x19 x20 x21 x22 x23 x24 x25 x26 x27 x28 x29 x30 x31 x32 x33 x34 x35 x36 x37 x38 x39 x40 x41 x42 x43 x44 x45 x46 : Value) (Q : Exit → Act → World → Prop) (hPan : ∀ x (a : Act) (d : Tmp) (v : Value) (w : World), Q (.panic x) (a.put (some d) v) w → Q (.panic x) a w) (M : World → Prop) (hMb : ∀ w w', M w → Below w.heap.size w w' → M w') (hMd : ∀ w, M w → M w.drew) (hMp : ∀ w i v, M w → M (w.setCell ⟨Bs, i, none⟩ v))
    (hLk : ∀ w', M w' → (Instr.lookup 109 (.map (some b)) (eU kx) false).run Try.prog w' = .ok (.agg #[eU uk, eU dk]) w')
    (fU : ∀ (x y : Int) (w : World), (Instr.field 112 (.agg #[eU x, eU y]) 0).run Try.prog w = .ok (eU x) w) (fV : ∀ (x y : Int) (w : World), (Instr.field 112 (.agg #[eU x, eU y]) 1).run Try.prog w = .ok (eU y) w)
    (hg1 : IntKind.u64.wrap (sg + uk) = sg + uk) (hg2 : IntKind.u64.wrap (sg + uk - dk) = sg2)
    (cE : ∀ w, Calls Try.prog 71 #[.agg #[eU F, eU kx, eU sg, eU h0, eU l0]] w fun e w' => e = .returned (.agg #[eU h2, eU l2]) ∧ Below w.heap.size w w')
    (HB : Box W3 Bs #[eU F, eU kx, eU sg, eU h0, eU l0] 98) (HM : M W3)
    (hQ : ∀ (y30 y31 y32 y33 y34 y35 y36 y37 y38 y39 y40 y41 y42 y43 y44 y45 : Value) (w6 : World), Below W3.heap.size W3 w6 → Q .normal { tmps := #[x0, x1, x2, .map (some b), .pointer (some ⟨Bs, 0, none⟩), x5, eU kx, x7, x8, x9, x10, x11, x12, x13, x14, x15, x16, x17, x18, x19, x20, x21, x22, x23, x24, x25, x26, x27, x28, x29, y30, y31, y32, y33, y34, y35, y36, y37, y38, y39, y40, y41, y42, y43, y44, y45, x46], defers := [] } (((((w6.setCell ⟨Bs, 0, none⟩ (eU kx)).setCell ⟨Bs, 1, none⟩ (eU 0)).setCell ⟨Bs, 2, none⟩ (eU sg2)).setCell ⟨Bs, 3, none⟩ (eU h2)).setCell ⟨Bs, 4, none⟩ (eU l2))) :
    (Code.region 8 ops8 true).wp Try.prog Q { tmps := #[x0, x1, x2, .map (some b), .pointer (some ⟨Bs, 0, none⟩), x5, eU kx, x7, x8, x9, x10, x11, x12, x13, x14, x15, x16, x17, x18, x19, x20, x21, x22, x23, x24, x25, x26, x27, x28, x29, x30, x31, x32, x33, x34, x35, x36, x37, x38, x39, x40, x41, x42, x43, x44, x45, x46], defers := [] } W3 := by
  obtain ⟨pF, aF, bF, cF, dF1, eF⟩ := Fv.of_box HB
  have hQ' := Lib.hid hQ
  clear hQ
  unfold ops8
  refine plain_held (S := fun w' => (Instr.lookup 109 (.map (some b)) (eU kx) false).run Try.prog w' = .ok (.agg #[eU uk, eU dk]) w') (by kernel_rfl) (hLk _ (hMd _ HM)) (fun hHeld => ?_)
  refine wpAnyH_take (i := 0) (v := ?_) (by simp only [List.getElem?_toArray, List.getElem?_cons_zero]; rfl) (by kernel_rfl) (by kernel_rfl) (by kernel_rfl) (by exact fun _ _ _ h => hPan _ _ _ _ _ h) (Or.inl ⟨by rfl, ?_⟩) (by assumption) ?_
  rotate_left
  · (intro w hSw; (try dsimp only at hSw); go_simp; (try with_reducible rfl))
  try simp only [Act.put, List.setIfInBounds_toArray, List.set_cons_zero, List.set_cons_succ]
  refine wpAnyH_take (i := 1) (v := ?_) (by simp only [List.getElem?_toArray, List.getElem?_cons_zero, List.getElem?_cons_succ]; rfl) (by kernel_rfl) (by kernel_rfl) (by kernel_rfl) (by exact fun _ _ _ h => hPan _ _ _ _ _ h) (Or.inl ⟨by rfl, ?_⟩) (by assumption) ?_
  rotate_left
  · (intro w hSw; (try dsimp only at hSw); go_simp; (try with_reducible rfl))
  try simp only [Act.put, List.setIfInBounds_toArray, List.set_cons_zero, List.set_cons_succ]
  refine wpAnyH_take (i := 3) (v := ?_) (by simp only [List.getElem?_toArray, List.getElem?_cons_zero, List.getElem?_cons_succ]; rfl) (by kernel_rfl) (by kernel_rfl) (by kernel_rfl) (by exact fun _ _ _ h => hPan _ _ _ _ _ h) (Or.inl ⟨by rfl, ?_⟩) (by assumption) ?_
  rotate_left
  · (intro w hSw; (try dsimp only at hSw); go_simp; (try with_reducible rfl))
  try simp only [Act.put, List.setIfInBounds_toArray, List.set_cons_zero, List.set_cons_succ]
  refine wpAnyH_take (i := 4) (v := ?_) (by simp only [List.getElem?_toArray, List.getElem?_cons_zero, List.getElem?_cons_succ]; rfl) (by kernel_rfl) (by kernel_rfl) (by kernel_rfl) (by exact fun _ _ _ h => hPan _ _ _ _ _ h) (Or.inl ⟨by rfl, ?_⟩) (by assumption) ?_
  rotate_left
  · (intro w hSw; (try dsimp only at hSw); go_simp; (try with_reducible rfl))
  try simp only [Act.put, List.setIfInBounds_toArray, List.set_cons_zero, List.set_cons_succ]
  refine wpAnyH_take (i := 5) (v := ?_) (by simp only [List.getElem?_toArray, List.getElem?_cons_zero, List.getElem?_cons_succ]; rfl) (by kernel_rfl) (by kernel_rfl) (by kernel_rfl) (by exact fun _ _ _ h => hPan _ _ _ _ _ h) (Or.inl ⟨by rfl, ?_⟩) (by assumption) ?_
  rotate_left
  · (intro w hSw; (try dsimp only at hSw); go_simp; (try with_reducible rfl))
  try simp only [Act.put, List.setIfInBounds_toArray, List.set_cons_zero, List.set_cons_succ]
  refine wpAnyH_take (i := 6) (v := ?_) (by simp only [List.getElem?_toArray, List.getElem?_cons_zero, List.getElem?_cons_succ]; rfl) (by kernel_rfl) (by kernel_rfl) (by kernel_rfl) (by exact fun _ _ _ h => hPan _ _ _ _ _ h) (Or.inl ⟨by rfl, ?_⟩) (by assumption) ?_
  rotate_left
  · (intro w hSw; (try dsimp only at hSw); go_simp; (try with_reducible rfl))
  try simp only [Act.put, List.setIfInBounds_toArray, List.set_cons_zero, List.set_cons_succ]
  refine wpAnyH_take (i := 8) (v := ?_) (by simp only [List.getElem?_toArray, List.getElem?_cons_zero, List.getElem?_cons_succ]; rfl) (by kernel_rfl) (by kernel_rfl) (by kernel_rfl) (by exact fun _ _ _ h => hPan _ _ _ _ _ h) (Or.inl ⟨by rfl, ?_⟩) (by assumption) ?_
  rotate_left
  · (intro w hSw; (try dsimp only at hSw); go_simp; (try with_reducible rfl))
  try simp only [Act.put, List.setIfInBounds_toArray, List.set_cons_zero, List.set_cons_succ]
  refine wpAnyH_take (i := 9) (v := ?_) (by simp only [List.getElem?_toArray, List.getElem?_cons_zero, List.getElem?_cons_succ]; rfl) (by kernel_rfl) (by kernel_rfl) (by kernel_rfl) (by exact fun _ _ _ h => hPan _ _ _ _ _ h) (Or.inl ⟨by rfl, ?_⟩) (by assumption) ?_
  rotate_left
  · (intro w hSw; (try dsimp only at hSw); go_simp; (try with_reducible rfl))
  try simp only [Act.put, List.setIfInBounds_toArray, List.set_cons_zero, List.set_cons_succ]
  refine wpAnyH_take (i := 10) (v := ?_) (by simp only [List.getElem?_toArray, List.getElem?_cons_zero, List.getElem?_cons_succ]; rfl) (by kernel_rfl) (by kernel_rfl) (by kernel_rfl) (by exact fun _ _ _ h => hPan _ _ _ _ _ h) (Or.inl ⟨by rfl, ?_⟩) (by assumption) ?_
  rotate_left
  · (intro w hSw; (try dsimp only at hSw); go_simp; (try with_reducible rfl))
  try simp only [Act.put, List.setIfInBounds_toArray, List.set_cons_zero, List.set_cons_succ]
  refine wpAnyH_take (i := 11) (v := ?_) (by simp only [List.getElem?_toArray, List.getElem?_cons_zero, List.getElem?_cons_succ]; rfl) (by kernel_rfl) (by kernel_rfl) (by kernel_rfl) (by exact fun _ _ _ h => hPan _ _ _ _ _ h) (Or.inl ⟨by rfl, ?_⟩) (by assumption) ?_
  rotate_left
  · (intro w hSw; (try dsimp only at hSw); go_simp; (try with_reducible rfl))
  try simp only [Act.put, List.setIfInBounds_toArray, List.set_cons_zero, List.set_cons_succ]
  refine wpAnyH_ready (rs := [2, 13]) (by kernel_rfl) (by simp) ?_
  refine AllReadyH.cons (by simp only [List.getElem?_toArray, List.getElem?_cons_zero, List.getElem?_cons_succ]; rfl) (fun K hK => ?_) ?_
  · go_simp
    refine hK.out _ _ (hLk _ (hMd _ HM)) (fun hHeld => ?_)
    clear hK K
    try simp only [Act.put, List.setIfInBounds_toArray, List.set_cons_zero, List.set_cons_succ]
    refine wpAnyH_take (i := 7) (v := ?_) (by simp only [List.getElem?_toArray, List.getElem?_cons_zero, List.getElem?_cons_succ]; rfl) (by kernel_rfl) (by kernel_rfl) (by kernel_rfl) (by exact fun _ _ _ h => hPan _ _ _ _ _ h) (Or.inl ⟨by rfl, ?_⟩) (by assumption) ?_
    rotate_left
    · (intro w hSw; (try dsimp only at hSw); go_simp; (try with_reducible rfl))
    try simp only [Act.put, List.setIfInBounds_toArray, List.set_cons_zero, List.set_cons_succ]
    refine wpAnyH_take (i := 12) (v := ?_) (by simp only [List.getElem?_toArray, List.getElem?_cons_zero, List.getElem?_cons_succ]; rfl) (by kernel_rfl) (by kernel_rfl) (by kernel_rfl) (by exact fun _ _ _ h => hPan _ _ _ _ _ h) (Or.inl ⟨by rfl, ?_⟩) (by assumption) ?_
    rotate_left
    · (intro w hSw; (try dsimp only at hSw); go_simp; (try with_reducible rfl))
    try simp only [Act.put, List.setIfInBounds_toArray, List.set_cons_zero, List.set_cons_succ]
    refine wpAnyH_ready (rs := [13]) (by kernel_rfl) (by simp) ?_
    refine AllReadyH.cons (by simp only [List.getElem?_toArray, List.getElem?_cons_zero, List.getElem?_cons_succ]; rfl) (fun K hK => ?_) AllReadyH.nil
    go_simp
    refine hK.out _ _ (hLk _ (hMd _ HM)) (fun hHeld => ?_)
    clear hK K
    try simp only [Act.put, List.setIfInBounds_toArray, List.set_cons_zero, List.set_cons_succ]
    refine wpAnyH_ready (rs := [14]) (by kernel_rfl) (by simp) ?_
    refine AllReadyH.cons (by simp only [List.getElem?_toArray, List.getElem?_cons_zero, List.getElem?_cons_succ]; rfl) (fun K hK => ?_) AllReadyH.nil
    go_simp
    go_at_call 71
    (with_reducible refine (cE _).mono ?_)
    rintro e w6 ⟨rfl, hb⟩
    replace hb := undrew hb
    have T := hb
    replace HM := hMb _ _ HM hb
    replace HB := HB.below hb
    obtain ⟨pF, aF, bF, cF, dF1, eF⟩ := Fv.of_box HB
    have f0 := HB.frz 0
    have f1 := HB.frz 1
    have f2 := HB.frz 2
    have f3 := HB.frz 3
    have f4 := HB.frz 4
    clear hb
    refine hK.out _ _ (hLk _ HM) (fun hHeld => ?_)
    clear hK K
    try simp only [Act.put, List.setIfInBounds_toArray, List.set_cons_zero, List.set_cons_succ]
    refine wpAnyH_take (i := 15) (v := ?_) (by simp only [List.getElem?_toArray, List.getElem?_cons_zero, List.getElem?_cons_succ]; rfl) (by kernel_rfl) (by kernel_rfl) (by kernel_rfl) (by exact fun _ _ _ h => hPan _ _ _ _ _ h) (Or.inl ⟨by rfl, ?_⟩) (by assumption) ?_
    rotate_left
    · (intro w hSw; (try dsimp only at hSw); go_simp; (try with_reducible rfl))
    try simp only [Act.put, List.setIfInBounds_toArray, List.set_cons_zero, List.set_cons_succ]
    refine wpAnyH_ready (rs := [16]) (by kernel_rfl) (by simp) ?_
    refine AllReadyH.cons (by simp only [List.getElem?_toArray, List.getElem?_cons_zero, List.getElem?_cons_succ]; rfl) (fun K hK => ?_) AllReadyH.nil
    go_simp
    refine hK.out _ _ (hLk _ (hMp _ _ _ (hMp _ _ _ (hMp _ _ _ (hMp _ _ _ (hMp _ _ _ HM)))))) (fun hHeld => ?_)
    clear hK K
    try simp only [Act.put, List.setIfInBounds_toArray, List.set_cons_zero, List.set_cons_succ]
    refine wpAnyH_done (by kernel_rfl) ?_ _
    exact hQ'.out _ _ _ _ _ _ _ _ _ _ _ _ _ _ _ _ _ T
  refine AllReadyH.cons (by simp only [List.getElem?_toArray, List.getElem?_cons_zero, List.getElem?_cons_succ]; rfl) (fun K hK => ?_) AllReadyH.nil
  go_simp
  refine hK.out _ _ (hLk _ (hMd _ HM)) (fun hHeld => ?_)
  clear hK K
  try simp only [Act.put, List.setIfInBounds_toArray, List.set_cons_zero, List.set_cons_succ]
  refine wpAnyH_ready (rs := [2, 14]) (by kernel_rfl) (by simp) ?_
  refine AllReadyH.cons (by simp only [List.getElem?_toArray, List.getElem?_cons_zero, List.getElem?_cons_succ]; rfl) (fun K hK => ?_) ?_
  · go_simp
    refine hK.out _ _ (hLk _ (hMd _ HM)) (fun hHeld => ?_)
    clear hK K
    try simp only [Act.put, List.setIfInBounds_toArray, List.set_cons_zero, List.set_cons_succ]
    refine wpAnyH_take (i := 7) (v := ?_) (by simp only [List.getElem?_toArray, List.getElem?_cons_zero, List.getElem?_cons_succ]; rfl) (by kernel_rfl) (by kernel_rfl) (by kernel_rfl) (by exact fun _ _ _ h => hPan _ _ _ _ _ h) (Or.inl ⟨by rfl, ?_⟩) (by assumption) ?_
    rotate_left
    · (intro w hSw; (try dsimp only at hSw); go_simp; (try with_reducible rfl))
    try simp only [Act.put, List.setIfInBounds_toArray, List.set_cons_zero, List.set_cons_succ]
    refine wpAnyH_take (i := 12) (v := ?_) (by simp only [List.getElem?_toArray, List.getElem?_cons_zero, List.getElem?_cons_succ]; rfl) (by kernel_rfl) (by kernel_rfl) (by kernel_rfl) (by exact fun _ _ _ h => hPan _ _ _ _ _ h) (Or.inl ⟨by rfl, ?_⟩) (by assumption) ?_
    rotate_left
    · (intro w hSw; (try dsimp only at hSw); go_simp; (try with_reducible rfl))
    try simp only [Act.put, List.setIfInBounds_toArray, List.set_cons_zero, List.set_cons_succ]
    refine wpAnyH_ready (rs := [14]) (by kernel_rfl) (by simp) ?_
    refine AllReadyH.cons (by simp only [List.getElem?_toArray, List.getElem?_cons_zero, List.getElem?_cons_succ]; rfl) (fun K hK => ?_) AllReadyH.nil
    go_simp
    go_at_call 71
    (with_reducible refine (cE _).mono ?_)
    rintro e w6 ⟨rfl, hb⟩
    replace hb := undrew hb
    have T := hb
    replace HM := hMb _ _ HM hb
    replace HB := HB.below hb
    obtain ⟨pF, aF, bF, cF, dF1, eF⟩ := Fv.of_box HB
    have f0 := HB.frz 0
    have f1 := HB.frz 1
    have f2 := HB.frz 2
    have f3 := HB.frz 3
    have f4 := HB.frz 4
    clear hb
    refine hK.out _ _ (hLk _ HM) (fun hHeld => ?_)
    clear hK K
    try simp only [Act.put, List.setIfInBounds_toArray, List.set_cons_zero, List.set_cons_succ]
    refine wpAnyH_take (i := 15) (v := ?_) (by simp only [List.getElem?_toArray, List.getElem?_cons_zero, List.getElem?_cons_succ]; rfl) (by kernel_rfl) (by kernel_rfl) (by kernel_rfl) (by exact fun _ _ _ h => hPan _ _ _ _ _ h) (Or.inl ⟨by rfl, ?_⟩) (by assumption) ?_
    rotate_left
    · (intro w hSw; (try dsimp only at hSw); go_simp; (try with_reducible rfl))
    try simp only [Act.put, List.setIfInBounds_toArray, List.set_cons_zero, List.set_cons_succ]
    refine wpAnyH_ready (rs := [16]) (by kernel_rfl) (by simp) ?_
    refine AllReadyH.cons (by simp only [List.getElem?_toArray, List.getElem?_cons_zero, List.getElem?_cons_succ]; rfl) (fun K hK => ?_) AllReadyH.nil
    go_simp
    refine hK.out _ _ (hLk _ (hMp _ _ _ (hMp _ _ _ (hMp _ _ _ (hMp _ _ _ (hMp _ _ _ HM)))))) (fun hHeld => ?_)
    clear hK K
    try simp only [Act.put, List.setIfInBounds_toArray, List.set_cons_zero, List.set_cons_succ]
    refine wpAnyH_done (by kernel_rfl) ?_ _
    exact hQ'.out _ _ _ _ _ _ _ _ _ _ _ _ _ _ _ _ _ T
  refine AllReadyH.cons (by simp only [List.getElem?_toArray, List.getElem?_cons_zero, List.getElem?_cons_succ]; rfl) (fun K hK => ?_) AllReadyH.nil
  go_simp
  go_at_call 71
  (with_reducible refine (cE _).mono ?_)
  rintro e w6 ⟨rfl, hb⟩
  replace hb := undrew hb
  have T := hb
  replace HM := hMb _ _ HM hb
  replace HB := HB.below hb
  obtain ⟨pF, aF, bF, cF, dF1, eF⟩ := Fv.of_box HB
  have f0 := HB.frz 0
  have f1 := HB.frz 1
  have f2 := HB.frz 2
  have f3 := HB.frz 3
  have f4 := HB.frz 4
  clear hb
  refine hK.out _ _ (hLk _ HM) (fun hHeld => ?_)
  clear hK K
  try simp only [Act.put, List.setIfInBounds_toArray, List.set_cons_zero, List.set_cons_succ]
  refine wpAnyH_ready (rs := [2]) (by kernel_rfl) (by simp) ?_
  refine AllReadyH.cons (by simp only [List.getElem?_toArray, List.getElem?_cons_zero, List.getElem?_cons_succ]; rfl) (fun K hK => ?_) AllReadyH.nil
  go_simp
  refine hK.out _ _ (hLk _ HM) (fun hHeld => ?_)
  clear hK K
  try simp only [Act.put, List.setIfInBounds_toArray, List.set_cons_zero, List.set_cons_succ]
  refine wpAnyH_take (i := 7) (v := ?_) (by simp only [List.getElem?_toArray, List.getElem?_cons_zero, List.getElem?_cons_succ]; rfl) (by kernel_rfl) (by kernel_rfl) (by kernel_rfl) (by exact fun _ _ _ h => hPan _ _ _ _ _ h) (Or.inl ⟨by rfl, ?_⟩) (by assumption) ?_
  rotate_left
  · (intro w hSw; (try dsimp only at hSw); go_simp; (try with_reducible rfl))
  try simp only [Act.put, List.setIfInBounds_toArray, List.set_cons_zero, List.set_cons_succ]
  refine wpAnyH_take (i := 12) (v := ?_) (by simp only [List.getElem?_toArray, List.getElem?_cons_zero, List.getElem?_cons_succ]; rfl) (by kernel_rfl) (by kernel_rfl) (by kernel_rfl) (by exact fun _ _ _ h => hPan _ _ _ _ _ h) (Or.inl ⟨by rfl, ?_⟩) (by assumption) ?_
  rotate_left
  · (intro w hSw; (try dsimp only at hSw); go_simp; (try with_reducible rfl))
  try simp only [Act.put, List.setIfInBounds_toArray, List.set_cons_zero, List.set_cons_succ]
  refine wpAnyH_take (i := 15) (v := ?_) (by simp only [List.getElem?_toArray, List.getElem?_cons_zero, List.getElem?_cons_succ]; rfl) (by kernel_rfl) (by kernel_rfl) (by kernel_rfl) (by exact fun _ _ _ h => hPan _ _ _ _ _ h) (Or.inl ⟨by rfl, ?_⟩) (by assumption) ?_
  rotate_left
  · (intro w hSw; (try dsimp only at hSw); go_simp; (try with_reducible rfl))
  try simp only [Act.put, List.setIfInBounds_toArray, List.set_cons_zero, List.set_cons_succ]
  refine wpAnyH_ready (rs := [16]) (by kernel_rfl) (by simp) ?_
  refine AllReadyH.cons (by simp only [List.getElem?_toArray, List.getElem?_cons_zero, List.getElem?_cons_succ]; rfl) (fun K hK => ?_) AllReadyH.nil
  go_simp
  refine hK.out _ _ (hLk _ (hMp _ _ _ (hMp _ _ _ (hMp _ _ _ (hMp _ _ _ (hMp _ _ _ HM)))))) (fun hHeld => ?_)
  clear hK K
  try simp only [Act.put, List.setIfInBounds_toArray, List.set_cons_zero, List.set_cons_succ]
  refine wpAnyH_done (by kernel_rfl) ?_ _
  exact hQ'.out _ _ _ _ _ _ _ _ _ _ _ _ _ _ _ _ _ T
end Go.Proofs.Ytjbpaapglamilaa

namespace Go.Proofs.Ytjbpaapglamilaa
open Go.RowKit Go.Shelf Go.Maps W
set_option linter.unusedVariables false
attribute [local go_sem] Oper.semAt_some
/-- How far the stretches have come. -/
def Cov (l : List (Int × Int)) : Int := match l.getLast? with | none => 0 | some x => x.2
theorem Cov_snoc (l : List (Int × Int)) (x : Int × Int) : Cov (l ++ [x]) = x.2 := by simp [Cov]
/-- What may come next. -/
def Nx (ys : List Cv) (pre : List (Int × Int)) (x : Int × Int) : Prop := x.1 = Cov pre ∧ 0 ≤ x.1 ∧ x.1 < x.2 ∧ x.2 ≤ 9223372036854775807 ∧ Clear ys x.1 x.2
/-- The ends of the stretches. -/
structure Ends (ys : List Cv) (cs : List Int) : Prop where
  rise : cs.Pairwise (· < ·)
  pos : ∀ x ∈ cs, 0 < x ∧ x ≤ 9223372036854775807
  last : ∃ ts, cs = ts ++ [9223372036854775807]
  all : ∀ c ∈ ys, c.l = 0 ∨ c.l ∈ cs
def frm (cs : List Int) (i : Nat) : Int := if i = 0 then 0 else cs.getD (i - 1) 0
theorem Ends.at {ys : List Cv} {cs : List Int} (h : Ends ys cs) {i : Nat} (hi : i < cs.length) : 0 ≤ frm cs i ∧ frm cs i < cs.getD i 0 ∧ cs.getD i 0 ≤ 9223372036854775807 ∧ Clear ys (frm cs i) (cs.getD i 0) := by
  have g : ∀ j (hj : j < cs.length), cs.getD j 0 = cs[j] := fun j hj => by simp [List.getD, List.getElem?_eq_getElem hj]
  have hp := h.pos cs[i] (List.getElem_mem hi)
  have hlt : frm cs i < cs.getD i 0 ∧ 0 ≤ frm cs i := by
    unfold frm
    split
    · rw [g i hi]; omega
    · rename_i h0
      have := List.pairwise_iff_getElem.1 h.rise (i - 1) i (by omega) hi (by omega)
      have hq := h.pos cs[i - 1] (List.getElem_mem (by omega))
      rw [g i hi, g (i - 1) (by omega)]; omega
  refine ⟨hlt.2, hlt.1, by rw [g i hi]; exact hp.2, fun c hc => ?_⟩
  rcases h.all c hc with h0 | hm
  · left; omega
  · obtain ⟨j, hj, ej⟩ := List.getElem_of_mem hm
    rw [g i hi, ← ej]
    by_cases hji : j < i
    · left
      unfold frm
      rw [if_neg (by omega), g (i - 1) (by omega)]
      by_cases e : j = i - 1
      · subst e; exact Int.le_refl _
      · exact Int.le_of_lt (List.pairwise_iff_getElem.1 h.rise j (i - 1) hj (by omega) (by omega))
    · right
      by_cases e : i = j
      · subst e; exact Int.le_refl _
      · exact Int.le_of_lt (List.pairwise_iff_getElem.1 h.rise i j hi hj (by omega))
theorem ends_of {ys : List Cv} (hg : Good ys) {ts : List Int} (hp : ts.Pairwise (· < ·)) (hm : ∀ x, x ∈ ts ↔ (kF ys x ∧ x ≠ 0)) : Ends ys (ts ++ [9223372036854775807]) := by
  have hb : ∀ x ∈ ts, 0 < x ∧ x ≤ 1099511627776 := fun x hx => by
    obtain ⟨h1 | ⟨c, hc, e⟩, h2⟩ := (hm x).1 hx
    · exact absurd h1 h2
    · have := small (hg c hc); omega
  refine ⟨List.pairwise_append.2 ⟨hp, by simp, fun a ha b hb' => by have := hb a ha; simp at hb'; omega⟩, fun x hx => ?_, ⟨ts, rfl⟩, fun c hc => ?_⟩
  · rcases List.mem_append.1 hx with h | h
    · have := hb x h; omega
    · simp at h; omega
  · by_cases h0 : c.l = 0
    · exact .inl h0
    · exact .inr (List.mem_append_left _ ((hm c.l).2 ⟨.inr ⟨c, hc, rfl⟩, h0⟩))
theorem stretches_any (a : Option Addr) (n c : Nat) (w : World) :
    Calls Try.prog 59 #[.slice a n c] w fun e w' => e = .returned (.func (.func 67) #[] #[.pointer (some ⟨w.heap.size, 0, none⟩)]) ∧ w' = w.alloc (.cells #[.slice a n c] 23) := by
  go_enter Try.func59, Try.ntmps59
  go_wp2
  go_ret
  exact ⟨rfl, rfl⟩
set_option maxRecDepth 100000 in
theorem fieldU (x y : Int) (w : World) : (Instr.field 112 (.agg #[eU x, eU y]) 0).run Try.prog w = .ok (eU x) w := by rfl
set_option maxRecDepth 100000 in
theorem fieldV (x y : Int) (w : World) : (Instr.field 112 (.agg #[eU x, eU y]) 1).run Try.prog w = .ok (eU y) w := by rfl
theorem MapB.block {w w' : World} {b nn : Nat} {U V : Int → Int} {K : Int → Prop} (h : MapB w b nn U V K) (hb : w'.heap[b]? = w.heap[b]?) : MapB w' b nn U V K := by
  obtain ⟨D, ⟨es, clock, h1, h2⟩, h3⟩ := h
  exact ⟨D, ⟨es, clock, hb.trans h1, h2⟩, h3⟩
theorem owns_block {w w' : World} {base g n cap k : Nat} {zs : List Value} (h : w.ownsRow base 22 1 (.slice (some ⟨g, 0, none⟩) n cap) k zs) (hb : w'.heap[g]? = w.heap[g]?) : w'.ownsRow base 22 1 (.slice (some ⟨g, 0, none⟩) n cap) k zs := by
  refine ⟨h.1, ?_⟩
  rcases h.2 with ⟨e, _⟩ | ⟨g', cap', cur, e, h2, h3, h4⟩
  · cases e
  · cases e
    exact .inr ⟨g, cap, cur, rfl, h2, hb.trans h3, h4⟩
theorem box_set {W : World} {B : Nat} {vs : Array Value} {t : TypeId} (h : Box W B vs t) (i : Nat) (v : Value) : Box (W.setCell ⟨B, i, none⟩ v) B (vs.setIfInBounds i v) t := by
  have hlt := h.lt
  have hb : W.heap[B]? = some (.cells vs t (0, 0)) := h
  unfold Box
  rw [Go.Sort.setCell_eq]
  simp [Go.Sort.mapBlock, Array.getElem?_modify, hb, Go.Sort.onCells]
theorem box5 {W : World} {B : Nat} {a b c d e : Value} {t : TypeId} (h : Box W B #[a, b, c, d, e] t) (p q r s u : Value) :
    Box (((((W.setCell ⟨B, 0, none⟩ p).setCell ⟨B, 1, none⟩ q).setCell ⟨B, 2, none⟩ r).setCell ⟨B, 3, none⟩ s).setCell ⟨B, 4, none⟩ u) B #[p, q, r, s, u] t := by
  have := box_set (box_set (box_set (box_set (box_set h 0 p) 1 q) 2 r) 3 s) 4 u
  simpa using this
theorem set5_other {X : World} {B g : Nat} (h : g ≠ B) (p q r s u : Value) : (((((X.setCell ⟨B, 0, none⟩ p).setCell ⟨B, 1, none⟩ q).setCell ⟨B, 2, none⟩ r).setCell ⟨B, 3, none⟩ s).setCell ⟨B, 4, none⟩ u).heap[g]? = X.heap[g]? :=
  (Below.heap_setCell _ _ _ g h).trans ((Below.heap_setCell _ _ _ g h).trans ((Below.heap_setCell _ _ _ g h).trans ((Below.heap_setCell _ _ _ g h).trans (Below.heap_setCell _ _ _ g h))))
theorem one_new (w : World) (x : Int) : ∀ j u, [eU x][j]? = some u → (w.alloc (.cells #[eU x] 22)).cell? ((⟨w.heap.size, 0, none⟩ : Addr).add j) = some u := by
  intro j u hj
  have hb : (w.alloc (.cells #[eU x] 22)).heap[w.heap.size]? = some (.cells #[eU x] 22 (0, 0)) := World.alloc_heap_new w _
  exact World.news_of_block hb j u (by simpa using hj)
set_option maxRecDepth 100000 in
set_option maxHeartbeats 4000000 in
theorem stretches_go (m : Nat) (hsort : SortU m) (n : Nat) (hn9 : 9 ≤ n) (xs : List CW) (hxl : xs.length ≤ 400) (hxm : xs.length + 1 ≤ m) (a : Option Addr) (k c Bm n₀ : Nat) (w0 w : World) (h : IsCvs w0 a k c (unW xs)) (hbw : Below w0.heap.size w0 w) (hBm : Bm < w.heap.size)
    (hm : w.cell? ⟨Bm, 0, none⟩ = some (.slice a k c)) :
    SeqC n 67 #[.pointer (some ⟨Bm, 0, none⟩)] (fun x : Int × Int => #[strV (unW (cntW xs)) x.1 x.2]) n₀ (fun ss => Cov ss = 9223372036854775807) (fun _ => True) (Nx (unW (cntW xs))) w := by
  intro l J Jx W hW hJ hJx hY hJ0
  have hmW : W.cell? ⟨Bm, 0, none⟩ = some (.slice a k c) := (hW.cell (p := ⟨Bm, 0, none⟩) hBm).trans hm
  have h1 : IsCvs W a k c (unW xs) := h.below (hbw.trans (hW.mono hbw.size))
  have hJ' : ∀ pre W' W'', J pre W' → Below W'.heap.size W' W'' → J pre W'' := fun pre W' W'' h hb => hJ pre W' W'' none h ⟨hb.os, hb.tape, hb.output, hb.size, fun k hk _ => hb.block k hk⟩ (fun r e => by cases e)
  have hg : Good (unW (cntW xs)) := by rw [unW_cnt]; exact good_cnt (unW_words xs)
  have hyl : (unW (cntW xs)).length ≤ xs.length := by unfold unW; rw [List.length_map]; exact List.length_filter_le _ _
  have hyn : (unW (cntW xs)).length ≤ 1000 := by omega
  have cB := bends_of xs a k c W (by omega) h1 (n - 1) (by omega)
  have hk1 : ∀ x, (kF (unW (cntW xs)) x ∧ x ≠ 0) → kF (unW (cntW xs)) x := fun x h => h.1
  have hwd := unW_words (cntW xs)
  obtain ⟨eu, ev⟩ := uv_eq hg hyn
  have hs0 : slF (unW (cntW xs)) 0 = uF (unW (cntW xs)) 0 := by rw [eu, slF_zero hg]
  have hz0 : sW (unW (cntW xs)) 0 = 0 := sW_zero hwd
  have hpl : (unW (cntW xs)).length + 1 ≤ m := by omega
  generalize unW (cntW xs) = ys at *
  have hnn : ∀ nn, nn ≤ 1 + 2 * xs.length → nn ≤ 1000 := fun nn h => by omega
  have hts : ∀ ts : List Int, ts.Pairwise (· < ·) → (∀ x, x ∈ ts ↔ (kF ys x ∧ x ≠ 0)) → ts.length + 1 ≤ 5000 ∧ (ts.length + 1) * 8 ≤ 140737488355328 ∧ Ends ys (ts ++ [9223372036854775807]) := fun ts hp hmem => by
    have := kF_len (pre := ys) (ss := ts) (hp.imp (fun h => by omega)) (fun x hx => ((hmem x).1 hx).1)
    exact ⟨by omega, by omega, ends_of hg hp hmem⟩
  clear h hbw hW hm hxl hxm hyl
  have h1n : 1 ≤ n := by omega
  obtain ⟨s0, es0⟩ : ∃ s0, uF ys 0 = s0 := ⟨_, rfl⟩
  obtain ⟨d0, ed0⟩ : ∃ d0, vF ys 0 = d0 := ⟨_, rfl⟩
  have es := Lib.hid es0
  have ed := Lib.hid ed0
  clear es0 ed0
  have fU := fieldU
  have fV := fieldV
  have n5 : 5 ≤ n - 1 := by omega
  obtain ⟨i0, hi, hi0, hi1, hi2⟩ := info_parts infoU
  have hmx : ∀ k, k ≤ 5000 → k ≤ maxLen := fun k hk => Nat.le_trans hk (by decide)
  refine callsIn_of_wp Try.func67 rfl trivial ?_ rfl
  simp only [Try.ntmps67, List.size_toArray, List.length_cons, List.length_nil, Nat.reduceAdd, Nat.reduceSub, Array.replicate_succ, Array.replicate_zero, List.push_toArray, List.append_toArray, List.nil_append, List.cons_append]
  gi_wp2_with (first
    | (refine ⟨trivial, ?_⟩; gi_at_call 68; refine cB.mono ?_; rintro e w1 ⟨rfl, ⟨nn, hnl, hM⟩, hb1, hlt1⟩
       have cS := Box.new w1 98 #[eU 0, eU 0, eU s0, eU 0, eU 0]
       have hnn' := hnn nn hnl)
    | (refine look_b rfl _ _ rfl hM rfl 0 s0 d0 rfl Go.Proofs.Ytjbpaapglamilaa.w0 es.out ed.out ?_)
    | (refine del_b rfl _ _ rfl (hM.alloc _) rfl 0 rfl Go.Proofs.Ytjbpaapglamilaa.w0 ?_
       intro w2 hM2 hg2
       have cK := keys_any (some W.heap.size) w2
       have bX := Boxed.new w2 109 (.map (some W.heap.size))
       have cS2 := keys_sorted m hsort (n - 1) n5 ys hwd hpl W.heap.size w2.heap.size nn hnn' _ _ _ hk1 _ (hM2.alloc (.cells #[.map (some W.heap.size)] 109)) (by simp) bX.cell)
    | (refine ⟨trivial, ?_⟩; gi_at_call 70; refine (callsIn_wide.2 cK).mono ?_; rintro e w3 ⟨rfl, rfl⟩)
    | (refine ⟨trivial, ?_⟩; gi_at_call 69; refine cS2.mono ?_; rintro e w4 ⟨v, ts, rfl, hp, hmem, hrow, hb4⟩
       obtain ⟨kt1, kt2, hEnds⟩ := hts ts hp hmem)
    | (gi_at_builtin
       refine app_lies _ rfl _ _ 89 rfl (w2.alloc (.cells #[.map (some W.heap.size)] 109)).heap.size 22 i0 (.int .u64 0) 1 8 Try.underlying89 hi hi0 hi1 hi2 rfl (by decide) _ _ _ rfl (hrow.alloc _) ⟨w4.heap.size, 0, none⟩ 1 1 [eU 9223372036854775807] rfl rfl (one_new _ _) (by simp [Value.oneCell']) (by decide) (hmx _ kt1) kt2 (Nat.le_trans hb4.size (up1 _ _).size) ?_
       intro g cap w5 hown5 hgrow5 hlie5))
  obtain ⟨hb, hbw⟩ : ∃ b, W.heap.size = b := ⟨_, rfl⟩
  have hbB : W.heap.size < w1.heap.size := hlt1
  have z2 := hg2.size
  rw [World.size_alloc] at z2
  have hvb : ∀ q, q < w2.heap.size + 1 → some q ≠ v.ownBlock := fun q hq e => by
    have := (hrow.lt q e.symm).1
    rw [World.size_alloc] at this
    omega
  have z4 := hb4.size
  rw [World.size_alloc] at z4
  have BS : Box w5 w1.heap.size #[eU 0, eU 0, eU s0, eU 0, eU 0] 98 := by
    have e1 : Box w2 w1.heap.size #[eU 0, eU 0, eU s0, eU 0, eU 0] 98 := (hg2.block _ cS.lt (fun e => by have := Option.some.inj e; omega)).trans cS
    have e3 := ((e1.alloc (.cells #[.map (some W.heap.size)] 109)).below hb4).alloc (.cells #[eU 9223372036854775807] 22)
    exact (hgrow5.block _ e3.lt (hvb _ (by omega))).trans e3
  have M5 := (((hM2.alloc (.cells #[.map (some W.heap.size)] 109)).below hb4).alloc (.cells #[eU 9223372036854775807] 22)).kept hgrow5 (hvb _ (by omega))
  have J5 : J [] w5 := by
    have j1 := hJ' _ _ _ hJ0 hb1
    have j2 := hJ' _ _ _ j1 (up1 w1 (.cells #[eU 0, eU 0, eU s0, eU 0, eU 0] 98))
    have j3 := hJ _ _ _ _ j2 hg2 (fun r e => by cases e; exact Nat.le_refl _)
    have j4 := hJ' _ _ _ j3 (up1 w2 (.cells #[.map (some W.heap.size)] 109))
    have j5 := hJ' _ _ _ j4 hb4
    have j6 := hJ' _ _ _ j5 (up1 w4 (.cells #[eU 9223372036854775807] 22))
    exact hJ _ _ _ _ j6 hgrow5 (fun r e => by
      have := (hrow.lt r e).1
      rw [World.size_alloc] at this
      omega)
  have z5 := hgrow5.size
  rw [World.size_alloc] at z5
  have hg5 : W.heap.size ≤ g := by
    rcases hlie5 with e | e
    · have := (hrow.lt g e).1
      rw [World.size_alloc] at this
      omega
    · rw [World.size_alloc] at e; omega
  have hz5 : W.heap.size ≤ w5.heap.size := by omega
  have eBs : W.heap.size ≤ w1.heap.size := by omega
  have hlast : (ts ++ [(9223372036854775807 : Int)]).length = ts.length + 1 := by simp
  have row5 : w5.ownsRow (w2.alloc (.cells #[.map (some W.heap.size)] 109)).heap.size 22 1 (.slice (some ⟨g, 0, none⟩) (ts.length + 1) cap) (ts ++ [(9223372036854775807 : Int)]).length ((ts ++ [(9223372036854775807 : Int)]).map eU) := by
    rw [hlast]; simpa using hown5
  have hcs : ∃ q, ts ++ [(9223372036854775807 : Int)] = q ++ [9223372036854775807] := ⟨ts, rfl⟩
  generalize ts ++ [(9223372036854775807 : Int)] = cs at *
  generalize hBs : w1.heap.size = Bs at *
  generalize (w2.alloc (.cells #[.map (some W.heap.size)] 109)).heap.size = base at *
  have hJx' := hJx
  have hcl : cs.length ≤ 5000 := by rw [hlast]; exact kt1
  clear cB cK cS cS2 bX hb1 hlt1 hM hM2 hg2 hrow hb4 hown5 hgrow5 hlie5 hvb z2 z4 z5 hmem hp kt1 kt2 hts hbw hJ0 h1 hk1 hwd hpl hmW hsort hnn hnn' hJx' hBs
  gi_loopw [20] (fun s20 wr => ∃ (i : Nat) (pre : List (Int × Int)) (z : Int), s20 = .int .i64 i ∧ i ≤ cs.length ∧ J pre wr ∧ Cov pre = frm cs i ∧ Box wr Bs #[eU (frm cs i), eU z, eU (slF ys (frm cs i)), eU (hiW (sW ys (frm cs i))), eU (loW (sW ys (frm cs i)))] 98 ∧ MapB wr W.heap.size nn (fun j => if j = 0 then 0 else uF ys j) (fun j => if j = 0 then 0 else vF ys j) (fun j => kF ys j ∧ j ≠ 0) ∧ wr.ownsRow base 22 1 (.slice (some ⟨g, 0, none⟩) (ts.length + 1) cap) cs.length (cs.map eU) ∧ W.heap.size ≤ wr.heap.size) (fun s20 _ => cs.length - (intOf s20).toNat)
  case atStart =>
    refine ⟨0, [], 0, rfl, by omega, J5, rfl, ?_, M5, row5, hz5⟩
    have : frm cs 0 = 0 := rfl
    rw [this, hs0, es.out, hz0]
    exact BS
  case round =>
    obtain ⟨i, pre, z, rfl, hic, hJp, hcov, BS1, M1, row1, hz1⟩ := hrel
    by_cases hlt : i < cs.length
    · have i1 : (i : Int) < (ts.length : Int) + 1 := by omega
      have i2 : (0 : Int) ≤ (i : Int) := by omega
      obtain ⟨hF0, hFk, hkl, hclr⟩ := hEnds.at hlt
      have rowc := owns_cell row1 hlt
      have hfrm : frm cs (i + 1) = cs.getD i 0 := by simp [frm]
      have hBSlt := BS1.lt
      have hbg : g < wr.heap.size := (row1.lt g rfl).2
      have hMlt := M1.lt
      have hgB : g ≠ Bs := by
        rcases owns_ne row1 BS1 (by decide) with e | e
        · cases e
        · intro e'; exact e (by rw [e']; rfl)
      have hY1 := hY pre (frm cs i, cs.getD i 0) (wr.setCell ⟨Bs, 1, none⟩ (eU (cs.getD i 0))) (by simp [World.setCell]; exact hz1) (hJ _ _ _ _ hJp (put_grown wr Bs 1 _) (fun r e => by cases e; exact eBs)) ⟨hcov.symm, hF0, hFk, hkl, hclr⟩
      have cE := fun w => end_sum hg hyn hF0 hFk hkl hclr w
      have hstep := slF_step hg hF0 hFk hclr
      have b1 := slF_le hg (frm cs i)
      have b2 := pU_le hg (cs.getD i 0)
      have b3 := pV_le hg (cs.getD i 0)
      have b4 := slF_le hg (cs.getD i 0)
      have m1 : (ys.length : Int) * 1048576 ≤ 1000 * 1048576 := Int.mul_le_mul_of_nonneg_right (by omega) (by omega)
      have m2 : (ys.length : Int) * 2097152 ≤ 1000 * 2097152 := Int.mul_le_mul_of_nonneg_right (by omega) (by omega)
      have eUk : (if cs.getD i 0 = 0 then 0 else uF ys (cs.getD i 0)) = pU ys (cs.getD i 0) := by rw [if_neg (by omega), eu]
      have eVk : (if cs.getD i 0 = 0 then 0 else vF ys (cs.getD i 0)) = pV ys (cs.getD i 0) := by rw [if_neg (by omega), ev]
      have hkw : Word (cs.getD i 0) := ⟨by omega, by omega⟩
      have hlk : ∀ w', MapB w' W.heap.size nn (fun j => if j = 0 then 0 else uF ys j) (fun j => if j = 0 then 0 else vF ys j) (fun j => kF ys j ∧ j ≠ 0) → (Instr.lookup 109 (.map (some W.heap.size)) (eU (cs.getD i 0)) false).run Try.prog w' = .ok (.agg #[eU (pU ys (cs.getD i 0)), eU (pV ys (cs.getD i 0))]) w' := fun w' hM' => hM'.look hkw eUk eVk
      have hg1 : IntKind.u64.wrap (slF ys (frm cs i) + pU ys (cs.getD i 0)) = slF ys (frm cs i) + pU ys (cs.getD i 0) := wrapU ⟨by omega, by omega⟩
      have hg2 : IntKind.u64.wrap (slF ys (frm cs i) + pU ys (cs.getD i 0) - pV ys (cs.getD i 0)) = slF ys (cs.getD i 0) := by rw [hstep]; exact wrapU ⟨by omega, by omega⟩
      obtain ⟨pr, epr⟩ : ∃ pr, pre ++ [(frm cs i, cs.getD i 0)] = pr := ⟨_, rfl⟩
      have hcov2 : Cov pr = cs.getD i 0 := by rw [← epr, Cov_snoc]
      dsimp only [strV] at hY1 cE
      rw [epr] at hY1
      clear eUk eVk hstep b1 b2 b3 b4 m1 m2 hcov hEnds epr hkw hlast hcs hclr
      have hLk := Lib.hid hlk
      have hNext : ∀ {w' : World}, J pr w' → Box w' Bs #[eU (cs.getD i 0), eU 0, eU (slF ys (cs.getD i 0)), eU (hiW (sW ys (cs.getD i 0))), eU (loW (sW ys (cs.getD i 0)))] 98 → MapB w' W.heap.size nn (fun j => if j = 0 then 0 else uF ys j) (fun j => if j = 0 then 0 else vF ys j) (fun j => kF ys j ∧ j ≠ 0) → w'.ownsRow base 22 1 (.slice (some ⟨g, 0, none⟩) (ts.length + 1) cap) cs.length (cs.map eU) → W.heap.size ≤ w'.heap.size →
          ∃ (i' : Nat) (pre : List (Int × Int)) (z : Int), (Value.int .i64 ((i : Int) + 1)) = .int .i64 i' ∧ i' ≤ cs.length ∧ J pre w' ∧ Cov pre = frm cs i' ∧ Box w' Bs #[eU (frm cs i'), eU z, eU (slF ys (frm cs i')), eU (hiW (sW ys (frm cs i'))), eU (loW (sW ys (frm cs i')))] 98 ∧ MapB w' W.heap.size nn (fun j => if j = 0 then 0 else uF ys j) (fun j => if j = 0 then 0 else vF ys j) (fun j => kF ys j ∧ j ≠ 0) ∧ w'.ownsRow base 22 1 (.slice (some ⟨g, 0, none⟩) (ts.length + 1) cap) cs.length (cs.map eU) ∧ W.heap.size ≤ w'.heap.size := fun {w'} a1 a2 a3 a4 a5 =>
        ⟨i + 1, pr, 0, by go_num, by omega, a1, by rw [hfrm]; exact hcov2, by rw [hfrm]; exact a2, a3, a4, a5⟩
      have hN : Hid (∀ w' : World, J pr w' → Box w' Bs #[eU (cs.getD i 0), eU 0, eU (slF ys (cs.getD i 0)), eU (hiW (sW ys (cs.getD i 0))), eU (loW (sW ys (cs.getD i 0)))] 98 → MapB w' W.heap.size nn (fun j => if j = 0 then 0 else uF ys j) (fun j => if j = 0 then 0 else vF ys j) (fun j => kF ys j ∧ j ≠ 0) → w'.ownsRow base 22 1 (.slice (some ⟨g, 0, none⟩) (ts.length + 1) cap) cs.length (cs.map eU) → W.heap.size ≤ w'.heap.size →
          ∃ (i' : Nat) (pre : List (Int × Int)) (z : Int), (Value.int .i64 ((i : Int) + 1)) = .int .i64 i' ∧ i' ≤ cs.length ∧ J pre w' ∧ Cov pre = frm cs i' ∧ Box w' Bs #[eU (frm cs i'), eU z, eU (slF ys (frm cs i')), eU (hiW (sW ys (frm cs i'))), eU (loW (sW ys (frm cs i')))] 98 ∧ MapB w' W.heap.size nn (fun j => if j = 0 then 0 else uF ys j) (fun j => if j = 0 then 0 else vF ys j) (fun j => kF ys j ∧ j ≠ 0) ∧ w'.ownsRow base 22 1 (.slice (some ⟨g, 0, none⟩) (ts.length + 1) cap) cs.length (cs.map eU) ∧ W.heap.size ≤ w'.heap.size) := fun w' => hNext
      clear hNext hlk hfrm hcov2 hF0 hFk hkl
      generalize cs.getD i 0 = kx at *
      generalize frm cs i = F at *
      generalize slF ys F = sg at *
      generalize hiW (sW ys F) = h0 at *
      generalize loW (sW ys F) = l0 at *
      generalize pU ys kx = uk at *
      generalize pV ys kx = dk at *
      generalize slF ys kx = sg2 at *
      generalize hiW (sW ys kx) = h2 at *
      generalize loW (sW ys kx) = l2 at *
      obtain ⟨fn, tmps, assign, body, hy, hR⟩ := hY1
      obtain ⟨o0, o1, o2, o3, o4, o5⟩ := Fv.of_box BS1
      have q0 := BS1.frz 1
      have BSs := box_set BS1 1 (eU kx)
      have BSs' : Box (wr.setCell ⟨Bs, 1, none⟩ (eU kx)) Bs #[eU F, eU kx, eU sg, eU h0, eU l0] 98 := by simpa using BSs
      have Ms := M1.put (show W.heap.size ≠ Bs by omega) 1 (eU kx)
      have rows := row1.kept (put_grown wr Bs 1 (eU kx)) (owns_ne row1 BS1 (by decide))
      have zs : (wr.setCell ⟨Bs, 1, none⟩ (eU kx)).heap.size = wr.heap.size := by simp [World.setCell]
      clear BSs BS1 M1 row1 hJp
      gi_wp2
      refine hR.mono ?_
      rintro e W3 (⟨rfl, hJ3, hk3⟩ | ⟨rfl, hJx3⟩)
      · have B3 : Box W3 Bs #[eU F, eU kx, eU sg, eU h0, eU l0] 98 := (hk3.2 Bs eBs BSs'.lt).trans BSs'
        have M3 := Ms.block (hk3.2 W.heap.size (Nat.le_refl _) Ms.lt)
        have r3 := owns_block rows (hk3.2 g hg5 (rows.lt g rfl).2)
        have hz3 : W.heap.size ≤ W3.heap.size := by have := hk3.size; omega
        clear hR hy hk3 BSs' Ms rows zs rowc o0 o1 o2 o3 o4 o5 q0
        have nWB : W.heap.size ≠ Bs := by omega
        gi_wp2
        refine wpIn_wide.2 ?_
        refine reg8 W.heap.size Bs F kx sg h0 l0 uk dk sg2 h2 l2 W3 _ _ _ _ _ _ _ _ _ _ _ _ _ _ _ _ _ _ _ _ _ _ _ _ _ _ _ _ _ _ _ _ _ _ _ _ _ _ _ _ _ _ _ _ _ (by exact fun _ _ _ _ _ h => h) (fun w' => MapB w' W.heap.size nn (fun j => if j = 0 then 0 else uF ys j) (fun j => if j = 0 then 0 else vF ys j) (fun j => kF ys j ∧ j ≠ 0)) (fun w w' h hb => h.below hb) (fun w h => h) (fun w i v h => h.put nWB i v) hLk.out fU fV hg1 hg2 cE B3 M3 ?_
        intro y30 y31 y32 y33 y34 y35 y36 y37 y38 y39 y40 y41 y42 y43 y44 y45 w6 T
        have B6 := box5 (B3.below T) (eU kx) (eU 0) (eU sg2) (eU h2) (eU l2)
        have M6 := (((((M3.below T).put nWB 0 (eU kx)).put nWB 1 (eU 0)).put nWB 2 (eU sg2)).put nWB 3 (eU h2)).put nWB 4 (eU l2)
        have r6 := owns_block (owns_below r3 T) (set5_other (X := w6) hgB (eU kx) (eU 0) (eU sg2) (eU h2) (eU l2))
        have jp : ∀ (X : World) (i : Nat) (v : Value), J pr X → J pr (X.setCell ⟨Bs, i, none⟩ v) := fun X i v hj => hJ _ _ _ _ hj (put_grown X Bs i v) (fun r e => by cases e; exact eBs)
        have J6 := jp _ 4 (eU l2) (jp _ 3 (eU h2) (jp _ 2 (eU sg2) (jp _ 1 (eU 0) (jp _ 0 (eU kx) (hJ' _ _ _ hJ3 T)))))
        have z6 : W.heap.size ≤ (((((w6.setCell ⟨Bs, 0, none⟩ (eU kx)).setCell ⟨Bs, 1, none⟩ (eU 0)).setCell ⟨Bs, 2, none⟩ (eU sg2)).setCell ⟨Bs, 3, none⟩ (eU h2)).setCell ⟨Bs, 4, none⟩ (eU l2)).heap.size := by
          simp only [World.setCell, Array.size_modify]
          exact Nat.le_trans hz3 T.size
        have R6 := hN.out _ J6 B6 M6 r6 z6
        clear B6 M6 r6 jp J6 z6 hN hLk
        gi_wp2
        go_roundw
        case rel => exact R6
        case measure => simp [intOf]; omega
      · gi_wp2
        refine bodyPost_ret (results_none rfl _ _ _) rfl ?_
        exact ⟨⟨_, rfl⟩, .inr ⟨_, trivial, hJx3⟩⟩
    · have hil : i = cs.length := by omega
      have i1 : ¬ (i : Int) < (ts.length : Int) + 1 := by omega
      have hcovL : Cov pre = 9223372036854775807 := by
        obtain ⟨q, rfl⟩ := hcs
        rw [hcov, hil]
        simp [frm]
      gi_wp2
      go_end0
      exact ⟨⟨_, rfl⟩, .inl ⟨pre, hcovL, hJp⟩⟩
end Go.Proofs.Ytjbpaapglamilaa

namespace Go.Proofs.Ytjbpaapglamilaa
open Go.RowKit Go.Shelf Go.Maps W
set_option linter.unusedVariables false
theorem cnt_sum (xs : List Cv) (t : Int) : sW (cnt xs) t = sW xs t := by
  induction xs with
  | nil => rfl
  | cons c cs ih =>
    unfold cnt at ih ⊢
    by_cases hb : cvB c = true
    · rw [List.filter_cons_of_pos hb]; simp only [sW, ih]
    · rw [List.filter_cons_of_neg hb]
      have : ¬ c.may := fun hm => hb (mayB_is.2 hm)
      simp only [sW, oneW, if_neg this, ih, Int.zero_add]
theorem bturn {X Y : World} {b B : Nat} {t : TypeId} {v : Value} {row : Option Nat} (h : Boxed X b t v) (hg : X.grownBy Y row) (hr : ∀ r, row = some r → B ≤ r) (hb : b < B) : Boxed Y b t v := h.kept hg (fun e => by have := hr b e.symm; omega)
set_option maxHeartbeats 1000000 in
theorem lateM_flat (fr tt sl h l rate : Int) (w : World) (hle : sl ≤ rate) :
    Calls Try.prog 60 #[.agg #[eU fr, eU tt, eU sl, eU h, eU l], eU rate] w fun e w' => e = .returned (.tuple #[eU 0, .bool false]) ∧ Below w.heap.size w w' := by
  have T : Below w.heap.size w (w.alloc (.cells #[eU fr, eU tt, eU sl, eU h, eU l] 98)) := up1 w _
  go_enter Try.func60, Try.ntmps60
  go_wp2
  go_ret2
  exact ⟨rfl, T⟩
set_option maxRecDepth 100000 in
set_option maxHeartbeats 4000000 in
theorem lateM_of (fr tt sl h l rate mh ml lh lo er q r ee d g t1 t2 : Int) (bb : Bool) (res : Int) (w : World) (hgt : ¬ sl ≤ rate) (hd : IntKind.u64.wrap (sl - rate) = d) (hg : IntKind.u64.wrap (tt - fr) = g) (ht1 : IntKind.u64.wrap (fr + q) = t1) (ht2 : IntKind.u64.wrap (t1 + 1) = t2)
    (hM : ∀ w, Calls Try.prog 72 #[eU rate, eU fr] w fun e w' => e = .returned (.agg #[eU mh, eU ml]) ∧ Below w.heap.size w w')
    (hP : ∀ w, Calls Try.prog 73 #[.agg #[eU mh, eU ml], .agg #[eU h, eU l]] w fun e w' => e = .returned (.tuple #[.agg #[eU lh, eU lo], .int .i64 er]) ∧ Below w.heap.size w w')
    (hD : ∀ w, Calls Try.prog 74 #[.agg #[eU lh, eU lo], eU d] w fun e w' => e = .returned (.tuple #[eU q, eU r, .int .i64 ee]) ∧ Below w.heap.size w w')
    (hR : Hid ((ee = 10 ∧ res = 0 ∧ bb = false) ∨ (ee = 0 ∧ g ≤ q ∧ res = 0 ∧ bb = false) ∨ (ee = 0 ∧ q < g ∧ res = t2 ∧ bb = true))) :
    Calls Try.prog 60 #[.agg #[eU fr, eU tt, eU sl, eU h, eU l], eU rate] w fun e w' => e = .returned (.tuple #[eU res, .bool bb]) ∧ Below w.heap.size w w' := by
  have HF : Fv (w.alloc (.cells #[eU fr, eU tt, eU sl, eU h, eU l] 98)) w.heap.size fr tt sl h l := Fv.of_box (Box.new w 98 _)
  have T : Below w.heap.size w (w.alloc (.cells #[eU fr, eU tt, eU sl, eU h, eU l] 98)) := up1 w _
  have hRes := hR
  clear hR
  go_enter Try.func60, Try.ntmps60
  go_upto_region 3 with (fail)
  obtain ⟨W0, hW0⟩ : ∃ W0, (w.alloc (.cells #[eU fr, eU tt, eU sl, eU h, eU l] 98)) = W0 := ⟨_, rfl⟩
  rw [hW0] at HF T ⊢
  clear hW0
  obtain ⟨pF, aF, bF, cF, dF1, eF⟩ := id HF
  go_cut [6, 7] from 8 (fun s6 s7 wx => ∃ M : Nat, s6 = .pointer (some ⟨M, 0, none⟩) ∧ s7 = .int .i64 er ∧ Has wx M lh lo ∧ Fv wx w.heap.size fr tt sl h l ∧ Below w.heap.size w wx)
  case first =>
    go_region_held3 (fun w' => w'.cell? ⟨w.heap.size, 0, none⟩ = some (.int .u64 fr) ∧ w'.cell? ⟨w.heap.size, 1, none⟩ = some (.int .u64 tt) ∧ w'.cell? ⟨w.heap.size, 2, none⟩ = some (.int .u64 sl) ∧ w'.cell? ⟨w.heap.size, 3, none⟩ = some (.int .u64 h) ∧ w'.cell? ⟨w.heap.size, 4, none⟩ = some (.int .u64 l))
      (first | exact HF.2 | exact (HF.alloc _).2 | exact ((HF.setNe (Nat.ne_of_lt hR) _).setNe (Nat.ne_of_lt hR) _).2 | go_keep)
      (first
        | (go_at_call 72; (with_reducible refine (hM _).mono ?_); rintro e w1 ⟨rfl, hb⟩; (first | replace hb := undrew hb | replace hb := undrewN hb | skip); (first | (have HN := (Own.new _ 0 0).below hb; have hN := T.size; have hR := HF.1; replace T := up (T.alloc T.size _) hb (T.alloc T.size _).size; replace HF := (HF.alloc _).below hb) | (replace HN := HN.below hb; replace T := up T hb T.size; replace HF := HF.below hb) | (replace T := up T hb T.size; replace HF := HF.below hb)); (try (obtain ⟨⟨xN, yN, zN⟩, fN, gN⟩ := id HN)); obtain ⟨pF, aF, bF, cF, dF1, eF⟩ := id HF; clear hb)
        | (go_at_call 73; (with_reducible refine (hP _).mono ?_); rintro e w3 ⟨rfl, hb⟩; (first | replace hb := undrew hb | replace hb := undrewN hb | skip); (first | (have HN := (Own.new _ 0 0).below hb; have hN := T.size; have hR := HF.1; replace T := up (T.alloc T.size _) hb (T.alloc T.size _).size; replace HF := (HF.alloc _).below hb) | (replace HN := HN.below hb; replace T := up T hb T.size; replace HF := HF.below hb) | (replace T := up T hb T.size; replace HF := HF.below hb)); (try (obtain ⟨⟨xN, yN, zN⟩, fN, gN⟩ := id HN)); obtain ⟨pF, aF, bF, cF, dF1, eF⟩ := id HF; clear hb))
    all_goals
      go_wp2_with fail
      go_meet
      first
        | exact ⟨_, rfl, rfl, Has.new _ _ _, HF.alloc _, T.alloc T.size _⟩
        | exact ⟨_, rfl, rfl, (HN.store lh lo).1, (HF.setNe (Nat.ne_of_lt hR) _).setNe (Nat.ne_of_lt hR) _, (T.setCell hN _).setCell hN _⟩
  case rest =>
    obtain ⟨M, rfl, rfl, HQ, HF2, T2⟩ := hcut
    obtain ⟨_, xQ, yQ⟩ := HQ
    clear hM hP HF T pF aF bF cF dF1 eF
    obtain ⟨pF, aF, bF, cF, dF1, eF⟩ := id HF2
    rcases hRes.out with ⟨rfl, rfl, rfl⟩ | ⟨rfl, hq, rfl, rfl⟩ | ⟨rfl, hq, rfl, rfl⟩
    · clear hRes
      go_wp2_with (go_at_call 74; (with_reducible refine (hD _).mono ?_); rintro e w5 ⟨rfl, hb5⟩; replace HF2 := HF2.below hb5; obtain ⟨pF, aF, bF, cF, dF1, eF⟩ := id HF2)
      go_ret2
      exact ⟨rfl, up T2 hb5 T2.size⟩
    · clear hRes
      go_wp2_with (go_at_call 74; (with_reducible refine (hD _).mono ?_); rintro e w5 ⟨rfl, hb5⟩; replace HF2 := HF2.below hb5; obtain ⟨pF, aF, bF, cF, dF1, eF⟩ := id HF2)
      go_ret2
      exact ⟨rfl, up T2 hb5 T2.size⟩
    · clear hRes
      have hq' : ¬ g ≤ q := by omega
      go_wp2_with (go_at_call 74; (with_reducible refine (hD _).mono ?_); rintro e w5 ⟨rfl, hb5⟩; replace HF2 := HF2.below hb5; obtain ⟨pF, aF, bF, cF, dF1, eF⟩ := id HF2)
      go_ret2
      exact ⟨rfl, up T2 hb5 T2.size⟩
end Go.Proofs.Ytjbpaapglamilaa

namespace Go.Proofs.Ytjbpaapglamilaa
open Go.RowKit Go.Shelf W
set_option linter.unusedVariables false
def laD (ys : List Cv) (rate F : Int) : Int := (rate * F - sW ys F) / (slF ys F - rate)
def laB (ys : List Cv) (rate F k : Int) : Bool := decide (¬ slF ys F ≤ rate ∧ laD ys rate F < k - F)
def laT (ys : List Cv) (rate F k : Int) : Int := if laB ys rate F k = true then F + laD ys rate F + 1 else 0
theorem div_lt_iff {a d x : Int} (hd : 0 < d) : a / d < x ↔ a < x * d := Int.ediv_lt_iff_lt_mul hd
/-- A tick of the stretch is late just if it is far enough. -/
theorem late_iff {ys : List Cv} (h : Good ys) {F k rate t : Int} (hF : 0 ≤ F) (hc : Clear ys F k) (h1 : F ≤ t) (h2 : t ≤ k) (hs : ¬ slF ys F ≤ rate) : lateAt ys rate t ↔ laD ys rate F < t - F := by
  unfold lateAt laD
  rw [sum_on h hF h1 h2 hc, div_lt_iff (by omega)]
  have e1 := Int.mul_sub (slF ys F) t F
  have e2 : (t - F) * (slF ys F - rate) = slF ys F * (t - F) - rate * (t - F) := by rw [Int.mul_comm, Int.sub_mul]
  have e3 := Int.mul_sub rate t F
  rw [e2]
  omega
theorem late_flat {ys : List Cv} (h : Good ys) {F k rate t : Int} (hF : 0 ≤ F) (hc : Clear ys F k) (h1 : F ≤ t) (h2 : t ≤ k) (hs : slF ys F ≤ rate) (hn : ¬ lateAt ys rate F) : ¬ lateAt ys rate t := by
  unfold lateAt at *
  rw [sum_on h hF h1 h2 hc]
  have e3 := Int.mul_sub rate t F
  have := Int.mul_le_mul_of_nonneg_right hs (show 0 ≤ t - F by omega)
  omega
theorem la_yes {ys : List Cv} (h : Good ys) {F k rate : Int} (hF : 0 ≤ F) (hc : Clear ys F k) (hn : ¬ lateAt ys rate F) (hb : laB ys rate F k = true) :
    F < laT ys rate F k ∧ laT ys rate F k ≤ k ∧ lateAt ys rate (laT ys rate F k) ∧ ∀ t, F ≤ t → t < laT ys rate F k → ¬ lateAt ys rate t := by
  have e : laT ys rate F k = F + laD ys rate F + 1 := if_pos hb
  obtain ⟨h1, h2⟩ := of_decide_eq_true hb
  have h0 : 0 ≤ laD ys rate F := Int.ediv_nonneg (by unfold lateAt at hn; omega) (by omega)
  rw [e]
  refine ⟨by omega, by omega, (late_iff h hF hc (by omega) (by omega) h1).2 (by omega), fun t t0 t1 hl => ?_⟩
  have := (late_iff h hF hc t0 (by omega) h1).1 hl
  omega
theorem la_no {ys : List Cv} (h : Good ys) {F k rate : Int} (hF : 0 ≤ F) (hc : Clear ys F k) (hn : ¬ lateAt ys rate F) (hb : laB ys rate F k = false) : ∀ t, F ≤ t → t ≤ k → ¬ lateAt ys rate t := by
  intro t t0 t1 hl
  have hb' := of_decide_eq_false hb
  by_cases h1 : slF ys F ≤ rate
  · exact late_flat h hF hc t0 t1 h1 hn hl
  · have := (late_iff h hF hc t0 t1 h1).1 hl
    exact hb' ⟨h1, by omega⟩
theorem late_sum {ys : List Cv} (h : Good ys) (hn : ys.length ≤ 1000) {F k rate : Int} (hF : 0 ≤ F) (hk : F < k) (hl : k ≤ 9223372036854775807) (hc : Clear ys F k) (hr : Word rate) (hnl : ¬ lateAt ys rate F) (w : World) :
    Calls Try.prog 60 #[strV ys F k, eU rate] w fun e w' => e = .returned (.tuple #[eU (laT ys rate F k), .bool (laB ys rate F k)]) ∧ Below w.heap.size w w' := by
  have hFw : Word F := ⟨hF, by omega⟩
  have hsl := slope_word h hn F
  by_cases hs : slF ys F ≤ rate
  · have hb : laB ys rate F k = false := decide_eq_false (fun h => h.1 hs)
    have ht : laT ys rate F k = 0 := by unfold laT; rw [hb]; rfl
    rw [hb, ht]
    exact lateM_flat F k (slF ys F) _ _ rate w hs
  · obtain ⟨a1, a2, a3⟩ := split_word (sum_lt h hn hFw)
    have b := sum_lt h hn hFw
    have hm := V_x rate F
    have h0 : 0 ≤ rate * F := Int.mul_nonneg hr.1 hF
    have h1 : rate * F < 340282366920938463463374607431768211456 := by
      have := Int.mul_le_mul (show rate ≤ 18446744073709551615 by unfold Word at hr; omega) (show F ≤ 18446744073709551615 by omega) hF (by omega)
      omega
    have hxw : Word (xH rate F) ∧ Word (xL rate F) := by unfold xH xL Word; omega
    have hle : sW ys F ≤ rate * F := by unfold lateAt at hnl; omega
    have hP := fun w => Minus_any (xH rate F) (xL rate F) (hiW (sW ys F)) (loW (sW ys F)) w hxw.1 hxw.2 a1 a2
    unfold mH mL mE at hP
    rw [hm, a3] at hP
    rw [if_pos hle, if_pos hle, if_pos hle] at hP
    have hdl : 0 ≤ rate * F - sW ys F ∧ rate * F - sW ys F < 340282366920938463463374607431768211456 := by omega
    obtain ⟨c1, c2, c3⟩ := split_word hdl
    have hdw : Word (slF ys F - rate) := by unfold Word at *; omega
    have hD := fun w => Div_any (hiW (rate * F - sW ys F)) (loW (rate * F - sW ys F)) (slF ys F - rate) w c1 c2 hdw
    have hq0 : 0 ≤ laD ys rate F := Int.ediv_nonneg (by omega) (by omega)
    have hgw : Word (k - F) := ⟨by omega, by omega⟩
    by_cases hfit : slF ys F - rate ≤ hiW (rate * F - sW ys F)
    · have he : dE (hiW (rate * F - sW ys F)) (slF ys F - rate) = 10 := by unfold dE; rw [if_neg (by omega), if_pos hfit]
      have hbig : ¬ laD ys rate F < k - F := by
        unfold laD
        rw [div_lt_iff (by omega)]
        intro hlt
        have h3 : (slF ys F - rate) * 18446744073709551616 ≤ rate * F - sW ys F := by
          have := Int.mul_le_mul_of_nonneg_right hfit (show (0 : Int) ≤ 18446744073709551616 by omega)
          have h5 : hiW (rate * F - sW ys F) * 18446744073709551616 ≤ rate * F - sW ys F := by unfold hiW; omega
          omega
        have h4 : (k - F) * (slF ys F - rate) ≤ 18446744073709551616 * (slF ys F - rate) := Int.mul_le_mul_of_nonneg_right (by omega) (by omega)
        have h6 := Int.mul_comm (slF ys F - rate) 18446744073709551616
        omega
      have hb : laB ys rate F k = false := decide_eq_false (fun h => hbig h.2)
      have ht : laT ys rate F k = 0 := by unfold laT; rw [hb]; rfl
      rw [hb, ht]
      rw [he] at hD
      exact lateM_of F k (slF ys F) _ _ rate _ _ _ _ _ _ _ 10 _ _ _ _ false 0 w hs rfl rfl rfl rfl (fun w => Mul_any _ _ w hr hFw) hP (by rw [wrapU hdw]; exact hD) (Lib.hid (.inl ⟨rfl, rfl, rfl⟩))
    · have he : dE (hiW (rate * F - sW ys F)) (slF ys F - rate) = 0 := by unfold dE; rw [if_neg (by omega), if_neg hfit]
      have hq : dQ (hiW (rate * F - sW ys F)) (loW (rate * F - sW ys F)) (slF ys F - rate) = laD ys rate F := by unfold dQ laD; rw [if_neg (by omega), if_neg hfit, c3]
      rw [he, hq] at hD
      by_cases hlt : laD ys rate F < k - F
      · have hb : laB ys rate F k = true := decide_eq_true ⟨hs, hlt⟩
        have ht : laT ys rate F k = F + laD ys rate F + 1 := by unfold laT; rw [if_pos hb]
        rw [hb, ht]
        exact lateM_of F k (slF ys F) _ _ rate _ _ _ _ _ _ _ 0 _ (k - F) (F + laD ys rate F) (F + laD ys rate F + 1) true _ w hs rfl (wrapU hgw) (wrapU ⟨by omega, by omega⟩) (wrapU ⟨by omega, by omega⟩) (fun w => Mul_any _ _ w hr hFw) hP (by rw [wrapU hdw]; exact hD) (Lib.hid (.inr (.inr ⟨rfl, hlt, rfl, rfl⟩)))
      · have hb : laB ys rate F k = false := decide_eq_false (fun h => hlt h.2)
        have ht : laT ys rate F k = 0 := by unfold laT; rw [hb]; rfl
        rw [hb, ht]
        exact lateM_of F k (slF ys F) _ _ rate _ _ _ _ _ _ _ 0 _ (k - F) _ _ false 0 w hs rfl (wrapU hgw) rfl rfl (fun w => Mul_any _ _ w hr hFw) hP (by rw [wrapU hdw]; exact hD) (Lib.hid (.inr (.inl ⟨rfl, by omega, rfl, rfl⟩)))
end Go.Proofs.Ytjbpaapglamilaa

namespace Go.Proofs.Ytjbpaapglamilaa
open Go.RowKit Go.Shelf Go.Maps W
set_option linter.unusedVariables false
attribute [local go_sem] Oper.semAt_some
def LtI (w : World) (xs : List Cv) (rate : Int) (pre : List (Int × Int)) (W : World) : Prop :=
  ((∀ t, 0 ≤ t → t ≤ Cov pre → ¬ lateAt xs rate t) ∧ Boxed W w.heap.size 22 (eU rate) ∧ Boxed W (w.heap.size + 1) 22 (eU 0)) ∧ Below w.heap.size w W
def LtX (w : World) (xs : List Cv) (rate : Int) (c : Code) (pre : List (Int × Int)) (W : World) : Prop :=
  c = .ret ∧ ∃ t, IsLate xs rate t ∧ Boxed W (w.heap.size + 1) 22 (eU t) ∧ Below w.heap.size w W
theorem LtI.own (w : World) (xs : List Cv) (rate : Int) : AbidesAll (w.heap.size + 3) (LtI w xs rate) := by
  rintro s X Y row ⟨⟨h1, h3, h4⟩, h6⟩ hg hr
  exact ⟨⟨h1, bturn h3 hg hr (by omega), bturn h4 hg hr (by omega)⟩, h6.grown hg h6.size (fun k e => by have := hr k e; omega)⟩
theorem LtX.own (w : World) (xs : List Cv) (rate : Int) (c : Code) : AbidesAll (w.heap.size + 3) (LtX w xs rate c) := by
  rintro s X Y row ⟨h1, t, h2, h4, h6⟩ hg hr
  exact ⟨h1, t, h2, bturn h4 hg hr (by omega), h6.grown hg h6.size (fun k e => by have := hr k e; omega)⟩
set_option maxRecDepth 100000 in
set_option maxHeartbeats 4000000 in
theorem lateP_of (m : Nat) (hsort : SortU m) (xs : List CW) (hxl : xs.length ≤ 400) (hxm : xs.length + 1 ≤ m) (rate : Int) (hr : Word rate) (a : Option Addr) (k c : Nat) (w : World) (h : IsCvs w a k c (unW xs)) :
    Calls Try.prog 52 #[.slice a k c, eU rate] w fun e w' => (∃ t, IsLate (unW xs) rate t ∧ e = .returned (eU t)) ∧ Below w.heap.size w w' := by
  have hg : Good (unW (cntW xs)) := by rw [unW_cnt]; exact good_cnt (unW_words xs)
  have hyl : (unW (cntW xs)).length ≤ xs.length := by unfold unW; rw [List.length_map]; exact List.length_filter_le _ _
  have hyn : (unW (cntW xs)).length ≤ 1000 := by omega
  refine (callsIn_wide (n := 12)).1 ?_
  refine callsIn_of_wp_marks Try.func52 rfl trivial ?_ rfl
  simp only [Try.ntmps52, List.size_toArray, List.length_cons, List.length_nil, Nat.reduceAdd, Nat.reduceSub, Array.replicate_succ, Array.replicate_zero, List.push_toArray, List.append_toArray, List.nil_append, List.cons_append]
  gi_wp2_with (refine ⟨trivial, ?_⟩; gi_at_call 59; (refine (callsIn_wide.2 (stretches_any _ _ _ _)).mono ?_); rintro e w' ⟨rfl, rfl⟩)
  have b1 := Boxed.new w 22 (eU rate)
  have b2 := Boxed.new (w.alloc (.cells #[eU rate] 22)) 22 (eU 0)
  have b5 := Boxed.new ((w.alloc (.cells #[eU rate] 22)).alloc (.cells #[eU 0] 22)) 23 (.slice a k c)
  replace b1 := (b1.alloc (.cells #[eU 0] 22)).alloc (.cells #[.slice a k c] 23)
  replace b2 := b2.alloc (.cells #[.slice a k c] 23)
  simp only [World.size_alloc] at b1 b2 b5
  have hB0 : Below w.heap.size w (((w.alloc (.cells #[eU rate] 22)).alloc (.cells #[eU 0] 22)).alloc (.cells #[.slice a k c] 23)) := (((Below.refl _ w).alloc (Nat.le_refl _) _).alloc (by simp) _).alloc (by simp; omega) _
  have hsz : (((w.alloc (.cells #[eU rate] 22)).alloc (.cells #[eU 0] 22)).alloc (.cells #[.slice a k c] 23)).heap.size = w.heap.size + 3 := by simp
  obtain ⟨W0, hW0⟩ : ∃ W0, (((w.alloc (.cells #[eU rate] 22)).alloc (.cells #[eU 0] 22)).alloc (.cells #[.slice a k c] 23)) = W0 := ⟨_, rfl⟩
  rw [hW0] at b1 b2 b5 hB0 hsz ⊢
  clear hW0
  have hseq := stretches_go m hsort 11 (by omega) xs hxl hxm a k c (w.heap.size + 1 + 1) w.heap.size w W0 h hB0 (by omega) b5.cell
  have hys : sW (unW (cntW xs)) = sW (unW xs) := funext fun t => by rw [unW_cnt, cnt_sum]
  have hysh := Lib.hid hys
  clear hys
  generalize unW (cntW xs) = ys at *
  have hla : Hid (∀ rate t, lateAt ys rate t ↔ lateAt (unW xs) rate t) := Lib.hid fun rate t => by unfold lateAt; rw [hysh.out]
  have hz0 : ∀ t, 0 ≤ t → t ≤ Cov [] → ¬ lateAt (unW xs) rate t := fun t h0 h1 => by
    have : t = 0 := by simp [Cov] at h1; omega
    subst this; exact not_late_zero (unW_words xs) rate
  refine loopC (by omega) (gf := 67) (lb := #[.pointer (some ⟨w.heap.size + 1 + 1, 0, none⟩)]) rfl (enters_of Try.func67 (by kernel_rfl) rfl) (n₀ := w.heap.size) (by omega) hseq (fun _ => rfl)
    (LtI w (unW xs) rate) (LtX w (unW xs) rate) (by rw [hsz]; exact LtI.own w _ rate) (fun c => by rw [hsz]; exact LtX.own w _ rate c)
    ⟨⟨hz0, b1, b2⟩, hB0⟩
    (fun x a' W => ∃ Bx, w.heap.size + 3 ≤ Bx ∧ Box W Bx #[eU x.1, eU x.2, eU (slF ys x.1), eU (hiW (sW ys x.1)), eU (loW (sW ys x.1))] 98 ∧ a' = { tmps := #[.slice a k c, eU rate, undef, .pointer (some ⟨w.heap.size, 0, none⟩), .pointer (some ⟨w.heap.size + 1, 0, none⟩), .pointer (some ⟨Bx, 0, none⟩), undef, undef, .slice a k c, .func (.func 67) #[] #[.pointer (some ⟨w.heap.size + 1 + 1, 0, none⟩)], strV ys x.1 x.2, undef, undef, undef, undef, undef, undef, undef, undef], defers := [] })
    (fun x a' _ X Y row hs hg hr => by obtain ⟨Bx, h1, h2, h3⟩ := hs; exact ⟨Bx, h1, box_own Bx 98 _ () X Y row h2 hg (fun r e => (hr r e).2), h3⟩)
    ?assign ?body ?done ?stop
  case assign =>
    rintro l0 pre x W K hzW ⟨⟨h1, h3, h4⟩, h6⟩ hK
    unfold strV
    gi_wp2
    exact hK _ _ (Mid.alloc W h6.size _) ⟨⟨h1, h3.alloc _, h4.alloc _⟩, h6.alloc h6.size _⟩ ⟨W.heap.size, by omega, Box.new W 98 _, rfl⟩
  case stop =>
    rintro D c pre W hD _ ⟨rfl, t, hL, h4, h6⟩ hK
    have hp4 : Boxed (W.putObj D (.deferred none)) (w.heap.size + 1) 22 (eU t) := (World.putObj_heap_other (by omega)).trans h4
    have c4 := hp4.cell
    have hbl : Below w.heap.size w (W.putObj D (.deferred none)) := h6.trans (belowK_b (w := w) (Nat.le_refl _) W D _ _ (by omega) hK rfl rfl)
    clear h4 hseq b1 b2 b5 hz0
    gi_wp2
    refine ⟨by simp, .inl ⟨_, _, rfl, run_takeDeferred hK, ?_⟩⟩
    exact ⟨eU t, by simp [results, Try.results52, go_sem, c4], ⟨t, hL, rfl⟩, hbl⟩
  case done =>
    rintro D zs W hD hcov ⟨⟨h1, h3, h4⟩, h6⟩ hK
    rw [hcov] at h1
    have hL : IsLate (unW xs) rate 9223372036854775808 := .inl ⟨rfl, fun t t0 t1 => h1 t t0 (by omega)⟩
    have c4 := h4.cell
    have f4 := h4.frozen
    have hKf : (W.setCell ⟨w.heap.size + 1, 0, none⟩ (eU 9223372036854775808)).heap[D]? = some (.deferred (some [])) :=
      (Below.heap_setCell _ _ _ D (by show D ≠ w.heap.size + 1; omega)).trans hK
    have g4 : Boxed (W.setCell ⟨w.heap.size + 1, 0, none⟩ (eU 9223372036854775808)) (w.heap.size + 1) 22 (eU 9223372036854775808) := h4.set _
    have hb2 : Below w.heap.size w (W.setCell ⟨w.heap.size + 1, 0, none⟩ (eU 9223372036854775808)) := h6.setCell (p := ⟨w.heap.size + 1, 0, none⟩) (by simp) _
    have hDn : D ≠ w.heap.size + 1 ∧ w.heap.size ≤ D := by omega
    clear hseq b1 b2 b5 hcov h4 h3 h1 hz0
    gi_wp2
    generalize (W.setCell ⟨w.heap.size + 1, 0, none⟩ (eU 9223372036854775808)) = X at *
    have hp4 : Boxed (X.putObj D (.deferred none)) (w.heap.size + 1) 22 (eU 9223372036854775808) := (World.putObj_heap_other (Ne.symm hDn.1)).trans g4
    have k4 := hp4.cell
    refine ⟨by simp, .inl ⟨_, _, rfl, run_takeDeferred hKf, ?_⟩⟩
    exact ⟨eU 9223372036854775808, by simp [results, Try.results52, go_sem, k4], ⟨_, hL, rfl⟩, hb2.trans (belowK_b (w := w) (Nat.le_refl _) X D _ _ hDn.2 hKf rfl rfl)⟩
  case body =>
    rintro l0 pre ⟨F, kx⟩ a' W hzW ⟨⟨h1, h3, h4⟩, h6⟩ ⟨Bx, hBx, bX, rfl⟩ ⟨hcov, hF0, hFk, hkl, hclr⟩
    dsimp only at bX hcov hF0 hFk hkl hclr
    rw [← hcov] at h1
    have hnF : ¬ lateAt ys rate F := fun hl => h1 F hF0 (Int.le_refl _) ((hla.out _ _).1 hl)
    have cS := fun w => late_sum hg hyn hF0 hFk hkl hclr hr hnF w
    have eC : Cov (pre ++ [(F, kx)]) = kx := Cov_snoc _ _
    unfold strV at cS
    obtain ⟨p0, p1, p2, p3, p4, p5⟩ := Fv.of_box bX
    have cR := h3.cell
    have hzr := h3.lt
    cases hb : laB ys rate F kx with
    | false =>
      have hno := la_no hg hF0 hclr hnF hb
      have ht : laT ys rate F kx = 0 := by unfold laT; rw [hb]; rfl
      rw [hb, ht] at cS
      have fin : ∀ (w3 : World), Below W.heap.size W w3 → Mid w.heap.size W0.heap.size W w3 ∧ LtI w (unW xs) rate (pre ++ [(F, kx)]) w3 := fun w3 hb3 => by
        refine ⟨Mid.of_below hb3 h6.size, ⟨fun t t0 t1 => ?_, Boxed.below h3 hb3, Boxed.below h4 hb3⟩, h6.trans (hb3.mono h6.size)⟩
        rw [eC] at t1
        by_cases htF : t ≤ F
        · exact h1 t t0 htF
        · exact fun hl => hno t (by omega) t1 ((hla.out _ _).2 hl)
      have hfin := Lib.hid fin
      generalize slF ys F = sg at cS bX p3
      generalize hiW (sW ys F) = h0' at cS bX p4
      generalize loW (sW ys F) = l0' at cS bX p5
      clear fin eC hla hysh hcov hF0 hFk hkl h1 hno hb ht hnF hclr hz0
      gi_wp2_with (refine ⟨trivial, ?_⟩; gi_at_call 60; (refine (CallsIn.inRound l0 (callsIn_wide.2 (cS _))).mono ?_); rintro e w3 ⟨rfl, hb3⟩)
      exact hfin.out w3 hb3
    | true =>
      obtain ⟨y1, y2, y3, y4⟩ := la_yes hg hF0 hclr hnF hb
      rw [hb] at cS
      generalize laT ys rate F kx = tl at cS y1 y2 y3 y4
      have hL : IsLate (unW xs) rate tl := .inr ⟨by omega, by omega, (hla.out _ _).1 y3, fun t t0 t1 => by
        by_cases htF : t ≤ F
        · exact h1 t t0 htF
        · exact fun hl => y4 t (by omega) t1 ((hla.out _ _).2 hl)⟩
      have fin : ∀ (w3 : World), Below W.heap.size W w3 → Mid w.heap.size W0.heap.size W (w3.setCell ⟨w.heap.size + 1, 0, none⟩ (eU tl)) ∧ LtX w (unW xs) rate .ret (pre ++ [(F, kx)]) (w3.setCell ⟨w.heap.size + 1, 0, none⟩ (eU tl)) := fun w3 hb3 => by
        have q4 := Boxed.below h4 hb3
        exact ⟨(Mid.of_below hb3 h6.size).trans (Mid.put w3 (by omega) (by omega) 0 _), rfl, tl, hL, q4.set _, (h6.trans (hb3.mono h6.size)).setCell (p := ⟨w.heap.size + 1, 0, none⟩) (by simp) _⟩
      have hfin := Lib.hid fin
      generalize slF ys F = sg at cS bX p3
      generalize hiW (sW ys F) = h0' at cS bX p4
      generalize loW (sW ys F) = l0' at cS bX p5
      clear fin eC hla hysh hcov hF0 hFk hkl h1 hb hnF hclr hz0 y1 y2 y3 y4 hL
      gi_wp2_with (refine ⟨trivial, ?_⟩; gi_at_call 60; (refine (CallsIn.inRound l0 (callsIn_wide.2 (cS _))).mono ?_); rintro e w3 ⟨rfl, hb3⟩; have c4 := (Boxed.below h4 hb3).cell; have f4 := (Boxed.below h4 hb3).frozen)
      exact hfin.out w3 hb3
theorem lateP_any (m : Nat) (hsort : SortU m) (xs : List Cv) (hx : ∀ c ∈ xs, c.word) (hxl : xs.length ≤ 400) (hxm : xs.length + 1 ≤ m) (rate n : Int) (hr : Word rate) (a : Option Addr) (k c : Nat) (w : World) (h : IsCvs w a k c xs) (hn : IsLate xs rate n) :
    Calls Try.prog 52 #[.slice a k c, eU rate] w fun e w' => e = .returned (eU n) ∧ Below w.heap.size w w' := by
  obtain ⟨ys, rfl⟩ := unW_ex hx
  refine (lateP_of m hsort ys (by simpa [unW] using hxl) (by simpa [unW] using hxm) rate hr a k c w h).mono ?_
  rintro e w' ⟨⟨t, ht, rfl⟩, hb⟩
  rw [ht.unique hn]; exact ⟨rfl, hb⟩
set_option maxHeartbeats 1000000 in
theorem keptP_any (m : Nat) (hsort : SortU m) (xs : List Cv) (hx : ∀ c ∈ xs, c.word) (hxl : xs.length ≤ 400) (hxm : xs.length + 1 ≤ m) (rate : Int) (bb : Bool) (hr : Word rate) (a : Option Addr) (k c : Nat) (w : World) (h : IsCvs w a k c xs) (hb : bb = true ↔ kept xs rate) :
    Calls Try.prog 45 #[.slice a k c, eU rate] w fun e w' => e = .returned (.bool bb) ∧ Below w.heap.size w w' := by
  obtain ⟨n, hn⟩ := late_ex xs rate
  have cL := lateP_any m hsort xs hx hxl hxm rate n hr a k c w h hn
  have hki := kept_iff hn
  have hbb : (n == 9223372036854775808) = bb := by
    by_cases e : n = 9223372036854775808
    · have : bb = true := hb.2 (hki.2 e)
      rw [this]; simpa using e
    · have : ¬ bb = true := fun h => e (hki.1 (hb.1 h))
      have h2 : bb = false := by simpa using this
      rw [h2]; simpa using e
  clear hki hb hn
  go_enter Try.func45, Try.ntmps45
  go_wp2_with (go_at_call 52; (with_reducible refine cL.mono ?_); rintro e w1 ⟨rfl, hb1⟩)
  go_ret
  exact ⟨by rw [← hbb]; first | rfl | simp, hb1⟩
end Go.Proofs.Ytjbpaapglamilaa
