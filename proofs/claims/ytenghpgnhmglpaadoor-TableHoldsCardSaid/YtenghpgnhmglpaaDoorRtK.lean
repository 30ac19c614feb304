/- TableHolds' walk. No condition but words. -/
import Derived.Test.YtenghpgnhmglpaaDoorRtL
import Derived.LoopIn
namespace Go.Proofs.YtenghpgnhmglpaaDoor
open Go.RowKit Go.Shelf
set_option linter.unusedVariables false
set_option linter.unusedSimpArgs false
attribute [local go_sem] Oper.semAt_some
theorem more_at {L : List Im} (hg : Good L) {k : Nat} {z : Im} (h : L[k]? = some z) : getI z.id (oneMore L) = some (IntKind.u64.wrap (z.v + 1)) ∧ hasI z.id (oneMore L) = true := by
  have hm : (⟨z.id, IntKind.u64.wrap (z.v + 1)⟩ : Im) ∈ oneMore L := by
    unfold oneMore
    exact List.mem_map.2 ⟨z, List.mem_of_getElem? h, rfl⟩
  have hr : Rise (oneMore L) := by
    unfold Rise oneMore
    rw [List.pairwise_map]
    exact hg.rise
  exact ⟨get_mem hr hm, hasI_iff.2 ⟨_, hm, rfl⟩⟩
set_option maxRecDepth 100000 in
set_option maxHeartbeats 12000000 in
theorem holds_ok (a : Option Addr) (n c : Nat) (xs : Nat → Ac) (at_ : Int) (w : World) (ht : Tab w) (hn : n ≤ 120) (hI : IsRow acC 4 w a n c xs) (hw : ∀ i, (xs i).ok) (ha : Inte at_) :
    Calls Tryd.prog 3 #[.slice a n c, eI at_] w fun e w' => e = .returned (.bool true) ∧ Below w.heap.size w w' := by
  have i1 : ¬ (120 : Int) < (n : Int) := by omega
  have br := Box.new w 4 #[.bool false]
  have T1 := up1 w (.cells #[.bool false] 4)
  have hz1 : (w.alloc (.cells #[.bool false] 4)).heap.size = w.heap.size + 1 := by simp
  obtain ⟨w1, hw1⟩ : ∃ X, w.alloc (.cells #[.bool false] 4) = X := ⟨_, rfl⟩
  rw [hw1] at br T1 hz1
  have hN := own1_new tbLaws w1 (ht.below T1)
  refine (callsIn_wide (n := 14)).1 ?_
  refine callsIn_of_wp_marks Tryd.func3 rfl trivial ?_ rfl
  simp only [Tryd.ntmps3, List.size_toArray, List.length_cons, List.length_nil, Nat.reduceAdd, Nat.reduceSub, Array.replicate_succ, Array.replicate_zero, List.push_toArray, List.append_toArray, List.nil_append, List.cons_append]
  gi_wp2_with (first
    | (refine ⟨trivial, ?_⟩; gi_at_call 9; (with_reducible refine (callsIn_wide.2 hN).mono ?_); rintro e w2 ⟨B, rfl, H2⟩))
  have k0 : Col (fun _ => 0) (fun _ => 0) 5 w1 w1 := Col.of (Below.refl _ _)
  have hR0 : Lp w1 (w2.alloc (.cells #[.slice none 0 0] 29)) B w2.heap.size (rowA xs 0) none := by
    obtain ⟨χ, h1, h2⟩ := H2
    have k : Col χ (recol χ w2.heap.size 2) 2 w2 (w2.alloc (.cells #[.slice none 0 0] 29)) := Col.new (up1 w2 _) 2
    exact ⟨recol χ w2.heap.size 2, ⟨h1.next k (by decide), h2.other k (by decide) (by decide), rtc_new w2 χ 2, Good.nil⟩, fun D e => by cases e⟩
  have hR2 : w1.heap.size ≤ w2.heap.size := H2.world.size
  generalize w2.heap.size = R at *
  generalize w2.alloc (.cells #[.slice none 0 0] 29) = w3 at *
  have hcell : ∀ (k : Nat) w', k < n → Below w1.heap.size w1 w' → ∃ b o, a = some ⟨b, o, none⟩ ∧ w'.cell? ⟨b, o + k * 4, none⟩ = some (.int .u8 (xs k).kd) ∧ w'.cell? ⟨b, o + k * 4 + 1, none⟩ = some (.int .i64 (xs k).id) ∧ w'.cell? ⟨b, o + k * 4 + 2, none⟩ = some (.int .u64 (xs k).v) ∧ w'.cell? ⟨b, o + k * 4 + 3, none⟩ = some (.int .i64 (xs k).ask) := fun k w' hk T => by
    obtain ⟨b, o, e, _, h⟩ := row_at hI k hk
    have hu := ups T1 T T1.size
    exact ⟨b, o, e, h w' hu 0 _ rfl, h w' hu 1 _ rfl, h w' hu 2 _ rfl, h w' hu 3 _ rfl⟩
  have hnc : (n : Int) ≤ (c : Int) := by have := hI.1; omega
  have hce := Lib.hid hcell
  have hok := Lib.hid hw
  clear hcell hw hI hN H2 k0 i1 ht hw1
  gi_wp2
  refine wpIn_loop (fun a' w' => ∃ (k : Nat) (od : Option Nat), ∃ u8 u9 u10 u11 u12 u13 u14 u15 u16 u17 u26 u27 u28 u29 u30 u31 u32 u33 u34 u35 u36 u37 u38 u39 u40 u41 u42 u43 u44 u45 u46 u47 u48 u49 u50 u51 u52 u53 u54 u55 u56 u57 u58 u59 u60 u61 u62 u63 u64 u65 u66 u67 u68 u69 u70 u71 u72 u73 u74 u75 u76 u77 u78 u79 u80 u81 u82 u83 u84 u85 u86 u87 u88 u89 u90 u91 u92 u93 u94 u95 u96 u97 u98 u99 u100 u101 u102 u103 u104 u105 u106 u107 u108 u109 u110 u111 u112 u113 u114 u115 u116 u117 u118 u119 u120 u121 u122 u123 u124 u125 u126 u127 u128 u129 u130 u131 u132 u133 u134 u135 u136 u137 u138 u139 u140 u141 u142 u143 u144 u145 u146 u147 u148 u149 u150 u151 u152 u153 u154 u155 u156 u157 u158 u159 u160 u161 u162 u163 : Value, (k ≤ n ∧ Lp w1 w' B R (rowA xs k) od ∧ (od ≠ none → at_ < (k : Int))) ∧ a' = { tmps := #[.slice a n c, eI at_, undef, undef, .pointer (some ⟨w.heap.size, 0, none⟩), .pointer (some ⟨B, 0, none⟩), .pointer (some ⟨R, 0, none⟩), .int .i64 (k : Int), u8, u9, u10, u11, u12, u13, u14, u15, u16, u17, .slice a n c, .int .i64 (n : Int), .bool false, .pointer (some ⟨B, 0, none⟩), .agg #[.slice none 0 0], .pointer (some ⟨R, 0, none⟩), .pointer (some ⟨B, 0, none⟩), .bool false, u26, u27, u28, u29, u30, u31, u32, u33, u34, u35, u36, u37, u38, u39, u40, u41, u42, u43, u44, u45, u46, u47, u48, u49, u50, u51, u52, u53, u54, u55, u56, u57, u58, u59, u60, u61, u62, u63, u64, u65, u66, u67, u68, u69, u70, u71, u72, u73, u74, u75, u76, u77, u78, u79, u80, u81, u82, u83, u84, u85, u86, u87, u88, u89, u90, u91, u92, u93, u94, u95, u96, u97, u98, u99, u100, u101, u102, u103, u104, u105, u106, u107, u108, u109, u110, u111, u112, u113, u114, u115, u116, u117, u118, u119, u120, u121, u122, u123, u124, u125, u126, u127, u128, u129, u130, u131, u132, u133, u134, u135, u136, u137, u138, u139, u140, u141, u142, u143, u144, u145, u146, u147, u148, u149, u150, u151, u152, u153, u154, u155, u156, u157, u158, u159, u160, u161, u162, u163], defers := dsOf od }) (fun a' _ => n - (intOf (Array.getD (Act.tmps a') 7 undef)).toNat) ?_ ?_
  · refine ⟨0, none, ?_⟩
    (repeat apply Exists.intro)
    exact ⟨⟨Nat.zero_le _, hR0, fun e => absurd rfl e⟩, rfl⟩
  clear hR0
  intro a' wr hinv
  obtain ⟨k, od, hinv⟩ := hinv
  obtain ⟨u8, hinv⟩ := hinv
  obtain ⟨u9, hinv⟩ := hinv
  obtain ⟨u10, hinv⟩ := hinv
  obtain ⟨u11, hinv⟩ := hinv
  obtain ⟨u12, hinv⟩ := hinv
  obtain ⟨u13, hinv⟩ := hinv
  obtain ⟨u14, hinv⟩ := hinv
  obtain ⟨u15, hinv⟩ := hinv
  obtain ⟨u16, hinv⟩ := hinv
  obtain ⟨u17, hinv⟩ := hinv
  obtain ⟨u26, hinv⟩ := hinv
  obtain ⟨u27, hinv⟩ := hinv
  obtain ⟨u28, hinv⟩ := hinv
  obtain ⟨u29, hinv⟩ := hinv
  obtain ⟨u30, hinv⟩ := hinv
  obtain ⟨u31, hinv⟩ := hinv
  obtain ⟨u32, hinv⟩ := hinv
  obtain ⟨u33, hinv⟩ := hinv
  obtain ⟨u34, hinv⟩ := hinv
  obtain ⟨u35, hinv⟩ := hinv
  obtain ⟨u36, hinv⟩ := hinv
  obtain ⟨u37, hinv⟩ := hinv
  obtain ⟨u38, hinv⟩ := hinv
  obtain ⟨u39, hinv⟩ := hinv
  obtain ⟨u40, hinv⟩ := hinv
  obtain ⟨u41, hinv⟩ := hinv
  obtain ⟨u42, hinv⟩ := hinv
  obtain ⟨u43, hinv⟩ := hinv
  obtain ⟨u44, hinv⟩ := hinv
  obtain ⟨u45, hinv⟩ := hinv
  obtain ⟨u46, hinv⟩ := hinv
  obtain ⟨u47, hinv⟩ := hinv
  obtain ⟨u48, hinv⟩ := hinv
  obtain ⟨u49, hinv⟩ := hinv
  obtain ⟨u50, hinv⟩ := hinv
  obtain ⟨u51, hinv⟩ := hinv
  obtain ⟨u52, hinv⟩ := hinv
  obtain ⟨u53, hinv⟩ := hinv
  obtain ⟨u54, hinv⟩ := hinv
  obtain ⟨u55, hinv⟩ := hinv
  obtain ⟨u56, hinv⟩ := hinv
  obtain ⟨u57, hinv⟩ := hinv
  obtain ⟨u58, hinv⟩ := hinv
  obtain ⟨u59, hinv⟩ := hinv
  obtain ⟨u60, hinv⟩ := hinv
  obtain ⟨u61, hinv⟩ := hinv
  obtain ⟨u62, hinv⟩ := hinv
  obtain ⟨u63, hinv⟩ := hinv
  obtain ⟨u64, hinv⟩ := hinv
  obtain ⟨u65, hinv⟩ := hinv
  obtain ⟨u66, hinv⟩ := hinv
  obtain ⟨u67, hinv⟩ := hinv
  obtain ⟨u68, hinv⟩ := hinv
  obtain ⟨u69, hinv⟩ := hinv
  obtain ⟨u70, hinv⟩ := hinv
  obtain ⟨u71, hinv⟩ := hinv
  obtain ⟨u72, hinv⟩ := hinv
  obtain ⟨u73, hinv⟩ := hinv
  obtain ⟨u74, hinv⟩ := hinv
  obtain ⟨u75, hinv⟩ := hinv
  obtain ⟨u76, hinv⟩ := hinv
  obtain ⟨u77, hinv⟩ := hinv
  obtain ⟨u78, hinv⟩ := hinv
  obtain ⟨u79, hinv⟩ := hinv
  obtain ⟨u80, hinv⟩ := hinv
  obtain ⟨u81, hinv⟩ := hinv
  obtain ⟨u82, hinv⟩ := hinv
  obtain ⟨u83, hinv⟩ := hinv
  obtain ⟨u84, hinv⟩ := hinv
  obtain ⟨u85, hinv⟩ := hinv
  obtain ⟨u86, hinv⟩ := hinv
  obtain ⟨u87, hinv⟩ := hinv
  obtain ⟨u88, hinv⟩ := hinv
  obtain ⟨u89, hinv⟩ := hinv
  obtain ⟨u90, hinv⟩ := hinv
  obtain ⟨u91, hinv⟩ := hinv
  obtain ⟨u92, hinv⟩ := hinv
  obtain ⟨u93, hinv⟩ := hinv
  obtain ⟨u94, hinv⟩ := hinv
  obtain ⟨u95, hinv⟩ := hinv
  obtain ⟨u96, hinv⟩ := hinv
  obtain ⟨u97, hinv⟩ := hinv
  obtain ⟨u98, hinv⟩ := hinv
  obtain ⟨u99, hinv⟩ := hinv
  obtain ⟨u100, hinv⟩ := hinv
  obtain ⟨u101, hinv⟩ := hinv
  obtain ⟨u102, hinv⟩ := hinv
  obtain ⟨u103, hinv⟩ := hinv
  obtain ⟨u104, hinv⟩ := hinv
  obtain ⟨u105, hinv⟩ := hinv
  obtain ⟨u106, hinv⟩ := hinv
  obtain ⟨u107, hinv⟩ := hinv
  obtain ⟨u108, hinv⟩ := hinv
  obtain ⟨u109, hinv⟩ := hinv
  obtain ⟨u110, hinv⟩ := hinv
  obtain ⟨u111, hinv⟩ := hinv
  obtain ⟨u112, hinv⟩ := hinv
  obtain ⟨u113, hinv⟩ := hinv
  obtain ⟨u114, hinv⟩ := hinv
  obtain ⟨u115, hinv⟩ := hinv
  obtain ⟨u116, hinv⟩ := hinv
  obtain ⟨u117, hinv⟩ := hinv
  obtain ⟨u118, hinv⟩ := hinv
  obtain ⟨u119, hinv⟩ := hinv
  obtain ⟨u120, hinv⟩ := hinv
  obtain ⟨u121, hinv⟩ := hinv
  obtain ⟨u122, hinv⟩ := hinv
  obtain ⟨u123, hinv⟩ := hinv
  obtain ⟨u124, hinv⟩ := hinv
  obtain ⟨u125, hinv⟩ := hinv
  obtain ⟨u126, hinv⟩ := hinv
  obtain ⟨u127, hinv⟩ := hinv
  obtain ⟨u128, hinv⟩ := hinv
  obtain ⟨u129, hinv⟩ := hinv
  obtain ⟨u130, hinv⟩ := hinv
  obtain ⟨u131, hinv⟩ := hinv
  obtain ⟨u132, hinv⟩ := hinv
  obtain ⟨u133, hinv⟩ := hinv
  obtain ⟨u134, hinv⟩ := hinv
  obtain ⟨u135, hinv⟩ := hinv
  obtain ⟨u136, hinv⟩ := hinv
  obtain ⟨u137, hinv⟩ := hinv
  obtain ⟨u138, hinv⟩ := hinv
  obtain ⟨u139, hinv⟩ := hinv
  obtain ⟨u140, hinv⟩ := hinv
  obtain ⟨u141, hinv⟩ := hinv
  obtain ⟨u142, hinv⟩ := hinv
  obtain ⟨u143, hinv⟩ := hinv
  obtain ⟨u144, hinv⟩ := hinv
  obtain ⟨u145, hinv⟩ := hinv
  obtain ⟨u146, hinv⟩ := hinv
  obtain ⟨u147, hinv⟩ := hinv
  obtain ⟨u148, hinv⟩ := hinv
  obtain ⟨u149, hinv⟩ := hinv
  obtain ⟨u150, hinv⟩ := hinv
  obtain ⟨u151, hinv⟩ := hinv
  obtain ⟨u152, hinv⟩ := hinv
  obtain ⟨u153, hinv⟩ := hinv
  obtain ⟨u154, hinv⟩ := hinv
  obtain ⟨u155, hinv⟩ := hinv
  obtain ⟨u156, hinv⟩ := hinv
  obtain ⟨u157, hinv⟩ := hinv
  obtain ⟨u158, hinv⟩ := hinv
  obtain ⟨u159, hinv⟩ := hinv
  obtain ⟨u160, hinv⟩ := hinv
  obtain ⟨u161, hinv⟩ := hinv
  obtain ⟨u162, hinv⟩ := hinv
  obtain ⟨u163, hinv⟩ := hinv
  obtain ⟨⟨hk, H0, hod⟩, ha'⟩ := hinv
  subst ha'
  dsimp only
  by_cases hlt : k < n
  · have i1 : (k : Int) < (n : Int) := by omega
    have i2 : (0 : Int) ≤ (k : Int) := by omega
    obtain ⟨b, o, rfl, x0, x1, x2, x3⟩ := hce.out k wr hlt H0.world
    have hx := hok.out k
    have hLk := rowA_len xs k
    have hgd := rowA_good hok.out k
    have hst : Hid (rowA xs (k + 1) = stepA (rowA xs k) (xs k)) := rfl
    have hS : St w1 (wr.alloc (.cells (acV (xs k)) 31)) B R (rowA xs k) (rowA xs k) wr.heap.size (xs k) od := H0.cell
    generalize rowA xs k = L at *
    generalize xs k = x at *
    have hrm := kd_rem hx.1
    have hw1 : IntKind.i64.wrap ((k : Int) + 1) = (k : Int) + 1 := i64_id (by omega)
    have hl : L.length ≤ 1000 := by omega
    obtain ⟨M, hM⟩ : ∃ M, stepA L x = M := ⟨_, rfl⟩
    have hMl : M.length ≤ 1000 := by have := stepA_len L x; rw [hM] at this; omega
    have hst' : Hid (rowA xs (k + 1) = M) := by rw [← hM]; exact hst
    clear hst
    gi_upto_if 38 with fail
    rename_i K2 hK2
    obtain ⟨P, hP⟩ : ∃ P, wr.heap.size = P := ⟨_, rfl⟩
    have TW := up1 wr (.cells (acV x) 31)
    obtain ⟨W0, hW0⟩ : ∃ X, wr.alloc (.cells (acV x) 31) = X := ⟨_, rfl⟩
    rw [hW0, hP] at hS
    simp only [hW0, hP]
    clear hW0 hP x0 x1 x2 x3
    have hwr := H0.world
    clear H0
    have tail : ∀ (od' : Option Nat) (v9 v10 v11 v12 v13 v14 v15 v16 v17 v26 v27 v28 v29 v30 v31 v32 v33 v34 v35 v36 v37 v38 v39 v40 v41 v42 v43 v44 v45 v46 v47 v48 v49 v50 v51 v52 v53 v54 v55 v56 v57 v58 v59 v60 v61 v62 v63 v64 v65 v66 v67 v68 v69 v70 v71 v72 v73 v74 v75 v76 v77 v78 v79 v80 v81 v82 v83 v84 v85 v86 v87 v88 v89 v90 v91 v92 v93 v94 v95 v96 v97 v98 v99 v100 v101 v102 v103 v104 v105 v106 v107 v108 v109 v110 v111 v112 v113 v114 v115 v116 v117 v118 v119 v120 v121 v122 v123 v124 v125 v126 v127 v128 v129 v130 v131 v132 v133 v134 v135 v136 v137 v138 v139 v140 v141 v142 v143 v144 v145 v146 v147 v148 v149 v150 v151 v152 v153 v154 v155 v156 v157 v158 v159 v160 v161 v162 v163 : Value) (W : World), (od' ≠ none → at_ < ((k + 1 : Nat) : Int)) → St w1 W B R L L P x od' → K2 { tmps := #[.slice (some ⟨b, o, none⟩) n c, eI at_, undef, undef, .pointer (some ⟨w.heap.size, 0, none⟩), .pointer (some ⟨B, 0, none⟩), .pointer (some ⟨R, 0, none⟩), .int .i64 (k : Int), .pointer (some ⟨P, 0, none⟩), v9, v10, v11, v12, v13, v14, v15, v16, v17, .slice (some ⟨b, o, none⟩) n c, .int .i64 (n : Int), .bool false, .pointer (some ⟨B, 0, none⟩), .agg #[.slice none 0 0], .pointer (some ⟨R, 0, none⟩), .pointer (some ⟨B, 0, none⟩), .bool false, v26, v27, v28, v29, v30, v31, v32, v33, v34, v35, v36, v37, v38, v39, v40, v41, v42, v43, v44, v45, v46, v47, v48, v49, v50, v51, v52, v53, v54, v55, v56, v57, v58, v59, v60, v61, v62, v63, v64, v65, v66, v67, v68, v69, v70, v71, v72, v73, v74, v75, v76, v77, v78, v79, v80, v81, v82, v83, v84, v85, v86, v87, v88, v89, v90, v91, v92, v93, v94, v95, v96, v97, v98, v99, v100, v101, v102, v103, v104, v105, v106, v107, v108, v109, v110, v111, v112, v113, v114, v115, v116, v117, v118, v119, v120, v121, v122, v123, v124, v125, v126, v127, v128, v129, v130, v131, v132, v133, v134, v135, v136, v137, v138, v139, v140, v141, v142, v143, v144, v145, v146, v147, v148, v149, v150, v151, v152, v153, v154, v155, v156, v157, v158, v159, v160, v161, v162, v163], defers := dsOf od' } W := by
      intro od'
      intro v9 v10 v11 v12 v13 v14 v15 v16 v17 v26 v27 v28 v29 v30 v31 v32 v33 v34 v35 v36 v37 v38 v39 v40 v41 v42 v43 v44 v45 v46 v47 v48 v49 v50 v51 v52 v53 v54 v55 v56 v57 v58 v59 v60 v61 v62 v63 v64 v65 v66 v67 v68 v69 v70 v71 v72 v73 v74 v75 v76 v77 v78 v79 v80 v81 v82 v83 v84 v85 v86 v87 v88 v89 v90 v91 v92 v93 v94 v95 v96 v97 v98 v99 v100 v101 v102 v103 v104 v105 v106 v107 v108 v109 v110 v111 v112 v113 v114 v115 v116 v117 v118 v119 v120 v121 v122 v123 v124 v125 v126 v127 v128 v129 v130 v131 v132 v133 v134 v135 v136 v137 v138 v139 v140 v141 v142 v143 v144 v145 v146 v147 v148 v149 v150 v151 v152 v153 v154 v155 v156 v157 v158 v159 v160 v161 v162 v163
      intro W hod' hS'
      refine hK2 _ _ ?_
      clear hK2 hS hod
      obtain ⟨c0, c1, c2, c3⟩ := hS'.cells
      have hsm : ∀ W, St w1 W B R M M P x od' → Calls Tryd.prog 12 #[.pointer (some ⟨B, 0, none⟩), .pointer (some ⟨R, 0, none⟩), eI x.ask] W fun e w' => e = .returned (.bool true) ∧ St w1 w' B R M M P x od' := fun W h => st_same _ hx.2.2.2 h hMl
      obtain ⟨m, hmm⟩ : ∃ m, x.kd % 3 = m := ⟨_, rfl⟩
      have hm : m = 0 ∨ m = 1 ∨ m = 2 := by omega
      rcases hm with rfl | rfl | rfl
      · as_aux_lemma =>
          have hE : ∃ E, putE x.id L = E := ⟨_, rfl⟩
          obtain ⟨E, hE⟩ := hE
          have hK : putI x.id x.v L = M := by rw [← hM]; unfold stepA; rw [if_pos hmm]
          have A1 : ∀ W, St w1 W B R L L P x od' → Calls Tryd.prog 16 #[.pointer (some ⟨B, 0, none⟩), eI x.id, eU x.v] W fun e w' => e = .returned (eI E) ∧ St w1 w' B R M L P x od' := fun W h => st_put _ _ hx.2.1 hx.2.2.1 h hl hE hK
          have A2 : ∀ W, St w1 W B R M L P x od' → Calls Tryd.prog 19 #[.pointer (some ⟨R, 0, none⟩), eI x.id, eU x.v] W fun e w' => e = .returned (eI E) ∧ St w1 w' B R M M P x od' := fun W h => st_rput _ _ hx.2.2.1 h hl hE hK
          have e0 : (E != E) = false := by simp
          rw [hmm] at hrm
          clear hE hK hmm hM hl hMl hgd hce hok
          gi_wp2_with (first
            | (refine ⟨trivial, ?_⟩; gi_at_call 16; (with_reducible refine (callsIn_wide.2 (A1 _ hS')).mono ?_); rintro e wa ⟨rfl, Sa⟩; clear c0 c1 c2 c3; obtain ⟨c0, c1, c2, c3⟩ := Sa.cells)
            | (refine ⟨trivial, ?_⟩; gi_at_call 19; (with_reducible refine (callsIn_wide.2 (A2 _ Sa)).mono ?_); rintro e wb ⟨rfl, Sb⟩; clear c0 c1 c2 c3; obtain ⟨c0, c1, c2, c3⟩ := Sb.cells)
            | (refine ⟨trivial, ?_⟩; gi_at_call 12; (with_reducible refine (callsIn_wide.2 (hsm _ Sb)).mono ?_); rintro e wc ⟨rfl, Sc⟩; clear c0 c1 c2 c3; obtain ⟨c0, c1, c2, c3⟩ := Sc.cells)
            | (refine ⟨trivial, ?_⟩))
          refine ⟨⟨k + 1, od', ?_⟩, ?_⟩
          · (repeat apply Exists.intro)
            exact ⟨⟨by omega, by rw [hst'.out]; exact Sc.lp, hod'⟩, rfl⟩
          · simp [intOf]
            omega
      · as_aux_lemma =>
          have hE : ∃ E, askE x.id L = E := ⟨_, rfl⟩
          obtain ⟨E, hE⟩ := hE
          have hK : setT x.id x.v L = M := by rw [← hM]; unfold stepA; rw [if_neg (by omega), if_pos hmm]
          have A1 : ∀ W, St w1 W B R L L P x od' → Calls Tryd.prog 18 #[.pointer (some ⟨B, 0, none⟩), eI x.id, eU x.v] W fun e w' => e = .returned (eI E) ∧ St w1 w' B R M L P x od' := fun W h => st_set _ _ hx.2.1 hx.2.2.1 h hl hE hK
          have A2 : ∀ W, St w1 W B R M L P x od' → Calls Tryd.prog 20 #[.pointer (some ⟨R, 0, none⟩), eI x.id, eU x.v] W fun e w' => e = .returned (eI E) ∧ St w1 w' B R M M P x od' := fun W h => st_rset _ _ hx.2.2.1 h hl hE hK
          have e0 : (E != E) = false := by simp
          rw [hmm] at hrm
          clear hE hK hmm hM hl hMl hgd hce hok
          gi_wp2_with (first
            | (refine ⟨trivial, ?_⟩; gi_at_call 18; (with_reducible refine (callsIn_wide.2 (A1 _ hS')).mono ?_); rintro e wa ⟨rfl, Sa⟩; clear c0 c1 c2 c3; obtain ⟨c0, c1, c2, c3⟩ := Sa.cells)
            | (refine ⟨trivial, ?_⟩; gi_at_call 20; (with_reducible refine (callsIn_wide.2 (A2 _ Sa)).mono ?_); rintro e wb ⟨rfl, Sb⟩; clear c0 c1 c2 c3; obtain ⟨c0, c1, c2, c3⟩ := Sb.cells)
            | (refine ⟨trivial, ?_⟩; gi_at_call 12; (with_reducible refine (callsIn_wide.2 (hsm _ Sb)).mono ?_); rintro e wc ⟨rfl, Sc⟩; clear c0 c1 c2 c3; obtain ⟨c0, c1, c2, c3⟩ := Sc.cells)
            | (refine ⟨trivial, ?_⟩))
          refine ⟨⟨k + 1, od', ?_⟩, ?_⟩
          · (repeat apply Exists.intro)
            exact ⟨⟨by omega, by rw [hst'.out]; exact Sc.lp, hod'⟩, rfl⟩
          · simp [intOf]
            omega
      · as_aux_lemma =>
          have hE : ∃ E, askE x.id L = E := ⟨_, rfl⟩
          obtain ⟨E, hE⟩ := hE
          have hK : dropT x.id L = M := by rw [← hM]; unfold stepA; rw [if_neg (by omega), if_neg (by omega)]
          have A1 : ∀ W, St w1 W B R L L P x od' → Calls Tryd.prog 17 #[.pointer (some ⟨B, 0, none⟩), eI x.id] W fun e w' => e = .returned (eI E) ∧ St w1 w' B R M L P x od' := fun W h => st_drop _ hx.2.1 h hl hE hK
          have A2 : ∀ W, St w1 W B R M L P x od' → Calls Tryd.prog 21 #[.pointer (some ⟨R, 0, none⟩), eI x.id] W fun e w' => e = .returned (eI E) ∧ St w1 w' B R M M P x od' := fun W h => st_rdrop _ h hl hE hK
          have e0 : (E != E) = false := by simp
          rw [hmm] at hrm
          clear hE hK hmm hM hl hMl hgd hce hok
          gi_wp2_with (first
            | (refine ⟨trivial, ?_⟩; gi_at_call 17; (with_reducible refine (callsIn_wide.2 (A1 _ hS')).mono ?_); rintro e wa ⟨rfl, Sa⟩; clear c0 c1 c2 c3; obtain ⟨c0, c1, c2, c3⟩ := Sa.cells)
            | (refine ⟨trivial, ?_⟩; gi_at_call 21; (with_reducible refine (callsIn_wide.2 (A2 _ Sa)).mono ?_); rintro e wb ⟨rfl, Sb⟩; clear c0 c1 c2 c3; obtain ⟨c0, c1, c2, c3⟩ := Sb.cells)
            | (refine ⟨trivial, ?_⟩; gi_at_call 12; (with_reducible refine (callsIn_wide.2 (hsm _ Sb)).mono ?_); rintro e wc ⟨rfl, Sc⟩; clear c0 c1 c2 c3; obtain ⟨c0, c1, c2, c3⟩ := Sc.cells)
            | (refine ⟨trivial, ?_⟩))
          refine ⟨⟨k + 1, od', ?_⟩, ?_⟩
          · (repeat apply Exists.intro)
            exact ⟨⟨by omega, by rw [hst'.out]; exact Sc.lp, hod'⟩, rfl⟩
          · simp [intOf]
            omega
    have htl := Lib.hid tail
    clear tail hK2
    by_cases hat : (k : Int) = at_
    · obtain rfl : od = none := by
        cases od with
        | none => rfl
        | some D => have := hod (by simp); omega
      subst hat
      have q0 : ((k : Int) == (k : Int)) = true := by simp
      obtain ⟨χ, hB⟩ := hS.tb
      have hC := own1_copy hB hl
      have hgL := hS.good
      clear hod hrm hst' hM hMl hw1 hgd
      gi_upto_region 12 with (first
        | (refine ⟨trivial, ?_⟩; gi_at_call 10; (with_reducible refine (callsIn_wide.2 hC).mono ?_); rintro e w4 ⟨C, rfl, H4⟩)
        | (refine ⟨trivial, ?_⟩; gi_at_call 10; (with_reducible refine (callsIn_wide.2 (own1_more (hB.below H4.world) hl)).mono ?_); rintro e w5 ⟨D, rfl, H5⟩))
      have hDh := dh_new H4 H5
      have hDW : W0.heap.size ≤ w5.heap.size := Nat.le_trans H4.world.size H5.world.size
      have hz6 : (w5.alloc (.cells #[.pointer (some ⟨D, 0, none⟩)] 23)).heap.size = w5.heap.size + 1 := by simp
      obtain ⟨w6, hw6⟩ : ∃ X, w5.alloc (.cells #[.pointer (some ⟨D, 0, none⟩)] 23) = X := ⟨_, rfl⟩
      rw [hw6] at hDh hz6
      simp only [hw6]
      obtain ⟨Dp, hDp⟩ : ∃ X, w5.heap.size = X := ⟨_, rfl⟩
      rw [hDp] at hDh
      simp only [hDp]
      obtain ⟨rv, hrow⟩ := hS.row
      have hml : (oneMore L).length = L.length := by unfold oneMore; simp
      have T6 := hDh.world
      have hsm := same_any (.pointer (some ⟨C, 0, none⟩)) R L rv x.ask w6 (hDh.tells1 hl) (hrow.below T6) (by omega) hx.2.2.2
      have cl1 : ∀ W, Dh W0 W C L D (oneMore L) Dp none → Calls Tryd.prog 13 #[.pointer (some ⟨D, 0, none⟩)] W fun e w' => e = .returned (eI (L.length : Int)) ∧ W = w' := fun W h => by
        have := (h.tells2 (by omega)).len W (Below.refl _ _)
        rwa [hml] at this
      have TsB := hS.tells hl
      have cl2 : ∀ W, Below W0.heap.size W0 W → Calls Tryd.prog 13 #[.pointer (some ⟨B, 0, none⟩)] W fun e w' => e = .returned (eI (L.length : Int)) ∧ W = w' := fun W h => TsB.len W h
      have e0 : ((L.length : Int) != (L.length : Int)) = false := by simp
      have cp := (hS.box.below T6).cell 3
      have cd := hDh.box.cell 0
      clear hC hB H4 H5 hw6 hDp hrow
      gi_wp2_with (first
        | (refine ⟨trivial, ?_⟩; gi_at_call 12; (with_reducible refine (callsIn_wide.2 hsm).mono ?_); rintro e w7 ⟨rfl, hb7⟩; have Dh7 := hDh.below hb7; have T7 := Dh7.world; clear cp cd; have cd := Dh7.box.cell 0; have cp := (hS.box.below T7).cell 3)
        | (refine ⟨trivial, ?_⟩; gi_at_call 13; (with_reducible refine (callsIn_wide.2 (cl1 _ Dh7)).mono ?_); rintro e w8 ⟨rfl, rfl⟩)
        | (refine ⟨trivial, ?_⟩; gi_at_call 13; (with_reducible refine (callsIn_wide.2 (cl2 _ T7)).mono ?_); rintro e w8 ⟨rfl, rfl⟩)
        | (refine ⟨trivial, ?_⟩; gi_at_call 14; (with_reducible refine (callsIn_wide.2 (TsB.each w7 T7)).mono ?_); rintro e w9 ⟨b9, rfl, hb9, hbb, hbx, hseq⟩))
      have hz9 := hb9.size
      have hbl := hbx.lt
      have hz7 := T7.size
      have hsq := (hseq 13 w7.heap.size (by omega) (by omega) (by omega)).toC
      clear hseq hsm cl1 cl2 hDh
      refine loopC (by omega) (gf := 32) (lb := #[.pointer (Option.some ⟨b9, 0, none⟩)]) rfl (enters_of Tryd.func32 (by kernel_rfl) rfl) (n₀ := w7.heap.size) (by omega) hsq (fun _ => rfl)
        (fun pre X => Box X b9 #[.pointer (some ⟨B, 0, none⟩)] 23 ∧ Below w7.heap.size w7 X) (fun _ _ _ => False)
        (fun _ X Y row hI hg hr => ⟨hI.1.turn hg hr hbl, below_turn hI.2 hg hr (by omega)⟩) (fun c _ _ _ _ h => h.elim) (fun _ _ h => h.1) ⟨hbx, hb9⟩
        (fun z a' X => a' = { tmps := #[Value.slice (some { block := b, off := o }) n c, eI ↑k, undef, undef, Value.pointer (some { block := w.heap.size, off := 0 }), Value.pointer (some { block := B, off := 0 }), Value.pointer (some { block := R, off := 0 }), Value.int IntKind.i64 ↑k, Value.pointer (some { block := P, off := 0 }), Value.pointer (some { block := C, off := 0 }), Value.pointer (some { block := Dp, off := 0 }), eI z.id, eU z.v, u13, u14, u15, u16, u17, Value.slice (some { block := b, off := o }) n c, Value.int IntKind.i64 ↑n, Value.bool false, Value.pointer (some { block := B, off := 0 }), Value.agg #[Value.slice none 0 0], Value.pointer (some { block := R, off := 0 }), Value.pointer (some { block := B, off := 0 }), Value.bool false, Value.int IntKind.i64 ↑k, Value.slice (some { block := b, off := o }) n c, Value.int IntKind.i64 ↑n, Value.bool true, u30, u31, Value.slice (some { block := b, off := o }) n c, Value.int IntKind.i64 ↑k, Value.pointer (some { block := b, off := o + k * 4 }), Value.agg #[Value.int IntKind.u8 x.kd, Value.int IntKind.i64 x.id, Value.int IntKind.u64 x.v, Value.int IntKind.i64 x.ask], Value.int IntKind.i64 ↑k, eI ↑k, Value.bool true, Value.pointer (some { block := B, off := 0 }), Value.pointer (some { block := C, off := 0 }), Value.pointer (some { block := B, off := 0 }), Value.pointer (some { block := D, off := 0 }), Value.pointer (some { block := C, off := 0 }), Value.bool false, Value.bool false, Value.pointer (some { block := D, off := 0 }), Value.bool false, Value.bool false, Value.bool false, Value.pointer (some { block := C, off := 0 }), Value.pointer (some { block := R, off := 0 }), Value.pointer (some { block := P, off := 3 }), Value.int IntKind.i64 x.ask, Value.bool true, Value.bool false, Value.bool false, Value.bool false, Value.pointer (some { block := D, off := 0 }), eI ↑L.length, Value.pointer (some { block := B, off := 0 }), eI ↑L.length, Value.bool false, Value.bool false, Value.pointer (some { block := B, off := 0 }), Value.func (Fn.func 32) #[] #[Value.pointer (some { block := b9, off := 0 })], eI z.id, eU z.v, u68, u69, u70, u71, u72, u73, u74, u75, u76, u77, u78, u79, u80, u81, u82, u83, u84, u85, u86, u87, u88, u89, u90, u91, u92, u93, u94, u95, u96, u97, u98, u99, u100, u101, u102, u103, u104, u105, u106, u107, u108, u109, u110, u111, u112, u113, u114, u115, u116, u117, u118, u119, u120, u121, u122, u123, u124, u125, u126, u127, u128, u129, u130, u131, u132, u133, u134, u135, u136, u137, u138, u139, u140, u141, u142, u143, u144, u145, u146, u147, u148, u149, u150, u151, u152, u153, u154, u155, u156, u157, u158, u159, u160, u161, u162, u163], defers := [] })
        (fun x a' _ X Y row hs hg hr => hs)
        ?assign ?body ?done ?stop
      case assign =>
        rintro l0 pre z X K hzX hI hK
        simp only [imE]
        gi_wp2
        exact hK _ _ (Mid.refl _ _ X) hI rfl
      case stop =>
        rintro D c pre X hD _ h hK
        exact h.elim
      case body =>
        rintro l0 pre z a' X hzX ⟨h1, h2⟩ rfl hpx
        obtain ⟨hkp, hz⟩ := pre_at hpx
        have hzi := (hgL.each _ (List.getElem_mem hkp)).1
        have hat := more_at hgL (List.getElem?_eq_getElem hkp)
        rw [hz] at hat hzi
        have cG := (Dh7.tells2 (by omega)).get z.id X (by show _ ≤ _ ∧ _ < _; omega) h2
        rw [hat.1, hat.2] at cG
        have c1 := (Dh7.box.below h2).cell 0
        have e2 : ((Option.some (IntKind.u64.wrap (z.v + 1))).getD 0) = IntKind.u64.wrap (z.v + 1) := rfl
        rw [e2] at cG
        obtain ⟨y, hy⟩ : ∃ y, IntKind.u64.wrap (z.v + 1) = y := ⟨_, rfl⟩
        rw [hy] at cG
        have e1 : (y != y) = false := by simp
        clear hat hzi hz e2 cp cd hS T7 T6 hwr hx hgL
        gi_wp2_with (refine ⟨trivial, ?_⟩; gi_at_call 15; (with_reducible refine (CallsIn.inRound l0 (callsIn_wide.2 cG)).mono ?_); rintro e w8 ⟨rfl, hb8⟩)
        exact ⟨Mid.of_below hb8 h2.size, h1.below hb8, upp h2 hb8⟩
      case done =>
        rintro D0 ys X hD hys ⟨h1, h2⟩ hKd
        clear hys
        have G0 := Dh7.marked h2 hKd (by omega)
        clear h1 h2 hKd hsq hbx hb9 hb7 Dh7 T6 T7 cp cd TsB hgL
        gi_wp2
        gi_loopw [15] (fun s15 wv => ∃ (j : Nat) (Lc Ld : List Im), s15 = .int .i64 j ∧ k ≤ j ∧ j ≤ n ∧ Lc.length ≤ L.length + (j - k) ∧ Ld.length ≤ L.length ∧ Dh W0 wv C Lc D Ld Dp (some D0)) (fun s15 _ => n - (intOf s15).toNat)
        case atStart => exact ⟨k, L, oneMore L, rfl, Nat.le_refl _, by omega, by omega, by omega, G0⟩
        case round =>
          clear G0
          obtain ⟨j, Lc, Ld, rfl, hkj, hj, hcl, hdl, G0⟩ := hrel
          have hcW : ∀ (i : Nat) W Lc Ld, i < n → Dh W0 W C Lc D Ld Dp (some D0) → W.cell? ⟨b, o + i * 4 + 1, none⟩ = some (.int .i64 (xs i).id) ∧ W.cell? ⟨Dp, 0, none⟩ = some (.pointer (some ⟨D, 0, none⟩)) := fun i W Lc Ld hi h => by
            obtain ⟨b', o', e, _, z1, _⟩ := hce.out i W hi (upp hS.world h.world)
            cases e
            exact ⟨z1, h.box.cell 0⟩
          by_cases hlj : j < n
          · have i3 : (j : Int) < (n : Int) := by omega
            have i4 : (0 : Int) ≤ (j : Int) := by omega
            obtain ⟨q, hq⟩ : ∃ q, n - 1 - j = q := ⟨_, rfl⟩
            have hqn : q < n := by omega
            have i5 : (q : Int) < (n : Int) := by omega
            have i6 : (0 : Int) ≤ (q : Int) := by omega
            have hw2 : IntKind.i64.wrap ((n : Int) - 1) = (n : Int) - 1 := i64_id (by omega)
            have hw3 : IntKind.i64.wrap ((n : Int) - 1 - (j : Int)) = (q : Int) := by rw [i64_id (by omega)]; omega
            have hw4 : IntKind.i64.wrap ((j : Int) + 1) = (j : Int) + 1 := i64_id (by omega)
            have hy := hok.out j
            have hy2 := hok.out q
            have hl2 := put_len (xs j).id 3 Lc
            have hl3 := drop_len (xs q).id (putI (xs j).id 3 Lc)
            have hl4 := set_len (xs j).id 9 Ld
            have P1 : ∀ W, Dh W0 W C Lc D Ld Dp (some D0) → Calls Tryd.prog 16 #[.pointer (some ⟨C, 0, none⟩), eI (xs j).id, eU 3] W fun e w' => (∃ z : Int, e = .returned (eI z)) ∧ Dh W0 w' C (putI (xs j).id 3 Lc) D Ld Dp (some D0) := fun W h => dh_put _ 3 ⟨by decide, by decide⟩ h (by omega)
            have P2 : ∀ W, Dh W0 W C (putI (xs j).id 3 Lc) D Ld Dp (some D0) → Calls Tryd.prog 17 #[.pointer (some ⟨C, 0, none⟩), eI (xs q).id] W fun e w' => (∃ z : Int, e = .returned (eI z)) ∧ Dh W0 w' C (dropT (xs q).id (putI (xs j).id 3 Lc)) D Ld Dp (some D0) := fun W h => dh_drop _ h (by omega)
            have P3 : ∀ W, Dh W0 W C (dropT (xs q).id (putI (xs j).id 3 Lc)) D Ld Dp (some D0) → Calls Tryd.prog 18 #[.pointer (some ⟨D, 0, none⟩), eI (xs j).id, eU 9] W fun e w' => (∃ z : Int, e = .returned (eI z)) ∧ Dh W0 w' C (dropT (xs q).id (putI (xs j).id 3 Lc)) D (setT (xs j).id 9 Ld) Dp (some D0) := fun W h => dh_set _ 9 ⟨by decide, by decide⟩ h (by omega)
            obtain ⟨f1, f2⟩ := hcW j wr Lc Ld hlj G0
            gi_upto_region 25 with (first
              | (refine ⟨trivial, ?_⟩; gi_at_call 16; (with_reducible refine (callsIn_wide.2 (P1 _ G0)).mono ?_); rintro e wa ⟨⟨za, rfl⟩, G1⟩; obtain ⟨g1, g2⟩ := hcW q _ _ _ hqn G1)
              | (refine ⟨trivial, ?_⟩; gi_at_call 17; (with_reducible refine (callsIn_wide.2 (P2 _ G1)).mono ?_); rintro e wb ⟨⟨zb, rfl⟩, G2⟩))
            clear f1 f2 g1 g2 hw2 hw3
            have y0 := hcW j _ _ _ hlj G2
            have G2d := G2.below (Below.refl _ wb).drew
            refine wpIn_wide.2 ?_
            go_region_held3 (fun w' => w'.cell? ⟨b, o + j * 4 + 1, none⟩ = some (.int .i64 (xs j).id) ∧ w'.cell? ⟨Dp, 0, none⟩ = some (.pointer (some ⟨D, 0, none⟩)))
              (first | exact y0 | exact hcW j _ _ _ hlj G3)
              (first | (go_at_call 18; (with_reducible refine (P3 _ G2).mono ?_); rintro e wc ⟨⟨zc, rfl⟩, G3⟩) | (go_at_call 18; (with_reducible refine (P3 _ G2d).mono ?_); rintro e wc ⟨⟨zc, rfl⟩, G3⟩))
            all_goals gi_wp2
            exact ⟨⟨j + 1, _, _, rfl, by omega, by omega, by omega, by omega, G3⟩, by simp [intOf]; omega⟩
          · obtain rfl : j = n := by omega
            have i3 : ¬ (j : Int) < (j : Int) := by omega
            clear hcW
            gi_wp2
            exact htl.out (some D0) _ _ _ _ _ _ _ _ _ _ _ _ _ _ _ _ _ _ _ _ _ _ _ _ _ _ _ _ _ _ _ _ _ _ _ _ _ _ _ _ _ _ _ _ _ _ _ _ _ _ _ _ _ _ _ _ _ _ _ _ _ _ _ _ _ _ _ _ _ _ _ _ _ _ _ _ _ _ _ _ _ _ _ _ _ _ _ _ _ _ _ _ _ _ _ _ _ _ _ _ _ _ _ _ _ _ _ _ _ _ _ _ _ _ _ _ _ _ _ _ _ _ _ _ _ _ _ _ _ _ _ _ _ _ _ _ _ _ _ _ _ _ _ _ _ _ _ _ (fun _ => by omega) (hS.marked G0.world G0.mark (by omega))
    · have q0 : ((k : Int) == at_) = false := by simpa using hat
      gi_wp2
      exact htl.out od _ _ _ _ _ _ _ _ _ _ _ _ _ _ _ _ _ _ _ _ _ _ _ _ _ _ _ _ _ _ _ _ _ _ _ _ _ _ _ _ _ _ _ _ _ _ _ _ _ _ _ _ _ _ _ _ _ _ _ _ _ _ _ _ _ _ _ _ _ _ _ _ _ _ _ _ _ _ _ _ _ _ _ _ _ _ _ _ _ _ _ _ _ _ _ _ _ _ _ _ _ _ _ _ _ _ _ _ _ _ _ _ _ _ _ _ _ _ _ _ _ _ _ _ _ _ _ _ _ _ _ _ _ _ _ _ _ _ _ _ _ _ _ _ _ _ _ _ (fun e => by have := hod e; omega) hS
  · obtain rfl : k = n := by omega
    have i1 : ¬ (k : Int) < (k : Int) := by omega
    have b0 := br.below H0.world
    have r0 := b0.thaw 0
    have r1 := b0.cell 0
    have qB : Box (wr.setCell ⟨w.heap.size, 0, none⟩ (.bool true)) w.heap.size #[.bool true] 4 := b0.set 0 (.bool true)
    have qT := (ups T1 H0.world T1.size).setCell (p := ⟨w.heap.size, 0, none⟩) (by simp) (.bool true)
    cases od with
    | none =>
      have fc := qB.cell 0
      clear hod hce hok
      gi_wp2
      exact ⟨.bool true, by simp [results, Tryd.results3, go_sem, fc], rfl, qT⟩
    | some D0 =>
      obtain ⟨hmk, hDw⟩ := H0.mark
      have nD2 : D0 ≠ w.heap.size := by omega
      have fd := (Below.heap_setCell wr ⟨w.heap.size, 0, none⟩ (.bool true) D0 nD2).trans hmk
      have fB : Box ((wr.setCell ⟨w.heap.size, 0, none⟩ (.bool true)).putObj D0 (.deferred none)) (w.heap.size) #[.bool true] 4 := (World.putObj_heap_other (by omega)).trans qB
      have fc := fB.cell 0
      have fb := qT.trans (belowK_b (w := w) (Nat.le_refl _) _ D0 _ (.deferred none) (by omega) fd rfl rfl)
      clear qB qT fB hmk hod hce hok
      gi_wp2
      refine ⟨by simp [dsOf], .inl ⟨_, _, rfl, run_takeDeferred fd, ?_⟩⟩
      exact ⟨.bool true, by simp [results, Tryd.results3, go_sem, fc], rfl, fb⟩
set_option maxRecDepth 100000 in
theorem holds_over (a : Option Addr) (n c : Nat) (at_ : Int) (w : World) (hn : 120 < n) :
    Calls Tryd.prog 3 #[.slice a n c, eI at_] w fun e w' => e = .returned (.bool true) ∧ Below w.heap.size w w' := by
  have i1 : (120 : Int) < (n : Int) := by omega
  have br := Box.new w 4 #[.bool false]
  have T1 := up1 w (.cells #[.bool false] 4)
  obtain ⟨w1, hw1⟩ : ∃ X, w.alloc (.cells #[.bool false] 4) = X := ⟨_, rfl⟩
  rw [hw1] at br T1
  refine (callsIn_wide (n := 14)).1 ?_
  refine callsIn_of_wp_marks Tryd.func3 rfl trivial ?_ rfl
  simp only [Tryd.ntmps3, List.size_toArray, List.length_cons, List.length_nil, Nat.reduceAdd, Nat.reduceSub, Array.replicate_succ, Array.replicate_zero, List.push_toArray, List.append_toArray, List.nil_append, List.cons_append]
  gi_upto_region 1 with fail
  have r0 := br.thaw 0
  have r1 := br.cell 0
  have qB : Box (w1.setCell ⟨w.heap.size, 0, none⟩ (.bool true)) w.heap.size #[.bool true] 4 := br.set 0 (.bool true)
  have fc := qB.cell 0
  gi_wp2
  exact ⟨.bool true, by simp [results, Tryd.results3, go_sem, fc], rfl, T1.setCell (p := ⟨w.heap.size, 0, none⟩) (by simp) (.bool true)⟩
theorem TableHolds_walk (a : Option Addr) (n c : Nat) (xs : Nat → Ac) (at_ : Int) (w : World) (ht : Tab w) (hI : IsRow acC 4 w a n c xs) (hw : ∀ i, (xs i).ok) (ha : Inte at_) :
    Calls Tryd.prog 3 #[.slice a n c, eI at_] w fun e w' => e = .returned (.bool true) ∧ Below w.heap.size w w' := by
  rcases Nat.lt_or_ge 120 n with h | h
  · exact holds_over a n c at_ w h
  · exact holds_ok a n c xs at_ w ht h hI hw ha
end Go.Proofs.YtenghpgnhmglpaaDoor
