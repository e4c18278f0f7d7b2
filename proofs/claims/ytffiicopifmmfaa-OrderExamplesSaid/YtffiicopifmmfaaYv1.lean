/- Facts of the program over abstract values. No condition. -/
import Derived.Test.YtffiicopifmmfaaYl
import Derived.Test.YtffiicopifmmfaaYx0
import Derived.Test.YtffiicopifmmfaaOrAl2
set_option linter.unusedSimpArgs false
set_option linter.unusedVariables false
set_option maxRecDepth 8000
namespace Go.Proofs.Ytffiicopifmmfaa
set_option linter.unusedSimpArgs false
set_option linter.unusedVariables false
set_option linter.unnecessarySimpa false
set_option linter.unusedSectionVars false
open Go.Proofs.Try
open Go.Proofs.Ytffiicopifmmfaa.Ai
set_option maxHeartbeats 4000000

/-! The chapter's examples -/
def sT : Tm := ⟨[0], [1, 2], [3], 1, 1, 2, 3, 8⟩
def sT9 : Tm := ⟨[0], [1, 2], [3], 1, 1, 9, 3, 8⟩
def exs : List Cc := [⟨0, 1, 0, 0, 3⟩, ⟨0, 1, 0, 0, 3⟩, ⟨0, 1, 0, 0, 3⟩, ⟨1, 0, 0, 2, 0⟩, ⟨0, 0, 0, 0, 4⟩, ⟨1, 0, 0, 3, 0⟩, ⟨0, 0, 0, 0, 5⟩, ⟨0, 0, 0, 0, 8⟩, ⟨2, 0, 0, 0, 0⟩, ⟨2, 0, 0, 0, 0⟩, ⟨2, 0, 0, 0, 0⟩, ⟨3, 0, 0, 1, 0⟩, ⟨3, 0, 0, 1, 0⟩, ⟨4, 0, 0, 1, 9⟩, ⟨1, 0, 0, 4, 0⟩, ⟨5, 0, 0, 5, 0⟩, ⟨6, 0, 0, 0, 0⟩]
def exW : List Int := [0, 0, 9, 0, 0, 0, 160, 0, 0, 0, 6, 0, 150, 0, 150, 6, 0]
def exI : List Int := [1, 2, 0, 0, 3, 0, 0, 4, 1, 4, 0, 0, 0, 0, 0, 0, 0]
theorem small_p : PCall prog 25 [] (.agg (tmc sT)) := by
  simp only [sT]
  obtain ⟨c, hb, hl⟩ := l25
  refine pcall_of mixed e25 hb rfl hl r25 (by rw [n25]; simp) ?_
  clear hb hl c
  (try simp only [push_cast, seval, reduceCtorEq])
  repeat' (first
    | ((first | ((first | refine brX_split ?_ ?_ | refine gX_split ?_ ?_ | refine hX_split ?_ ?_ | refine outK_split ?_ ?_) <;> (intro xc; (try simp only [Bool.not_eq_true', Bool.not_eq_false'] at xc); have xp := xc; (try simp only [decide_eq_true_eq, decide_eq_false_iff_not, Int.not_lt, Int.not_le, ge_iff_le, gt_iff_lt, Bool.and_eq_true, Bool.or_eq_false_iff] at xp); have xq := xp; (first | simp only [← Int.not_le] at xq | simp only [← Int.not_lt] at xq | clear xq))) | ((fail_if_success (refine ⟨_, ?_, ?_⟩)); refine ⟨AV.any, ?_⟩) | refine ret_frz rfl ?_ (by simp [push_cast]) (by simp [push_cast]) (by simp [push_cast]) | refine end_frz rfl ?_ (by simp [push_cast]) (by simp [push_cast]) (by simp [push_cast]) | refine ret_now (by simp [push_cast]) ?_ (by simp [push_cast]) | refine end_now (by simp [push_cast]) ?_ (by simp [push_cast])) <;> (try simp only [push_cast, seval, reduceCtorEq, *]))
    | ((first | refine cv_ptE rfl rfl rfl rfl rfl ?_ | refine outQ_frz rfl ?_ (by simp [push_cast]) (by simp [push_cast]) | refine dfr_end (by simp) rfl ?_ (by simp [push_cast]) (by simp [push_cast])) <;> (try simp only [push_cast, seval, reduceCtorEq]))
    | exact cv_slE rfl rfl ⟨rfl, rfl⟩ (by simp) (by simp [take_map_len])
    | refine outQ_pan ?_ (by simp [push_cast])
    | refine outQ_unit ?_
    | refine outQ_unitN ?_
    | refine And.intro ?_ ?_
    | omega)
  all_goals (try simp only [push_cast, seval, reduceCtorEq])
  all_goals first
    | (simp only [*]; done)
    | (simp [*]; done)
    | (simp_all []; done)
    | (simp_all []; omega)
    | skip
theorem mkSub_p (p d now : Int) : PCall prog 22 [.int .i64 p, .int .i64 d, .int .u64 now] (.agg (clc ⟨0, p, d, 0, now⟩)) := by
  obtain ⟨c, hb, hl⟩ := l22
  refine pcall_of mixed e22 hb rfl hl r22 (by rw [n22]; simp) ?_
  clear hb hl c
  (try simp only [push_cast, seval, reduceCtorEq])
  repeat' (first
    | ((first | ((first | refine brX_split ?_ ?_ | refine gX_split ?_ ?_ | refine hX_split ?_ ?_ | refine outK_split ?_ ?_) <;> (intro xc; (try simp only [Bool.not_eq_true', Bool.not_eq_false'] at xc); have xp := xc; (try simp only [decide_eq_true_eq, decide_eq_false_iff_not, Int.not_lt, Int.not_le, ge_iff_le, gt_iff_lt, Bool.and_eq_true, Bool.or_eq_false_iff] at xp); have xq := xp; (first | simp only [← Int.not_le] at xq | simp only [← Int.not_lt] at xq | clear xq))) | ((fail_if_success (refine ⟨_, ?_, ?_⟩)); refine ⟨AV.any, ?_⟩) | refine ret_frz rfl ?_ (by simp [push_cast]) (by simp [push_cast]) (by simp [push_cast]) | refine end_frz rfl ?_ (by simp [push_cast]) (by simp [push_cast]) (by simp [push_cast]) | refine ret_now (by simp [push_cast]) ?_ (by simp [push_cast]) | refine end_now (by simp [push_cast]) ?_ (by simp [push_cast])) <;> (try simp only [push_cast, seval, reduceCtorEq, *]))
    | ((first | refine cv_ptE rfl rfl rfl rfl rfl ?_ | refine outQ_frz rfl ?_ (by simp [push_cast]) (by simp [push_cast]) | refine dfr_end (by simp) rfl ?_ (by simp [push_cast]) (by simp [push_cast])) <;> (try simp only [push_cast, seval, reduceCtorEq]))
    | exact cv_slE rfl rfl ⟨rfl, rfl⟩ (by simp) (by simp [take_map_len])
    | refine outQ_pan ?_ (by simp [push_cast])
    | refine outQ_unit ?_
    | refine outQ_unitN ?_
    | refine And.intro ?_ ?_
    | omega)
  all_goals (try simp only [push_cast, seval, reduceCtorEq])
  all_goals first
    | (simp only [*]; done)
    | (simp [*]; done)
    | (simp_all []; done)
    | (simp_all []; omega)
    | skip
theorem mkNam_p (dv id now : Int) : PCall prog 23 [.int .u8 dv, .int .i64 id, .int .u64 now] (.agg (clc ⟨dv, 0, 0, id, now⟩)) := by
  obtain ⟨c, hb, hl⟩ := l23
  refine pcall_of mixed e23 hb rfl hl r23 (by rw [n23]; simp) ?_
  clear hb hl c
  (try simp only [push_cast, seval, reduceCtorEq])
  repeat' (first
    | ((first | ((first | refine brX_split ?_ ?_ | refine gX_split ?_ ?_ | refine hX_split ?_ ?_ | refine outK_split ?_ ?_) <;> (intro xc; (try simp only [Bool.not_eq_true', Bool.not_eq_false'] at xc); have xp := xc; (try simp only [decide_eq_true_eq, decide_eq_false_iff_not, Int.not_lt, Int.not_le, ge_iff_le, gt_iff_lt, Bool.and_eq_true, Bool.or_eq_false_iff] at xp); have xq := xp; (first | simp only [← Int.not_le] at xq | simp only [← Int.not_lt] at xq | clear xq))) | ((fail_if_success (refine ⟨_, ?_, ?_⟩)); refine ⟨AV.any, ?_⟩) | refine ret_frz rfl ?_ (by simp [push_cast]) (by simp [push_cast]) (by simp [push_cast]) | refine end_frz rfl ?_ (by simp [push_cast]) (by simp [push_cast]) (by simp [push_cast]) | refine ret_now (by simp [push_cast]) ?_ (by simp [push_cast]) | refine end_now (by simp [push_cast]) ?_ (by simp [push_cast])) <;> (try simp only [push_cast, seval, reduceCtorEq, *]))
    | ((first | refine cv_ptE rfl rfl rfl rfl rfl ?_ | refine outQ_frz rfl ?_ (by simp [push_cast]) (by simp [push_cast]) | refine dfr_end (by simp) rfl ?_ (by simp [push_cast]) (by simp [push_cast])) <;> (try simp only [push_cast, seval, reduceCtorEq]))
    | exact cv_slE rfl rfl ⟨rfl, rfl⟩ (by simp) (by simp [take_map_len])
    | refine outQ_pan ?_ (by simp [push_cast])
    | refine outQ_unit ?_
    | refine outQ_unitN ?_
    | refine And.intro ?_ ?_
    | omega)
  all_goals (try simp only [push_cast, seval, reduceCtorEq])
  all_goals first
    | (simp only [*]; done)
    | (simp [*]; done)
    | (simp_all []; done)
    | (simp_all []; omega)
    | skip
theorem sT_fit : Tfit sT := ⟨by decide, by decide, by decide⟩
theorem sT_fit9 : Tfit sT9 := ⟨by decide, by decide, by decide⟩
theorem exs_ok : okCalls exs := by
  intro x hx
  simp only [exs, List.mem_cons, List.not_mem_nil, or_false] at hx
  rcases hx with rfl | rfl | rfl | rfl | rfl | rfl | rfl | rfl | rfl | rfl | rfl | rfl | rfl | rfl | rfl | rfl | rfl <;> decide
theorem ex_at : ∀ k, k < 17 → (progR (plB sT exs k) sT (exs.getD k ⟨0, 0, 0, 0, 0⟩)).e = exW.getD k 0 ∧ (progR (plB sT exs k) sT (exs.getD k ⟨0, 0, 0, 0, 0⟩)).id = exI.getD k 0 := by
  decide +kernel
theorem ex_end : ttT (plB sT exs 17) sT = ⟨4, 0, 1, 0, 1, 2⟩ ∧ bookE (plB sT exs 17) sT = 0 := by
  refine ⟨by rfl, by decide +kernel⟩
theorem sub_nil (m : Tm) (ht : Tfit m) (p d now : Int) : PCall prog 28 [.agg (tmc m), .agg zbk, .int .i64 p, .int .i64 d, .int .u64 now] (.tup [.agg (bkc (subR zB m p d now)), .int .i64 (subI zB m p d now), .int .i64 (subE zB m p d now)]) :=
  (submit_p (ht.fit (b := zB) (by simp [zB]) (by simp [zB])) p d now).weak ⟨.refl _, ge_zbk, .refl _, .refl _, .refl _, trivial⟩
theorem chk_nil (m : Tm) (ht : Tfit m) : PCall prog 29 [.agg (tmc m), .agg zbk] (.int .i64 (bookE zB m)) :=
  (checkBook_r (ht.fit (b := zB) (by simp [zB]) (by simp [zB]))).weak ⟨.refl _, ge_zbk, trivial⟩
theorem nilBk {rows : Ai.Rows} {Z : Nat → Bool} {rho : Nat → Nat} {n : Nat} : cellsCv rows Z rho n [[.nils, .nils, .int .u64 0, .int .i64 0]] [bkc zB] := by
  refine ⟨⟨⟨.nilsR 6, .nilsR 1, .int _ _, .int _ _, trivial⟩, trivial⟩, ?_⟩
  intro x hx v hv
  have := cl_bk zB
  rw [cl_agg] at this
  simp only [List.mem_cons, List.not_mem_nil, or_false] at hx
  subst hx
  exact (this v hv).bel
theorem law_examples : PCall prog 3 [] (.bool true) := by
  have w1 : PCall prog 16 [.int .i64 0, .int .i64 0, .int .i64 0, .int .u64 0] (.tup [.agg (oc ⟨0, 0, 0, 0, 0, 0⟩), .int .i64 2]) := new_p 0 0 0 0
  have w2 : PCall prog 16 [.int .i64 65, .int .i64 0, .int .i64 0, .int .u64 0] (.tup [.agg (oc ⟨0, 0, 0, 0, 0, 0⟩), .int .i64 2]) := new_p 65 0 0 0
  have w3 : PCall prog 16 [.int .i64 1, .int .i64 3, .int .i64 0, .int .u64 0] (.tup [.agg (oc ⟨0, 0, 0, 0, 0, 0⟩), .int .i64 2]) := new_p 1 3 0 0
  have w4 : PCall prog 16 [.int .i64 1, .int .i64 0, .int .i64 0, .int .u64 4611686018427387905] (.tup [.agg (oc ⟨0, 0, 0, 0, 0, 0⟩), .int .i64 2]) := new_p 1 0 0 4611686018427387905
  have w5 : PCall prog 16 [.int .i64 1, .int .i64 0, .int .i64 2, .int .u64 7] (.tup [.agg (oc ⟨1, 0, 2, 1, 7, 0⟩), .int .i64 0]) := new_p 1 0 2 7
  have a1 : PCall prog 18 [.agg (oc ⟨1, 0, 2, 1, 7, 0⟩), .int .u8 3, .int .u64 0] (.tup [.agg (oc ⟨0, 0, 0, 0, 0, 0⟩), .int .i64 150]) := advance_p ⟨1, 0, 2, 1, 7, 0⟩ 3 0
  have a2 : PCall prog 18 [.agg (oc ⟨1, 0, 2, 1, 7, 0⟩), .int .u8 4, .int .u64 0] (.tup [.agg (oc ⟨0, 0, 0, 0, 0, 0⟩), .int .i64 2]) := advance_p ⟨1, 0, 2, 1, 7, 0⟩ 4 0
  have a3 : PCall prog 18 [.agg (oc ⟨1, 0, 2, 1, 7, 0⟩), .int .u8 6, .int .u64 0] (.tup [.agg (oc ⟨0, 0, 0, 0, 0, 0⟩), .int .i64 2]) := advance_p ⟨1, 0, 2, 1, 7, 0⟩ 6 0
  have a4 : PCall prog 18 [.agg (oc ⟨1, 0, 2, 3, 7, 0⟩), .int .u8 4, .int .u64 9] (.tup [.agg (oc ⟨1, 0, 2, 4, 7, 9⟩), .int .i64 0]) := advance_p ⟨1, 0, 2, 3, 7, 0⟩ 4 9
  have a5 : PCall prog 18 [.agg (oc ⟨1, 0, 2, 4, 7, 9⟩), .int .u8 1, .int .u64 0] (.tup [.agg (oc ⟨0, 0, 0, 0, 0, 0⟩), .int .i64 150]) := advance_p ⟨1, 0, 2, 4, 7, 9⟩ 1 0
  have t1 : PCall prog 19 [.agg [.int .u64 0, .int .i64 2], .int .i64 8, .int .i64 3, .int .u64 8] (.tup [.agg [.int .u64 1, .int .i64 1], .int .i64 0]) := take_p 0 2 8 3 8
  have t2 : PCall prog 19 [.agg [.int .u64 0, .int .i64 3], .int .i64 8, .int .i64 3, .int .u64 7] (.tup [.agg [.int .u64 0, .int .i64 0], .int .i64 160]) := take_p 0 3 8 3 7
  have r1 : PCall prog 20 [.agg [.int .u64 0, .int .i64 3], .int .i64 8, .int .i64 3, .int .u64 7] (.tup [.int .i64 0, .int .i64 0]) := remaining_p 0 3 8 3 7
  have r2 : PCall prog 20 [.agg [.int .u64 0, .int .i64 3], .int .i64 8, .int .i64 3, .int .u64 8] (.tup [.int .i64 3, .int .i64 0]) := remaining_p 0 3 8 3 8
  have k1 : PCall prog 21 [.agg [.int .u64 0, .int .i64 4], .int .i64 8, .int .i64 3] (.int .i64 8) := count_p 0 4 8 3
  have k2 : PCall prog 21 [.agg [.int .u64 0, .int .i64 0], .int .i64 0, .int .i64 3] (.int .i64 2) := count_p 0 0 0 3
  have k3 : PCall prog 21 [.agg [.int .u64 0, .int .i64 0], .int .i64 65, .int .i64 3] (.int .i64 2) := count_p 0 0 65 3
  obtain ⟨c, hb, hl⟩ := l3
  refine pcall_of mixed e3 hb rfl hl r3 (by rw [n3]; simp) ?_
  clear hb hl c
  (try simp only [push_cast, seval, reduceCtorEq])
  repeat' (first
    | ((first | ((first | refine brX_split ?_ ?_ | refine gX_split ?_ ?_ | refine hX_split ?_ ?_ | refine outK_split ?_ ?_) <;> (intro xc; (try simp only [Bool.not_eq_true', Bool.not_eq_false'] at xc); have xp := xc; (try simp only [decide_eq_true_eq, decide_eq_false_iff_not, Int.not_lt, Int.not_le, ge_iff_le, gt_iff_lt, Bool.and_eq_true, Bool.or_eq_false_iff] at xp); have xq := xp; (first | simp only [← Int.not_le] at xq | simp only [← Int.not_lt] at xq | clear xq))) | refine ⟨.ret _, _, PCall.s (by first | assumption | exact w1 | exact w2 | exact w3 | exact w4 | exact w5 | exact t1 | exact t2 | exact r1 | exact r2 | exact k1 | exact k2 | exact k3 | exact alive_p | exact mkSub_p _ _ _ | exact mkNam_p _ _ _) (by simp [push_cast]), ?_⟩ | refine ⟨.ret _, _, RCall.s (RCall.sh (by first | assumption | exact w1 | exact w2 | exact w3 | exact w4 | exact w5 | exact t1 | exact t2 | exact r1 | exact r2 | exact k1 | exact k2 | exact k3 | exact alive_p | exact mkSub_p _ _ _ | exact mkNam_p _ _ _)) (by simp [push_cast]), ?_⟩ | refine ⟨_, _, SCall.lift (by first | assumption | exact w1 | exact w2 | exact w3 | exact w4 | exact w5 | exact t1 | exact t2 | exact r1 | exact r2 | exact k1 | exact k2 | exact k3 | exact alive_p | exact mkSub_p _ _ _ | exact mkNam_p _ _ _) (outR_cl (by simp [push_cast]) (by simp [push_cast])) (by simp [push_cast]), ?_⟩ | refine ⟨_, (by first | assumption | exact w1 | exact w2 | exact w3 | exact w4 | exact w5 | exact t1 | exact t2 | exact r1 | exact r2 | exact k1 | exact k2 | exact k3 | exact alive_p | exact mkSub_p _ _ _ | exact mkNam_p _ _ _), ?_⟩ | refine ⟨0, [], _, PCall.r (by first | assumption | exact w1 | exact w2 | exact w3 | exact w4 | exact w5 | exact t1 | exact t2 | exact r1 | exact r2 | exact k1 | exact k2 | exact k3 | exact alive_p | exact mkSub_p _ _ _ | exact mkNam_p _ _ _), ?_⟩ | refine ⟨_, _, (by first | assumption | exact w1 | exact w2 | exact w3 | exact w4 | exact w5 | exact t1 | exact t2 | exact r1 | exact r2 | exact k1 | exact k2 | exact k3 | exact alive_p | exact mkSub_p _ _ _ | exact mkNam_p _ _ _), ?_⟩ | refine ⟨_, _, _, RCall.sh (by first | assumption | exact w1 | exact w2 | exact w3 | exact w4 | exact w5 | exact t1 | exact t2 | exact r1 | exact r2 | exact k1 | exact k2 | exact k3 | exact alive_p | exact mkSub_p _ _ _ | exact mkNam_p _ _ _), ?_⟩ | refine ⟨_, _, _, (by first | assumption | exact w1 | exact w2 | exact w3 | exact w4 | exact w5 | exact t1 | exact t2 | exact r1 | exact r2 | exact k1 | exact k2 | exact k3 | exact alive_p | exact mkSub_p _ _ _ | exact mkNam_p _ _ _), ?_⟩ | ((fail_if_success (refine ⟨_, ?_, ?_⟩)); refine ⟨AV.any, ?_⟩) | refine ret_frz rfl ?_ (by simp [push_cast]) (by simp [push_cast]) (by simp [push_cast]) | refine end_frz rfl ?_ (by simp [push_cast]) (by simp [push_cast]) (by simp [push_cast]) | refine ret_now (by simp [push_cast]) ?_ (by simp [push_cast]) | refine end_now (by simp [push_cast]) ?_ (by simp [push_cast])) <;> (try simp only [push_cast, seval, reduceCtorEq, *]))
    | ((first | refine cv_ptE rfl rfl rfl rfl rfl ?_ | refine outQ_frz rfl ?_ (by simp [push_cast]) (by simp [push_cast]) | refine dfr_end (by simp) rfl ?_ (by simp [push_cast]) (by simp [push_cast])) <;> (try simp only [push_cast, seval, reduceCtorEq]))
    | exact cv_slE rfl rfl ⟨rfl, rfl⟩ (by simp) (by simp [take_map_len])
    | refine outQ_pan ?_ (by simp [push_cast])
    | refine outQ_unit ?_
    | refine outQ_unitN ?_
    | refine And.intro ?_ ?_
    | omega)
  all_goals (try simp only [push_cast, seval, reduceCtorEq])
  all_goals first
    | (simp only [*]; done)
    | (simp [*]; done)
    | (simp_all []; done)
    | (simp_all []; omega)
    | skip
  clear w1 w2 w3 w4 w5 a1 a2 a3 a4 a5 t1 t2 r1 r2 k1 k2 k3
  refine w_loopS (fun k : Nat => ([(17, .ros 5 (exs.map clc)), (18, .ros 1 (exW.map intc)), (19, .ros 1 (exI.map intc)), (20, .pt 0 4 0 0), (21, .int .i64 k)], ⟨1, [(0, ⟨4, [bkc (plB sT exs k)]⟩)]⟩)) (fun k => k ≤ 17) (fun k => 17 - k) 0 (by omega) ?_ ?_
  · simp only [plB, exs, exW, exI, List.map_cons, List.map_nil]
    refine Wk.ren (fun i => i == 180 || i == 182 || i == 184) (fun i => (bif i == 0 then 187 else i)) (by simp) (by simp) ?_ ?_ (by simp) <;> (try simp only [push_cast, Nat.reduceBEq, Nat.reduceLeDiff, Nat.reduceAdd]) <;> (repeat' (first | exact trivial | (refine cv_ptE rfl rfl rfl rfl rfl ?_; simp only [push_cast, Nat.reduceBEq, Nat.reduceLeDiff, Nat.reduceAdd]) | exact cv_slE rfl rfl ⟨rfl, rfl⟩ (by simp) (by simp [take_map_len]) | exact cv_slG rfl rfl ⟨rfl, rfl⟩ (by simp) (by first | rfl | (simp; done)) (by first | rfl | (simp; done) | (simp; omega)) (by simp [push_cast]) | exact cv_ros_self (by simp [push_cast]) | exact bel_ros_cl (by simp [push_cast]) | exact nilBk | exact cellsCv_eq (by simp [take_map_len]) (by simp [push_cast]) | refine And.intro ?_ ?_ | rfl | omega | (simp; done) | (simp; omega)))
  intro k hk
  have hlen : exs.length = 17 := rfl
  rcases Nat.lt_or_ge k 17 with hk' | hk'
  · obtain ⟨x, hx⟩ := lt_get (xs := exs) (k := k) (by rw [hlen]; exact hk')
    obtain ⟨w, hw⟩ := lt_get (xs := exW) (k := k) (by exact hk')
    obtain ⟨id, hi⟩ := lt_get (xs := exI) (k := k) (by exact hk')
    obtain ⟨e1, e2⟩ := ex_at k hk'
    rw [show exs.getD k ⟨0, 0, 0, 0, 0⟩ = x by simp [List.getD, hx]] at e1 e2
    rw [show exW.getD k 0 = w by simp [List.getD, hw]] at e1
    rw [show exI.getD k 0 = id by simp [List.getD, hi]] at e2
    obtain ⟨m1, m2⟩ := exs_ok.at hx
    have hs := plB_step (m := sT) hx
    have c1 : PCall prog 24 [.agg (tmc sT), .agg (bkc (plB sT exs k)), .agg (clc x)] (.agg (rsc (progR (plB sT exs k) sT x))) := by
      obtain ⟨s1, s2⟩ := plB_small (m := sT) exs_ok (k := k) (by rw [hlen]; exact hk)
      exact program_p (sT_fit.fit (by omega) (by omega)) x m1
    have c4 := changes_p x
    have c5 := small_p
    have hg1 := getD_map (enc := clc) hx
    have hg2 := getD_map (enc := intc) hw
    have hg3 := getD_map (enc := intc) hi
    have hd : decide ((k : Int) < (17 : Int)) = true := by simp; omega
    have hww := inc64 (k := k) (by omega)
    have hl2 : ((exs.length : Nat) : Int) = 17 := rfl
    have hl3 : ((exW.length : Nat) : Int) = 17 := rfl
    have hl4 : ((exI.length : Nat) : Int) = 17 := rfl
    generalize progR (plB sT exs k) sT x = R at *
    generalize hB : plB sT exs k = B at *
    obtain ⟨Rb, Rid, Ro, Rt, Re⟩ := R
    simp only at e1 e2 hs
    subst e1 e2
    clear hx hw hi m1 m2
    by_cases a1 : x.dv.tmod 7 ≤ 4 <;> by_cases a2 : Re = 0
    · subst a2
      simp only [a1, decide_true, Bool.and_true, cond_true] at hs c4
      (try simp only [push_cast, seval, reduceCtorEq, hg1, hg2, hg3, hd, hww, hl2, hl3, hl4])
      repeat' (first
        | ((first | ((first | refine brX_split ?_ ?_ | refine gX_split ?_ ?_ | refine hX_split ?_ ?_ | refine outK_split ?_ ?_) <;> (intro xc; (try simp only [Bool.not_eq_true', Bool.not_eq_false'] at xc); have xp := xc; (try simp only [decide_eq_true_eq, decide_eq_false_iff_not, Int.not_lt, Int.not_le, ge_iff_le, gt_iff_lt, Bool.and_eq_true, Bool.or_eq_false_iff] at xp); have xq := xp; (first | simp only [← Int.not_le] at xq | simp only [← Int.not_lt] at xq | clear xq))) | refine ⟨.ret _, _, PCall.s (by first | assumption) (by simp [push_cast, hg1, hg2, hg3, hd, hww, hl2, hl3, hl4]), ?_⟩ | refine ⟨.ret _, _, RCall.s (RCall.sh (by first | assumption)) (by simp [push_cast, hg1, hg2, hg3, hd, hww, hl2, hl3, hl4]), ?_⟩ | refine ⟨_, _, SCall.lift (by first | assumption) (outR_cl (by simp [push_cast]) (by simp [push_cast])) (by simp [push_cast, hg1, hg2, hg3, hd, hww, hl2, hl3, hl4]), ?_⟩ | refine ⟨_, (by first | assumption), ?_⟩ | refine ⟨0, [], _, PCall.r (by first | assumption), ?_⟩ | refine ⟨_, _, (by first | assumption), ?_⟩ | refine ⟨_, _, _, RCall.sh (by first | assumption), ?_⟩ | refine ⟨_, _, _, (by first | assumption), ?_⟩ | ((fail_if_success (refine ⟨_, ?_, ?_⟩)); refine ⟨AV.any, ?_⟩) | refine ret_frz rfl ?_ (by simp [push_cast]) (by simp [push_cast, hg1, hg2, hg3, hd, hww, hl2, hl3, hl4]) (by simp [push_cast, hg1, hg2, hg3, hd, hww, hl2, hl3, hl4]) | refine end_frz rfl ?_ (by simp [push_cast]) (by simp [push_cast, hg1, hg2, hg3, hd, hww, hl2, hl3, hl4]) (by simp [push_cast, hg1, hg2, hg3, hd, hww, hl2, hl3, hl4]) | refine ret_now (by simp [push_cast]) ?_ (by simp [push_cast]) | refine end_now (by simp [push_cast]) ?_ (by simp [push_cast])) <;> (try simp only [push_cast, seval, reduceCtorEq, *, hg1, hg2, hg3, hd, hww, hl2, hl3, hl4]))
        | ((first | refine cv_ptE rfl rfl rfl rfl rfl ?_ | refine outQ_frz rfl ?_ (by simp [push_cast]) (by simp [push_cast, hg1, hg2, hg3, hd, hww, hl2, hl3, hl4]) | refine dfr_end (by simp) rfl ?_ (by simp [push_cast]) (by simp [push_cast, hg1, hg2, hg3, hd, hww, hl2, hl3, hl4])) <;> (try simp only [push_cast, seval, reduceCtorEq, hg1, hg2, hg3, hd, hww, hl2, hl3, hl4]))
        | exact cv_slE rfl rfl ⟨rfl, rfl⟩ (by simp) (by simp [take_map_len])
        | refine outQ_pan ?_ (by simp [push_cast])
        | refine outQ_unit ?_
        | refine outQ_unitN ?_
        | refine And.intro ?_ ?_
        | omega)
      all_goals (try simp only [push_cast, seval, reduceCtorEq, hg1, hg2, hg3, hd, hww, hl2, hl3, hl4])
      all_goals first
        | (simp only [*, hg1, hg2, hg3, hd, hww, hl2, hl3, hl4]; done)
        | (simp [*, hg1, hg2, hg3, hd, hww, hl2, hl3, hl4]; done)
        | (simp_all [hg1, hg2, hg3, hd, hww, hl2, hl3, hl4]; done)
        | (simp_all [hg1, hg2, hg3, hd, hww, hl2, hl3, hl4]; omega)
        | skip
      all_goals
        (refine rnd_to _ _ _ (k + 1) hk' (by first | omega | (dsimp only; omega)) ?_; (try simp [hs, hB, List.map_append, accV, accR, accV_snoc, accR_snoc, List.length_append, *]); refine Wk.ren (fun _ => false) (fun i => i) (by simp) (by simp) ?_ ?_ (by simp) <;> (try simp only [push_cast, Nat.reduceBEq, Nat.reduceLeDiff, Nat.reduceAdd]) <;> (repeat' (first | exact trivial | (refine cv_ptE rfl rfl rfl rfl rfl ?_; simp only [push_cast, Nat.reduceBEq, Nat.reduceLeDiff, Nat.reduceAdd]) | exact cv_slE rfl rfl ⟨rfl, rfl⟩ (by simp) (by simp [take_map_len]) | exact cv_slG rfl rfl ⟨rfl, rfl⟩ (by simp) (by first | rfl | (simp; done)) (by first | rfl | (simp; done) | (simp; omega)) (by simp [push_cast]) | exact cv_ros_self (by simp [push_cast]) | exact bel_ros_cl (by simp [push_cast]) | exact nilBk | exact cellsCv_eq (by simp [take_map_len]) (by simp [push_cast]) | refine And.intro ?_ ?_ | rfl | omega | (simp; done) | (simp; omega))))
    all_goals
      simp only [a1, a2, decide_true, decide_false, Bool.and_true, Bool.and_false, Bool.false_and, cond_false] at hs c4
      (try simp only [push_cast, seval, reduceCtorEq, hg1, hg2, hg3, hd, hww, hl2, hl3, hl4])
      repeat' (first
        | ((first | ((first | refine brX_split ?_ ?_ | refine gX_split ?_ ?_ | refine hX_split ?_ ?_ | refine outK_split ?_ ?_) <;> (intro xc; (try simp only [Bool.not_eq_true', Bool.not_eq_false'] at xc); have xp := xc; (try simp only [decide_eq_true_eq, decide_eq_false_iff_not, Int.not_lt, Int.not_le, ge_iff_le, gt_iff_lt, Bool.and_eq_true, Bool.or_eq_false_iff] at xp); have xq := xp; (first | simp only [← Int.not_le] at xq | simp only [← Int.not_lt] at xq | clear xq))) | refine ⟨.ret _, _, PCall.s (by first | assumption) (by simp [push_cast, hg1, hg2, hg3, hd, hww, hl2, hl3, hl4]), ?_⟩ | refine ⟨.ret _, _, RCall.s (RCall.sh (by first | assumption)) (by simp [push_cast, hg1, hg2, hg3, hd, hww, hl2, hl3, hl4]), ?_⟩ | refine ⟨_, _, SCall.lift (by first | assumption) (outR_cl (by simp [push_cast]) (by simp [push_cast])) (by simp [push_cast, hg1, hg2, hg3, hd, hww, hl2, hl3, hl4]), ?_⟩ | refine ⟨_, (by first | assumption), ?_⟩ | refine ⟨0, [], _, PCall.r (by first | assumption), ?_⟩ | refine ⟨_, _, (by first | assumption), ?_⟩ | refine ⟨_, _, _, RCall.sh (by first | assumption), ?_⟩ | refine ⟨_, _, _, (by first | assumption), ?_⟩ | ((fail_if_success (refine ⟨_, ?_, ?_⟩)); refine ⟨AV.any, ?_⟩) | refine ret_frz rfl ?_ (by simp [push_cast]) (by simp [push_cast, hg1, hg2, hg3, hd, hww, hl2, hl3, hl4]) (by simp [push_cast, hg1, hg2, hg3, hd, hww, hl2, hl3, hl4]) | refine end_frz rfl ?_ (by simp [push_cast]) (by simp [push_cast, hg1, hg2, hg3, hd, hww, hl2, hl3, hl4]) (by simp [push_cast, hg1, hg2, hg3, hd, hww, hl2, hl3, hl4]) | refine ret_now (by simp [push_cast]) ?_ (by simp [push_cast]) | refine end_now (by simp [push_cast]) ?_ (by simp [push_cast])) <;> (try simp only [push_cast, seval, reduceCtorEq, *, hg1, hg2, hg3, hd, hww, hl2, hl3, hl4]))
        | ((first | refine cv_ptE rfl rfl rfl rfl rfl ?_ | refine outQ_frz rfl ?_ (by simp [push_cast]) (by simp [push_cast, hg1, hg2, hg3, hd, hww, hl2, hl3, hl4]) | refine dfr_end (by simp) rfl ?_ (by simp [push_cast]) (by simp [push_cast, hg1, hg2, hg3, hd, hww, hl2, hl3, hl4])) <;> (try simp only [push_cast, seval, reduceCtorEq, hg1, hg2, hg3, hd, hww, hl2, hl3, hl4]))
        | exact cv_slE rfl rfl ⟨rfl, rfl⟩ (by simp) (by simp [take_map_len])
        | refine outQ_pan ?_ (by simp [push_cast])
        | refine outQ_unit ?_
        | refine outQ_unitN ?_
        | refine And.intro ?_ ?_
        | omega)
      all_goals (try simp only [push_cast, seval, reduceCtorEq, hg1, hg2, hg3, hd, hww, hl2, hl3, hl4])
      all_goals first
        | (simp only [*, hg1, hg2, hg3, hd, hww, hl2, hl3, hl4]; done)
        | (simp [*, hg1, hg2, hg3, hd, hww, hl2, hl3, hl4]; done)
        | (simp_all [hg1, hg2, hg3, hd, hww, hl2, hl3, hl4]; done)
        | (simp_all [hg1, hg2, hg3, hd, hww, hl2, hl3, hl4]; omega)
        | skip
      all_goals
        (refine rnd_to _ _ _ (k + 1) hk' (by first | omega | (dsimp only; omega)) ?_; (try simp [hs, hB, List.map_append, accV, accR, accV_snoc, accR_snoc, List.length_append, *]); refine Wk.ren (fun _ => false) (fun i => i) (by simp) (by simp) ?_ ?_ (by simp) <;> (try simp only [push_cast, Nat.reduceBEq, Nat.reduceLeDiff, Nat.reduceAdd]) <;> (repeat' (first | exact trivial | (refine cv_ptE rfl rfl rfl rfl rfl ?_; simp only [push_cast, Nat.reduceBEq, Nat.reduceLeDiff, Nat.reduceAdd]) | exact cv_slE rfl rfl ⟨rfl, rfl⟩ (by simp) (by simp [take_map_len]) | exact cv_slG rfl rfl ⟨rfl, rfl⟩ (by simp) (by first | rfl | (simp; done)) (by first | rfl | (simp; done) | (simp; omega)) (by simp [push_cast]) | exact cv_ros_self (by simp [push_cast]) | exact bel_ros_cl (by simp [push_cast]) | exact nilBk | exact cellsCv_eq (by simp [take_map_len]) (by simp [push_cast]) | refine And.intro ?_ ?_ | rfl | omega | (simp; done) | (simp; omega))))
  · have hd : decide ((k : Int) < (17 : Int)) = false := by simp; omega
    obtain rfl : k = 17 := by omega
    have hl2 : ((exs.length : Nat) : Int) = 17 := rfl
    have c5 := small_p
    have c1 := totals_p (sT_fit.fit (b := plB sT exs 17) (by have := (plB_small (m := sT) exs_ok (k := 17) (by rw [hlen]; exact Nat.le_refl _)).1; omega) (by have := (plB_small (m := sT) exs_ok (k := 17) (by rw [hlen]; exact Nat.le_refl _)).2; omega))
    rw [ex_end.1, ex_end.2] at c1
    have c2 : PCall prog 28 [.agg (tmc sT), .agg zbk, .int .i64 2, .int .i64 0, .int .u64 3] (.tup [.agg (bkc zB), .int .i64 0, .int .i64 2]) := sub_nil sT sT_fit 2 0 3
    have c3 : PCall prog 28 [.agg (tmc sT), .agg zbk, .int .i64 0, .int .i64 1, .int .u64 3] (.tup [.agg (bkc zB), .int .i64 0, .int .i64 2]) := sub_nil sT sT_fit 0 1 3
    have c6 : PCall prog 29 [.agg (tmc sT9), .agg zbk] (.int .i64 70) := chk_nil sT9 sT_fit9
    generalize plB sT exs 17 = B at *
    simp only [sT, sT9] at c1 c2 c3 c5 c6
    (try simp only [push_cast, seval, reduceCtorEq, hd, hl2])
    repeat' (first
      | ((first | ((first | refine brX_split ?_ ?_ | refine gX_split ?_ ?_ | refine hX_split ?_ ?_ | refine outK_split ?_ ?_) <;> (intro xc; (try simp only [Bool.not_eq_true', Bool.not_eq_false'] at xc); have xp := xc; (try simp only [decide_eq_true_eq, decide_eq_false_iff_not, Int.not_lt, Int.not_le, ge_iff_le, gt_iff_lt, Bool.and_eq_true, Bool.or_eq_false_iff] at xp); have xq := xp; (first | simp only [← Int.not_le] at xq | simp only [← Int.not_lt] at xq | clear xq))) | refine ⟨.ret _, _, PCall.s (by first | assumption) (by simp [push_cast, hd, hl2]), ?_⟩ | refine ⟨.ret _, _, RCall.s (RCall.sh (by first | assumption)) (by simp [push_cast, hd, hl2]), ?_⟩ | refine ⟨_, _, SCall.lift (by first | assumption) (outR_cl (by simp [push_cast]) (by simp [push_cast])) (by simp [push_cast, hd, hl2]), ?_⟩ | refine ⟨_, (by first | assumption), ?_⟩ | refine ⟨0, [], _, PCall.r (by first | assumption), ?_⟩ | refine ⟨_, _, (by first | assumption), ?_⟩ | refine ⟨_, _, _, RCall.sh (by first | assumption), ?_⟩ | refine ⟨_, _, _, (by first | assumption), ?_⟩ | ((fail_if_success (refine ⟨_, ?_, ?_⟩)); refine ⟨AV.any, ?_⟩) | refine ret_frz rfl ?_ (by simp [push_cast]) (by simp [push_cast, hd, hl2]) (by simp [push_cast, hd, hl2]) | refine end_frz rfl ?_ (by simp [push_cast]) (by simp [push_cast, hd, hl2]) (by simp [push_cast, hd, hl2]) | refine ret_now (by simp [push_cast]) ?_ (by simp [push_cast]) | refine end_now (by simp [push_cast]) ?_ (by simp [push_cast])) <;> (try simp only [push_cast, seval, reduceCtorEq, *, hd, hl2]))
      | ((first | refine cv_ptE rfl rfl rfl rfl rfl ?_ | refine outQ_frz rfl ?_ (by simp [push_cast]) (by simp [push_cast, hd, hl2]) | refine dfr_end (by simp) rfl ?_ (by simp [push_cast]) (by simp [push_cast, hd, hl2])) <;> (try simp only [push_cast, seval, reduceCtorEq, hd, hl2]))
      | exact cv_slE rfl rfl ⟨rfl, rfl⟩ (by simp) (by simp [take_map_len])
      | refine outQ_pan ?_ (by simp [push_cast])
      | refine outQ_unit ?_
      | refine outQ_unitN ?_
      | refine And.intro ?_ ?_
      | omega)
    all_goals (try simp only [push_cast, seval, reduceCtorEq, hd, hl2])
    all_goals first
      | (simp only [*, hd, hl2]; done)
      | (simp [*, hd, hl2]; done)
      | (simp_all [hd, hl2]; done)
      | (simp_all [hd, hl2]; omega)
      | skip
end Go.Proofs.Ytffiicopifmmfaa
