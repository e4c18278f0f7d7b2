/- Facts of the program over abstract values. No condition. -/
import Derived.Test.YtffiicopifmmfaaZg
set_option linter.unusedSimpArgs false
set_option maxRecDepth 8000
namespace Go.Proofs.Ytffiicopifmmfaa
set_option linter.unusedSimpArgs false
set_option linter.unusedVariables false
set_option linter.unnecessarySimpa false
set_option linter.unusedSectionVars false
open Go.Proofs.Try
open Go.Proofs.Ytffiicopifmmfaa.Ai
set_option maxHeartbeats 4000000

theorem checkBook_v {oV qV : AV} {b : Bk} {m : Tm} (hO : isSl 6 oV (b.os.map oc)) (hQ : isSl 1 qV (b.q.map intc)) (h : Fit b m) : PCall prog 29 [.agg (tmc m), .agg (bkv oV qV b)] (.int .i64 (bookE b m)) := by
  have c1 := isSl_cl hO (cl_os _)
  have c2 := isSl_cl hQ (cl_is _)
  have hk := check_v hO hQ h
  have o1 : oV.one = True := eq_true (isSl_one hO)
  have o2 : qV.one = True := eq_true (isSl_one hQ)
  clear hO hQ
  obtain ⟨c, hb, hl⟩ := l29
  refine pcall_of mixed e29 hb rfl hl r29 (by rw [n29]; simp) ?_
  clear hb hl c
  (try simp only [push_cast, seval, reduceCtorEq, c1, c2, o1, o2])
  repeat' (first
    | ((first | ((first | refine brX_split ?_ ?_ | refine gX_split ?_ ?_ | refine hX_split ?_ ?_ | refine outK_split ?_ ?_) <;> (intro xc; (try simp only [Bool.not_eq_true', Bool.not_eq_false'] at xc); have xp := xc; (try simp only [decide_eq_true_eq, decide_eq_false_iff_not, Int.not_lt, Int.not_le, ge_iff_le, gt_iff_lt, Bool.and_eq_true, Bool.or_eq_false_iff] at xp); have xq := xp; (first | simp only [← Int.not_le] at xq | simp only [← Int.not_lt] at xq | clear xq))) | refine ⟨.ret _, _, PCall.s (by first | assumption) (by simp [push_cast, c1, c2, o1, o2]), ?_⟩ | refine ⟨.ret _, _, RCall.s (RCall.sh (by first | assumption)) (by simp [push_cast, c1, c2, o1, o2]), ?_⟩ | refine ⟨_, _, SCall.lift (by first | assumption) (outR_cl (by simp [push_cast]) (by simp [push_cast])) (by simp [push_cast, c1, c2, o1, o2]), ?_⟩ | refine ⟨_, (by first | assumption), ?_⟩ | refine ⟨0, [], _, PCall.r (by first | assumption), ?_⟩ | refine ⟨_, _, (by first | assumption), ?_⟩ | refine ⟨_, _, _, RCall.sh (by first | assumption), ?_⟩ | refine ⟨_, _, _, (by first | assumption), ?_⟩ | ((fail_if_success (refine ⟨_, ?_, ?_⟩)); refine ⟨AV.any, ?_⟩) | refine ret_frz rfl ?_ (by simp [push_cast]) (by simp [push_cast, c1, c2, o1, o2]) (by simp [push_cast, c1, c2, o1, o2]) | refine end_frz rfl ?_ (by simp [push_cast]) (by simp [push_cast, c1, c2, o1, o2]) (by simp [push_cast, c1, c2, o1, o2]) | refine ret_now (by simp [push_cast]) ?_ (by simp [push_cast]) | refine end_now (by simp [push_cast]) ?_ (by simp [push_cast])) <;> (try simp only [push_cast, seval, reduceCtorEq, *, c1, c2, o1, o2]))
    | ((first | refine cv_ptE rfl rfl rfl rfl rfl ?_ | refine outQ_frz rfl ?_ (by simp [push_cast]) (by simp [push_cast, c1, c2, o1, o2]) | refine dfr_end (by simp) rfl ?_ (by simp [push_cast]) (by simp [push_cast, c1, c2, o1, o2])) <;> (try simp only [push_cast, seval, reduceCtorEq, c1, c2, o1, o2]))
    | exact cv_slE rfl rfl ⟨rfl, rfl⟩ (by simp) (by simp [take_map_len])
    | refine outQ_pan ?_ (by simp [push_cast])
    | refine outQ_unit ?_
    | refine outQ_unitN ?_
    | refine And.intro ?_ ?_
    | omega)
  all_goals (try simp only [push_cast, seval, reduceCtorEq, c1, c2, o1, o2])
  all_goals first
    | (simp only [*, c1, c2, o1, o2]; done)
    | (simp [*, c1, c2, o1, o2]; done)
    | (simp_all [c1, c2, o1, o2]; done)
    | (simp_all [c1, c2, o1, o2]; omega)
    | skip
def newE (i p d a : Int) : Int := bif decide (chkE i p d 1 a 0 = 0) then 0 else 2
def selI (b : Bool) (x y : Int) : Int := bif b then x else y
abbrev zoc : List AV := [.int .i64 0, .int .i64 0, .int .i64 0, .int .u8 0, .int .u64 0, .int .u64 0]
theorem new_ok (i p d a : Int) (h : chkE i p d 1 a 0 = 0) : PCall prog 16 [.int .i64 i, .int .i64 p, .int .i64 d, .int .u64 a] (.tup [.agg (oc ⟨i, p, d, 1, a, 0⟩), .int .i64 0]) := by
  obtain ⟨c, hb, hl⟩ := l16
  refine pcall_of mixed e16 hb rfl hl r16 (by rw [n16]; simp) ?_
  clear hb hl c
  (try simp only [push_cast, seval, reduceCtorEq, h])
  repeat' (first
    | ((first | ((first | refine brX_split ?_ ?_ | refine gX_split ?_ ?_ | refine hX_split ?_ ?_ | refine outK_split ?_ ?_) <;> (intro xc; (try simp only [Bool.not_eq_true', Bool.not_eq_false'] at xc); have xp := xc; (try simp only [decide_eq_true_eq, decide_eq_false_iff_not, Int.not_lt, Int.not_le, ge_iff_le, gt_iff_lt, Bool.and_eq_true, Bool.or_eq_false_iff] at xp); have xq := xp; (first | simp only [← Int.not_le] at xq | simp only [← Int.not_lt] at xq | clear xq))) | refine ⟨.ret _, _, PCall.s (by first | exact check_p _ _ _ _ _ _) (by simp [push_cast, h]), ?_⟩ | refine ⟨.ret _, _, RCall.s (RCall.sh (by first | exact check_p _ _ _ _ _ _)) (by simp [push_cast, h]), ?_⟩ | refine ⟨_, _, SCall.lift (by first | exact check_p _ _ _ _ _ _) (outR_cl (by simp [push_cast]) (by simp [push_cast])) (by simp [push_cast, h]), ?_⟩ | refine ⟨_, (by first | exact check_p _ _ _ _ _ _), ?_⟩ | refine ⟨0, [], _, PCall.r (by first | exact check_p _ _ _ _ _ _), ?_⟩ | refine ⟨_, _, (by first | exact check_p _ _ _ _ _ _), ?_⟩ | refine ⟨_, _, _, RCall.sh (by first | exact check_p _ _ _ _ _ _), ?_⟩ | refine ⟨_, _, _, (by first | exact check_p _ _ _ _ _ _), ?_⟩ | ((fail_if_success (refine ⟨_, ?_, ?_⟩)); refine ⟨AV.any, ?_⟩) | refine ret_frz rfl ?_ (by simp [push_cast]) (by simp [push_cast, h]) (by simp [push_cast, h]) | refine end_frz rfl ?_ (by simp [push_cast]) (by simp [push_cast, h]) (by simp [push_cast, h]) | refine ret_now (by simp [push_cast]) ?_ (by simp [push_cast]) | refine end_now (by simp [push_cast]) ?_ (by simp [push_cast])) <;> (try simp only [push_cast, seval, reduceCtorEq, *, h]))
    | ((first | refine cv_ptE rfl rfl rfl rfl rfl ?_ | refine outQ_frz rfl ?_ (by simp [push_cast]) (by simp [push_cast, h]) | refine dfr_end (by simp) rfl ?_ (by simp [push_cast]) (by simp [push_cast, h])) <;> (try simp only [push_cast, seval, reduceCtorEq, h]))
    | exact cv_slE rfl rfl ⟨rfl, rfl⟩ (by simp) (by simp [take_map_len])
    | refine outQ_pan ?_ (by simp [push_cast])
    | refine outQ_unit ?_
    | refine outQ_unitN ?_
    | refine And.intro ?_ ?_
    | omega)
  all_goals (try simp only [push_cast, seval, reduceCtorEq, h])
  all_goals first
    | (simp only [*, h]; done)
    | (simp [*, h]; done)
    | (simp_all [h]; done)
    | (simp_all [h]; omega)
    | skip
theorem new_bad (i p d a : Int) (h : ¬ chkE i p d 1 a 0 = 0) : PCall prog 16 [.int .i64 i, .int .i64 p, .int .i64 d, .int .u64 a] (.tup [.agg zoc, .int .i64 2]) := by
  obtain ⟨c, hb, hl⟩ := l16
  refine pcall_of mixed e16 hb rfl hl r16 (by rw [n16]; simp) ?_
  clear hb hl c
  (try simp only [push_cast, seval, reduceCtorEq, h])
  repeat' (first
    | ((first | ((first | refine brX_split ?_ ?_ | refine gX_split ?_ ?_ | refine hX_split ?_ ?_ | refine outK_split ?_ ?_) <;> (intro xc; (try simp only [Bool.not_eq_true', Bool.not_eq_false'] at xc); have xp := xc; (try simp only [decide_eq_true_eq, decide_eq_false_iff_not, Int.not_lt, Int.not_le, ge_iff_le, gt_iff_lt, Bool.and_eq_true, Bool.or_eq_false_iff] at xp); have xq := xp; (first | simp only [← Int.not_le] at xq | simp only [← Int.not_lt] at xq | clear xq))) | refine ⟨.ret _, _, PCall.s (by first | exact check_p _ _ _ _ _ _) (by simp [push_cast, h]), ?_⟩ | refine ⟨.ret _, _, RCall.s (RCall.sh (by first | exact check_p _ _ _ _ _ _)) (by simp [push_cast, h]), ?_⟩ | refine ⟨_, _, SCall.lift (by first | exact check_p _ _ _ _ _ _) (outR_cl (by simp [push_cast]) (by simp [push_cast])) (by simp [push_cast, h]), ?_⟩ | refine ⟨_, (by first | exact check_p _ _ _ _ _ _), ?_⟩ | refine ⟨0, [], _, PCall.r (by first | exact check_p _ _ _ _ _ _), ?_⟩ | refine ⟨_, _, (by first | exact check_p _ _ _ _ _ _), ?_⟩ | refine ⟨_, _, _, RCall.sh (by first | exact check_p _ _ _ _ _ _), ?_⟩ | refine ⟨_, _, _, (by first | exact check_p _ _ _ _ _ _), ?_⟩ | ((fail_if_success (refine ⟨_, ?_, ?_⟩)); refine ⟨AV.any, ?_⟩) | refine ret_frz rfl ?_ (by simp [push_cast]) (by simp [push_cast, h]) (by simp [push_cast, h]) | refine end_frz rfl ?_ (by simp [push_cast]) (by simp [push_cast, h]) (by simp [push_cast, h]) | refine ret_now (by simp [push_cast]) ?_ (by simp [push_cast]) | refine end_now (by simp [push_cast]) ?_ (by simp [push_cast])) <;> (try simp only [push_cast, seval, reduceCtorEq, *, h]))
    | ((first | refine cv_ptE rfl rfl rfl rfl rfl ?_ | refine outQ_frz rfl ?_ (by simp [push_cast]) (by simp [push_cast, h]) | refine dfr_end (by simp) rfl ?_ (by simp [push_cast]) (by simp [push_cast, h])) <;> (try simp only [push_cast, seval, reduceCtorEq, h]))
    | exact cv_slE rfl rfl ⟨rfl, rfl⟩ (by simp) (by simp [take_map_len])
    | refine outQ_pan ?_ (by simp [push_cast])
    | refine outQ_unit ?_
    | refine outQ_unitN ?_
    | refine And.intro ?_ ?_
    | omega)
  all_goals (try simp only [push_cast, seval, reduceCtorEq, h])
  all_goals first
    | (simp only [*, h]; done)
    | (simp [*, h]; done)
    | (simp_all [h]; done)
    | (simp_all [h]; omega)
    | skip
def argB (st now : Int) : Bool := stateB st && decide (now ≤ 4611686018427387904) && !(decide (st = 4) && decide (now = 0))
def advE (o : O) (st now : Int) : Int :=
  bif decide (chkE o.i o.p o.d o.s o.a o.f = 0) then (bif argB st now then (bif followsB o.s st then 0 else 150) else 2) else chkE o.i o.p o.d o.s o.a o.f
def advO (o : O) (st now : Int) : O := ⟨o.i, o.p, o.d, st, o.a, selI (decide (st = 4)) now o.f⟩
theorem adv_ok (o : O) (st now : Int) (h : advE o st now = 0) : PCall prog 18 [.agg (oc o), .int .u8 st, .int .u64 now] (.tup [.agg (oc (advO o st now)), .int .i64 0]) := by
  obtain ⟨i, p, d, s, a, f⟩ := o
  by_cases h4 : st = 4
  · subst h4
    obtain ⟨c, hb, hl⟩ := l18
    refine pcall_of mixed e18 hb rfl hl r18 (by rw [n18]; simp) ?_
    clear hb hl c
    (try simp only [push_cast, seval, reduceCtorEq])
    repeat' (first
      | ((first | ((first | refine brX_split ?_ ?_ | refine gX_split ?_ ?_ | refine hX_split ?_ ?_ | refine outK_split ?_ ?_) <;> (intro xc; (try simp only [Bool.not_eq_true', Bool.not_eq_false'] at xc); have xp := xc; (try simp only [decide_eq_true_eq, decide_eq_false_iff_not, Int.not_lt, Int.not_le, ge_iff_le, gt_iff_lt, Bool.and_eq_true, Bool.or_eq_false_iff] at xp); have xq := xp; (first | simp only [← Int.not_le] at xq | simp only [← Int.not_lt] at xq | clear xq))) | refine ⟨.ret _, _, PCall.s (by first | exact check_p _ _ _ _ _ _ | exact isState_p _ | exact follows_p _ _) (by simp [push_cast]), ?_⟩ | refine ⟨.ret _, _, RCall.s (RCall.sh (by first | exact check_p _ _ _ _ _ _ | exact isState_p _ | exact follows_p _ _)) (by simp [push_cast]), ?_⟩ | refine ⟨_, _, SCall.lift (by first | exact check_p _ _ _ _ _ _ | exact isState_p _ | exact follows_p _ _) (outR_cl (by simp [push_cast]) (by simp [push_cast])) (by simp [push_cast]), ?_⟩ | refine ⟨_, (by first | exact check_p _ _ _ _ _ _ | exact isState_p _ | exact follows_p _ _), ?_⟩ | refine ⟨0, [], _, PCall.r (by first | exact check_p _ _ _ _ _ _ | exact isState_p _ | exact follows_p _ _), ?_⟩ | refine ⟨_, _, (by first | exact check_p _ _ _ _ _ _ | exact isState_p _ | exact follows_p _ _), ?_⟩ | refine ⟨_, _, _, RCall.sh (by first | exact check_p _ _ _ _ _ _ | exact isState_p _ | exact follows_p _ _), ?_⟩ | refine ⟨_, _, _, (by first | exact check_p _ _ _ _ _ _ | exact isState_p _ | exact follows_p _ _), ?_⟩ | ((fail_if_success (refine ⟨_, ?_, ?_⟩)); refine ⟨AV.any, ?_⟩) | refine ret_frz rfl ?_ (by simp [push_cast]) (by simp [push_cast]) (by simp [push_cast]) | refine end_frz rfl ?_ (by simp [push_cast]) (by simp [push_cast]) (by simp [push_cast]) | refine ret_now (by simp [push_cast]) ?_ (by simp [push_cast]) | refine end_now (by simp [push_cast]) ?_ (by simp [push_cast])) <;> (try simp only [push_cast, seval, reduceCtorEq, *]))
      | ((first | refine cv_ptE rfl rfl rfl rfl rfl ?_ | refine outQ_frz rfl ?_ (by simp [push_cast]) (by simp [push_cast]) | refine dfr_end (by simp) rfl ?_ (by simp [push_cast]) (by simp [push_cast])) <;> (try simp only [push_cast, seval, reduceCtorEq]))
      | exact cv_slE rfl rfl ⟨rfl, rfl⟩ (by simp) (by simp [take_map_len])
      | refine outQ_pan ?_ (by simp [push_cast])
      | refine outQ_unit ?_
      | refine outQ_unitN ?_
      | refine And.intro ?_ ?_
      | omega)
    all_goals (try simp only [push_cast, seval, reduceCtorEq, advE, advO, argB, selI])
    all_goals first
      | (simp only [*, advE, advO, argB, selI]; done)
      | (simp [*, advE, advO, argB, selI]; done)
      | (simp_all [advE, advO, argB, selI]; done)
      | (simp_all [advE, advO, argB, selI]; omega)
      | skip
  · obtain ⟨c, hb, hl⟩ := l18
    refine pcall_of mixed e18 hb rfl hl r18 (by rw [n18]; simp) ?_
    clear hb hl c
    (try simp only [push_cast, seval, reduceCtorEq, h4])
    repeat' (first
      | ((first | ((first | refine brX_split ?_ ?_ | refine gX_split ?_ ?_ | refine hX_split ?_ ?_ | refine outK_split ?_ ?_) <;> (intro xc; (try simp only [Bool.not_eq_true', Bool.not_eq_false'] at xc); have xp := xc; (try simp only [decide_eq_true_eq, decide_eq_false_iff_not, Int.not_lt, Int.not_le, ge_iff_le, gt_iff_lt, Bool.and_eq_true, Bool.or_eq_false_iff] at xp); have xq := xp; (first | simp only [← Int.not_le] at xq | simp only [← Int.not_lt] at xq | clear xq))) | refine ⟨.ret _, _, PCall.s (by first | exact check_p _ _ _ _ _ _ | exact isState_p _ | exact follows_p _ _) (by simp [push_cast, h4]), ?_⟩ | refine ⟨.ret _, _, RCall.s (RCall.sh (by first | exact check_p _ _ _ _ _ _ | exact isState_p _ | exact follows_p _ _)) (by simp [push_cast, h4]), ?_⟩ | refine ⟨_, _, SCall.lift (by first | exact check_p _ _ _ _ _ _ | exact isState_p _ | exact follows_p _ _) (outR_cl (by simp [push_cast]) (by simp [push_cast])) (by simp [push_cast, h4]), ?_⟩ | refine ⟨_, (by first | exact check_p _ _ _ _ _ _ | exact isState_p _ | exact follows_p _ _), ?_⟩ | refine ⟨0, [], _, PCall.r (by first | exact check_p _ _ _ _ _ _ | exact isState_p _ | exact follows_p _ _), ?_⟩ | refine ⟨_, _, (by first | exact check_p _ _ _ _ _ _ | exact isState_p _ | exact follows_p _ _), ?_⟩ | refine ⟨_, _, _, RCall.sh (by first | exact check_p _ _ _ _ _ _ | exact isState_p _ | exact follows_p _ _), ?_⟩ | refine ⟨_, _, _, (by first | exact check_p _ _ _ _ _ _ | exact isState_p _ | exact follows_p _ _), ?_⟩ | ((fail_if_success (refine ⟨_, ?_, ?_⟩)); refine ⟨AV.any, ?_⟩) | refine ret_frz rfl ?_ (by simp [push_cast]) (by simp [push_cast, h4]) (by simp [push_cast, h4]) | refine end_frz rfl ?_ (by simp [push_cast]) (by simp [push_cast, h4]) (by simp [push_cast, h4]) | refine ret_now (by simp [push_cast]) ?_ (by simp [push_cast]) | refine end_now (by simp [push_cast]) ?_ (by simp [push_cast])) <;> (try simp only [push_cast, seval, reduceCtorEq, *, h4]))
      | ((first | refine cv_ptE rfl rfl rfl rfl rfl ?_ | refine outQ_frz rfl ?_ (by simp [push_cast]) (by simp [push_cast, h4]) | refine dfr_end (by simp) rfl ?_ (by simp [push_cast]) (by simp [push_cast, h4])) <;> (try simp only [push_cast, seval, reduceCtorEq, h4]))
      | exact cv_slE rfl rfl ⟨rfl, rfl⟩ (by simp) (by simp [take_map_len])
      | refine outQ_pan ?_ (by simp [push_cast])
      | refine outQ_unit ?_
      | refine outQ_unitN ?_
      | refine And.intro ?_ ?_
      | omega)
    all_goals (try simp only [push_cast, seval, reduceCtorEq, h4, advE, advO, argB, selI])
    all_goals first
      | (simp only [*, h4, advE, advO, argB, selI]; done)
      | (simp [*, h4, advE, advO, argB, selI]; done)
      | (simp_all [h4, advE, advO, argB, selI]; done)
      | (simp_all [h4, advE, advO, argB, selI]; omega)
      | skip
theorem adv_bad (o : O) (st now : Int) (h : ¬ advE o st now = 0) : PCall prog 18 [.agg (oc o), .int .u8 st, .int .u64 now] (.tup [.agg zoc, .int .i64 (advE o st now)]) := by
  obtain ⟨i, p, d, s, a, f⟩ := o
  by_cases h4 : st = 4
  · subst h4
    obtain ⟨c, hb, hl⟩ := l18
    refine pcall_of mixed e18 hb rfl hl r18 (by rw [n18]; simp) ?_
    clear hb hl c
    (try simp only [push_cast, seval, reduceCtorEq])
    repeat' (first
      | ((first | ((first | refine brX_split ?_ ?_ | refine gX_split ?_ ?_ | refine hX_split ?_ ?_ | refine outK_split ?_ ?_) <;> (intro xc; (try simp only [Bool.not_eq_true', Bool.not_eq_false'] at xc); have xp := xc; (try simp only [decide_eq_true_eq, decide_eq_false_iff_not, Int.not_lt, Int.not_le, ge_iff_le, gt_iff_lt, Bool.and_eq_true, Bool.or_eq_false_iff] at xp); have xq := xp; (first | simp only [← Int.not_le] at xq | simp only [← Int.not_lt] at xq | clear xq))) | refine ⟨.ret _, _, PCall.s (by first | exact check_p _ _ _ _ _ _ | exact isState_p _ | exact follows_p _ _) (by simp [push_cast]), ?_⟩ | refine ⟨.ret _, _, RCall.s (RCall.sh (by first | exact check_p _ _ _ _ _ _ | exact isState_p _ | exact follows_p _ _)) (by simp [push_cast]), ?_⟩ | refine ⟨_, _, SCall.lift (by first | exact check_p _ _ _ _ _ _ | exact isState_p _ | exact follows_p _ _) (outR_cl (by simp [push_cast]) (by simp [push_cast])) (by simp [push_cast]), ?_⟩ | refine ⟨_, (by first | exact check_p _ _ _ _ _ _ | exact isState_p _ | exact follows_p _ _), ?_⟩ | refine ⟨0, [], _, PCall.r (by first | exact check_p _ _ _ _ _ _ | exact isState_p _ | exact follows_p _ _), ?_⟩ | refine ⟨_, _, (by first | exact check_p _ _ _ _ _ _ | exact isState_p _ | exact follows_p _ _), ?_⟩ | refine ⟨_, _, _, RCall.sh (by first | exact check_p _ _ _ _ _ _ | exact isState_p _ | exact follows_p _ _), ?_⟩ | refine ⟨_, _, _, (by first | exact check_p _ _ _ _ _ _ | exact isState_p _ | exact follows_p _ _), ?_⟩ | ((fail_if_success (refine ⟨_, ?_, ?_⟩)); refine ⟨AV.any, ?_⟩) | refine ret_frz rfl ?_ (by simp [push_cast]) (by simp [push_cast]) (by simp [push_cast]) | refine end_frz rfl ?_ (by simp [push_cast]) (by simp [push_cast]) (by simp [push_cast]) | refine ret_now (by simp [push_cast]) ?_ (by simp [push_cast]) | refine end_now (by simp [push_cast]) ?_ (by simp [push_cast])) <;> (try simp only [push_cast, seval, reduceCtorEq, *]))
      | ((first | refine cv_ptE rfl rfl rfl rfl rfl ?_ | refine outQ_frz rfl ?_ (by simp [push_cast]) (by simp [push_cast]) | refine dfr_end (by simp) rfl ?_ (by simp [push_cast]) (by simp [push_cast])) <;> (try simp only [push_cast, seval, reduceCtorEq]))
      | exact cv_slE rfl rfl ⟨rfl, rfl⟩ (by simp) (by simp [take_map_len])
      | refine outQ_pan ?_ (by simp [push_cast])
      | refine outQ_unit ?_
      | refine outQ_unitN ?_
      | refine And.intro ?_ ?_
      | omega)
    all_goals (try simp only [push_cast, seval, reduceCtorEq, advE, advO, argB, selI])
    all_goals first
      | (simp only [*, advE, advO, argB, selI]; done)
      | (simp [*, advE, advO, argB, selI]; done)
      | (simp_all [advE, advO, argB, selI]; done)
      | (simp_all [advE, advO, argB, selI]; omega)
      | skip
  · obtain ⟨c, hb, hl⟩ := l18
    refine pcall_of mixed e18 hb rfl hl r18 (by rw [n18]; simp) ?_
    clear hb hl c
    (try simp only [push_cast, seval, reduceCtorEq, h4])
    repeat' (first
      | ((first | ((first | refine brX_split ?_ ?_ | refine gX_split ?_ ?_ | refine hX_split ?_ ?_ | refine outK_split ?_ ?_) <;> (intro xc; (try simp only [Bool.not_eq_true', Bool.not_eq_false'] at xc); have xp := xc; (try simp only [decide_eq_true_eq, decide_eq_false_iff_not, Int.not_lt, Int.not_le, ge_iff_le, gt_iff_lt, Bool.and_eq_true, Bool.or_eq_false_iff] at xp); have xq := xp; (first | simp only [← Int.not_le] at xq | simp only [← Int.not_lt] at xq | clear xq))) | refine ⟨.ret _, _, PCall.s (by first | exact check_p _ _ _ _ _ _ | exact isState_p _ | exact follows_p _ _) (by simp [push_cast, h4]), ?_⟩ | refine ⟨.ret _, _, RCall.s (RCall.sh (by first | exact check_p _ _ _ _ _ _ | exact isState_p _ | exact follows_p _ _)) (by simp [push_cast, h4]), ?_⟩ | refine ⟨_, _, SCall.lift (by first | exact check_p _ _ _ _ _ _ | exact isState_p _ | exact follows_p _ _) (outR_cl (by simp [push_cast]) (by simp [push_cast])) (by simp [push_cast, h4]), ?_⟩ | refine ⟨_, (by first | exact check_p _ _ _ _ _ _ | exact isState_p _ | exact follows_p _ _), ?_⟩ | refine ⟨0, [], _, PCall.r (by first | exact check_p _ _ _ _ _ _ | exact isState_p _ | exact follows_p _ _), ?_⟩ | refine ⟨_, _, (by first | exact check_p _ _ _ _ _ _ | exact isState_p _ | exact follows_p _ _), ?_⟩ | refine ⟨_, _, _, RCall.sh (by first | exact check_p _ _ _ _ _ _ | exact isState_p _ | exact follows_p _ _), ?_⟩ | refine ⟨_, _, _, (by first | exact check_p _ _ _ _ _ _ | exact isState_p _ | exact follows_p _ _), ?_⟩ | ((fail_if_success (refine ⟨_, ?_, ?_⟩)); refine ⟨AV.any, ?_⟩) | refine ret_frz rfl ?_ (by simp [push_cast]) (by simp [push_cast, h4]) (by simp [push_cast, h4]) | refine end_frz rfl ?_ (by simp [push_cast]) (by simp [push_cast, h4]) (by simp [push_cast, h4]) | refine ret_now (by simp [push_cast]) ?_ (by simp [push_cast]) | refine end_now (by simp [push_cast]) ?_ (by simp [push_cast])) <;> (try simp only [push_cast, seval, reduceCtorEq, *, h4]))
      | ((first | refine cv_ptE rfl rfl rfl rfl rfl ?_ | refine outQ_frz rfl ?_ (by simp [push_cast]) (by simp [push_cast, h4]) | refine dfr_end (by simp) rfl ?_ (by simp [push_cast]) (by simp [push_cast, h4])) <;> (try simp only [push_cast, seval, reduceCtorEq, h4]))
      | exact cv_slE rfl rfl ⟨rfl, rfl⟩ (by simp) (by simp [take_map_len])
      | refine outQ_pan ?_ (by simp [push_cast])
      | refine outQ_unit ?_
      | refine outQ_unitN ?_
      | refine And.intro ?_ ?_
      | omega)
    all_goals (try simp only [push_cast, seval, reduceCtorEq, h4, advE, advO, argB, selI])
    all_goals first
      | (simp only [*, h4, advE, advO, argB, selI]; done)
      | (simp [*, h4, advE, advO, argB, selI]; done)
      | (simp_all [h4, advE, advO, argB, selI]; done)
      | (simp_all [h4, advE, advO, argB, selI]; omega)
      | skip
theorem order_ok (b : Bk) (m : Tm) (k : Nat) (o : O) (h : b.os[k]? = some o) (hl : b.os.length < 2 ^ 40) : PCall prog 72 [.agg (ldc b m), .int .i64 ((k : Int) + 1)] (.tup [.agg (oc o), .int .i64 0]) := by
  have hk : k < b.os.length := (List.getElem?_eq_some_iff.1 h).1
  have hg := getD_map (enc := oc) h
  have hb : inB 1 b.os.length ((k : Int) + 1) = true := by simp [inB]; omega
  have hw : IntKind.i64.wrap ((k : Int) + 1 - 1) = k := by rw [IntWalk.i64_in _ (by omega)]; omega
  obtain ⟨c, hb, hl⟩ := l72
  refine pcall_of mixed e72 hb rfl hl r72 (by rw [n72]; simp) ?_
  clear hb hl c
  (try simp only [push_cast, seval, reduceCtorEq, hg, hw, hb])
  repeat' (first
    | ((first | ((first | refine brX_split ?_ ?_ | refine gX_split ?_ ?_ | refine hX_split ?_ ?_ | refine outK_split ?_ ?_) <;> (intro xc; (try simp only [Bool.not_eq_true', Bool.not_eq_false'] at xc); have xp := xc; (try simp only [decide_eq_true_eq, decide_eq_false_iff_not, Int.not_lt, Int.not_le, ge_iff_le, gt_iff_lt, Bool.and_eq_true, Bool.or_eq_false_iff] at xp); have xq := xp; (first | simp only [← Int.not_le] at xq | simp only [← Int.not_lt] at xq | clear xq))) | refine ⟨.ret _, _, PCall.s (by first | exact within1 _ _ _) (by simp [push_cast, hg, hw, hb]), ?_⟩ | refine ⟨.ret _, _, RCall.s (RCall.sh (by first | exact within1 _ _ _)) (by simp [push_cast, hg, hw, hb]), ?_⟩ | refine ⟨_, _, SCall.lift (by first | exact within1 _ _ _) (outR_cl (by simp [push_cast]) (by simp [push_cast])) (by simp [push_cast, hg, hw, hb]), ?_⟩ | refine ⟨_, (by first | exact within1 _ _ _), ?_⟩ | refine ⟨0, [], _, PCall.r (by first | exact within1 _ _ _), ?_⟩ | refine ⟨_, _, (by first | exact within1 _ _ _), ?_⟩ | refine ⟨_, _, _, RCall.sh (by first | exact within1 _ _ _), ?_⟩ | refine ⟨_, _, _, (by first | exact within1 _ _ _), ?_⟩ | ((fail_if_success (refine ⟨_, ?_, ?_⟩)); refine ⟨AV.any, ?_⟩) | refine ret_frz rfl ?_ (by simp [push_cast]) (by simp [push_cast, hg, hw, hb]) (by simp [push_cast, hg, hw, hb]) | refine end_frz rfl ?_ (by simp [push_cast]) (by simp [push_cast, hg, hw, hb]) (by simp [push_cast, hg, hw, hb]) | refine ret_now (by simp [push_cast]) ?_ (by simp [push_cast]) | refine end_now (by simp [push_cast]) ?_ (by simp [push_cast])) <;> (try simp only [push_cast, seval, reduceCtorEq, *, hg, hw, hb]))
    | ((first | refine cv_ptE rfl rfl rfl rfl rfl ?_ | refine outQ_frz rfl ?_ (by simp [push_cast]) (by simp [push_cast, hg, hw, hb]) | refine dfr_end (by simp) rfl ?_ (by simp [push_cast]) (by simp [push_cast, hg, hw, hb])) <;> (try simp only [push_cast, seval, reduceCtorEq, hg, hw, hb]))
    | exact cv_slE rfl rfl ⟨rfl, rfl⟩ (by simp) (by simp [take_map_len])
    | refine outQ_pan ?_ (by simp [push_cast])
    | refine outQ_unit ?_
    | refine outQ_unitN ?_
    | refine And.intro ?_ ?_
    | omega)
  all_goals (try simp only [push_cast, seval, reduceCtorEq, hg, hw, hb])
  all_goals first
    | (simp only [*, hg, hw, hb]; done)
    | (simp [*, hg, hw, hb]; done)
    | (simp_all [hg, hw, hb]; done)
    | (simp_all [hg, hw, hb]; omega)
    | skip
theorem order_bad (b : Bk) (m : Tm) (id : Int) (h : inB 1 b.os.length id = false) : PCall prog 72 [.agg (ldc b m), .int .i64 id] (.tup [.agg zoc, .int .i64 6]) := by
  obtain ⟨c, hb, hl⟩ := l72
  refine pcall_of mixed e72 hb rfl hl r72 (by rw [n72]; simp) ?_
  clear hb hl c
  (try simp only [push_cast, seval, reduceCtorEq, h])
  repeat' (first
    | ((first | ((first | refine brX_split ?_ ?_ | refine gX_split ?_ ?_ | refine hX_split ?_ ?_ | refine outK_split ?_ ?_) <;> (intro xc; (try simp only [Bool.not_eq_true', Bool.not_eq_false'] at xc); have xp := xc; (try simp only [decide_eq_true_eq, decide_eq_false_iff_not, Int.not_lt, Int.not_le, ge_iff_le, gt_iff_lt, Bool.and_eq_true, Bool.or_eq_false_iff] at xp); have xq := xp; (first | simp only [← Int.not_le] at xq | simp only [← Int.not_lt] at xq | clear xq))) | refine ⟨.ret _, _, PCall.s (by first | exact within1 _ _ _) (by simp [push_cast, h]), ?_⟩ | refine ⟨.ret _, _, RCall.s (RCall.sh (by first | exact within1 _ _ _)) (by simp [push_cast, h]), ?_⟩ | refine ⟨_, _, SCall.lift (by first | exact within1 _ _ _) (outR_cl (by simp [push_cast]) (by simp [push_cast])) (by simp [push_cast, h]), ?_⟩ | refine ⟨_, (by first | exact within1 _ _ _), ?_⟩ | refine ⟨0, [], _, PCall.r (by first | exact within1 _ _ _), ?_⟩ | refine ⟨_, _, (by first | exact within1 _ _ _), ?_⟩ | refine ⟨_, _, _, RCall.sh (by first | exact within1 _ _ _), ?_⟩ | refine ⟨_, _, _, (by first | exact within1 _ _ _), ?_⟩ | ((fail_if_success (refine ⟨_, ?_, ?_⟩)); refine ⟨AV.any, ?_⟩) | refine ret_frz rfl ?_ (by simp [push_cast]) (by simp [push_cast, h]) (by simp [push_cast, h]) | refine end_frz rfl ?_ (by simp [push_cast]) (by simp [push_cast, h]) (by simp [push_cast, h]) | refine ret_now (by simp [push_cast]) ?_ (by simp [push_cast]) | refine end_now (by simp [push_cast]) ?_ (by simp [push_cast])) <;> (try simp only [push_cast, seval, reduceCtorEq, *, h]))
    | ((first | refine cv_ptE rfl rfl rfl rfl rfl ?_ | refine outQ_frz rfl ?_ (by simp [push_cast]) (by simp [push_cast, h]) | refine dfr_end (by simp) rfl ?_ (by simp [push_cast]) (by simp [push_cast, h])) <;> (try simp only [push_cast, seval, reduceCtorEq, h]))
    | exact cv_slE rfl rfl ⟨rfl, rfl⟩ (by simp) (by simp [take_map_len])
    | refine outQ_pan ?_ (by simp [push_cast])
    | refine outQ_unit ?_
    | refine outQ_unitN ?_
    | refine And.intro ?_ ?_
    | omega)
  all_goals (try simp only [push_cast, seval, reduceCtorEq, h])
  all_goals first
    | (simp only [*, h]; done)
    | (simp [*, h]; done)
    | (simp_all [h]; done)
    | (simp_all [h]; omega)
    | skip
end Go.Proofs.Ytffiicopifmmfaa
