/- Facts of the program over abstract values. No condition. -/
import Derived.Test.YtffiicopifmmfaaZi
set_option linter.unusedSimpArgs false
set_option maxRecDepth 8000
namespace Go.Proofs.Ytffiicopifmmfaa
set_option linter.unusedSimpArgs false
set_option linter.unusedVariables false
set_option linter.unnecessarySimpa false
set_option linter.unusedSectionVars false
open Go.Proofs.Try
open Go.Proofs.Ytffiicopifmmfaa.Ai
set_option maxHeartbeats 4000000

theorem submit_bad {oV qV : AV} {b : Bk} {m : Tm} (hO : isSl 6 oV (b.os.map oc)) (hQ : isSl 1 qV (b.q.map intc)) (h : Fit b m) (p d now : Int) (hb : ¬ subE b m p d now = 0) :
    PCall prog 28 [.agg (tmc m), .agg (bkv oV qV b), .int .i64 p, .int .i64 d, .int .u64 now] (.tup [.agg zbk, .int .i64 0, .int .i64 (subE b m p d now)]) := by
  obtain ⟨os, q, cw, cm⟩ := b
  have o1 : oV.one = True := eq_true (isSl_one hO)
  have o2 : qV.one = True := eq_true (isSl_one hQ)
  have c1 := isSl_cl hO (cl_os _)
  have c2 := isSl_cl hQ (cl_is _)
  have hs := hasSpots_p ⟨os, q, cw, cm⟩ m p d (by have := h.p; omega) (by have := h.d; omega)
  have ht := take_p cw cm m.w m.qo now
  by_cases h0 : bookE ⟨os, q, cw, cm⟩ m = 0
  case neg =>
    have hk := ledgerOf_bad hO hQ h h0
    clear hO hQ
    obtain ⟨c, hb, hl⟩ := l28
    refine pcall_of mixed e28 hb rfl hl r28 (by rw [n28]; simp) ?_
    clear hb hl c
    (try simp only [push_cast, seval, reduceCtorEq, c1, c2, o1, o2, h0])
    repeat' (first
      | ((first | ((first | refine brX_split ?_ ?_ | refine gX_split ?_ ?_ | refine hX_split ?_ ?_ | refine outK_split ?_ ?_) <;> (intro xc; (try simp only [Bool.not_eq_true', Bool.not_eq_false'] at xc); have xp := xc; (try simp only [decide_eq_true_eq, decide_eq_false_iff_not, Int.not_lt, Int.not_le, ge_iff_le, gt_iff_lt, Bool.and_eq_true, Bool.or_eq_false_iff] at xp); have xq := xp; (first | simp only [← Int.not_le] at xq | simp only [← Int.not_lt] at xq | clear xq))) | refine ⟨.ret _, _, PCall.s (by first | assumption) (by simp [push_cast, c1, c2, o1, o2, h0]), ?_⟩ | refine ⟨.ret _, _, RCall.s (RCall.sh (by first | assumption)) (by simp [push_cast, c1, c2, o1, o2, h0]), ?_⟩ | refine ⟨_, _, SCall.lift (by first | assumption) (outR_cl (by simp [push_cast]) (by simp [push_cast])) (by simp [push_cast, c1, c2, o1, o2, h0]), ?_⟩ | refine ⟨_, (by first | assumption), ?_⟩ | refine ⟨0, [], _, PCall.r (by first | assumption), ?_⟩ | refine ⟨_, _, (by first | assumption), ?_⟩ | refine ⟨_, _, _, RCall.sh (by first | assumption), ?_⟩ | refine ⟨_, _, _, (by first | assumption), ?_⟩ | ((fail_if_success (refine ⟨_, ?_, ?_⟩)); refine ⟨AV.any, ?_⟩) | refine ret_frz rfl ?_ (by simp [push_cast]) (by simp [push_cast, c1, c2, o1, o2, h0]) (by simp [push_cast, c1, c2, o1, o2, h0]) | refine end_frz rfl ?_ (by simp [push_cast]) (by simp [push_cast, c1, c2, o1, o2, h0]) (by simp [push_cast, c1, c2, o1, o2, h0]) | refine ret_now (by simp [push_cast]) ?_ (by simp [push_cast]) | refine end_now (by simp [push_cast]) ?_ (by simp [push_cast])) <;> (try simp only [push_cast, seval, reduceCtorEq, *, c1, c2, o1, o2, h0]))
      | ((first | refine cv_ptE rfl rfl rfl rfl rfl ?_ | refine outQ_frz rfl ?_ (by simp [push_cast]) (by simp [push_cast, c1, c2, o1, o2, h0]) | refine dfr_end (by simp) rfl ?_ (by simp [push_cast]) (by simp [push_cast, c1, c2, o1, o2, h0])) <;> (try simp only [push_cast, seval, reduceCtorEq, c1, c2, o1, o2, h0]))
      | exact cv_slE rfl rfl ⟨rfl, rfl⟩ (by simp) (by simp [take_map_len])
      | refine outQ_pan ?_ (by simp [push_cast])
      | refine outQ_unit ?_
      | refine outQ_unitN ?_
      | refine And.intro ?_ ?_
      | omega)
    all_goals (try simp only [push_cast, seval, reduceCtorEq, c1, c2, o1, o2, h0, subE])
    all_goals first
      | (simp only [*, c1, c2, o1, o2, h0, subE]; done)
      | (simp [*, c1, c2, o1, o2, h0, subE]; done)
      | (simp_all [c1, c2, o1, o2, h0, subE]; done)
      | (simp_all [c1, c2, o1, o2, h0, subE]; omega)
      | skip
  have hk := ledgerOf_ok hO hQ h h0
  rcases os with _ | ⟨o, l⟩ <;> rcases q with _ | ⟨i, j⟩
  all_goals simp only [List.map_nil, List.map_cons, isSl] at hO hQ
  · rcases hO with rfl | rfl <;> rcases hQ with rfl | rfl
    all_goals
    simp only [clV, clR] at hk
    simp only [subE, h0, decide_true, cond_true, List.length_nil, List.map_nil, push_cast] at *
    obtain ⟨c, hb, hl⟩ := l28
    refine pcall_of mixed e28 hb rfl hl r28 (by rw [n28]; simp) ?_
    clear hb hl c
    (try simp only [push_cast, seval, reduceCtorEq])
    repeat' (first
      | ((first | ((first | refine brX_split ?_ ?_ | refine gX_split ?_ ?_ | refine hX_split ?_ ?_ | refine outK_split ?_ ?_) <;> (intro xc; (try simp only [Bool.not_eq_true', Bool.not_eq_false'] at xc); have xp := xc; (try simp only [decide_eq_true_eq, decide_eq_false_iff_not, Int.not_lt, Int.not_le, ge_iff_le, gt_iff_lt, Bool.and_eq_true, Bool.or_eq_false_iff] at xp); have xq := xp; (first | simp only [← Int.not_le] at xq | simp only [← Int.not_lt] at xq | clear xq))) | refine ⟨.ret _, _, PCall.s (by first | assumption) (by simp [push_cast]), ?_⟩ | refine ⟨.ret _, _, RCall.s (RCall.sh (by first | assumption)) (by simp [push_cast]), ?_⟩ | refine ⟨_, _, SCall.lift (by first | assumption) (outR_cl (by simp [push_cast]) (by simp [push_cast])) (by simp [push_cast]), ?_⟩ | refine ⟨_, (by first | assumption), ?_⟩ | refine ⟨0, [], _, PCall.r (by first | assumption), ?_⟩ | refine ⟨_, _, (by first | assumption), ?_⟩ | refine ⟨_, _, _, RCall.sh (by first | assumption), ?_⟩ | refine ⟨_, _, _, (by first | assumption), ?_⟩ | refine ⟨_, _, PCall.frz (by first | exact hs) (by (try simp only [all2_cons, all2_nil, frzArg, push_cast, Nat.reduceBEq, Nat.reduceLeDiff, Nat.reduceAdd]); repeat' (first | exact trivial | exact cv_slF rfl rfl ⟨rfl, rfl⟩ (by simp) (by first | rfl | (simp; done)) (by first | rfl | (simp; done) | (simp; omega)) | exact cv_closed (by simp [push_cast]) | refine And.intro ?_ ?_ | rfl | (simp [push_cast]; done))) (by simp [push_cast]), ?_⟩ | refine ⟨.ret _, _, RCall.frz (RCall.sh (by first | exact hs)) (by (try simp only [all2_cons, all2_nil, frzArg, push_cast, Nat.reduceBEq, Nat.reduceLeDiff, Nat.reduceAdd]); repeat' (first | exact trivial | exact cv_slF rfl rfl ⟨rfl, rfl⟩ (by simp) (by first | rfl | (simp; done)) (by first | rfl | (simp; done) | (simp; omega)) | exact cv_closed (by simp [push_cast]) | refine And.intro ?_ ?_ | rfl | (simp [push_cast]; done))) (by simp [push_cast]) (by simp [push_cast]), ?_⟩ | ((fail_if_success (refine ⟨_, ?_, ?_⟩)); refine ⟨AV.any, ?_⟩) | refine ret_frz rfl ?_ (by simp [push_cast]) (by simp [push_cast]) (by simp [push_cast]) | refine end_frz rfl ?_ (by simp [push_cast]) (by simp [push_cast]) (by simp [push_cast]) | refine ret_now (by simp [push_cast]) ?_ (by simp [push_cast]) | refine end_now (by simp [push_cast]) ?_ (by simp [push_cast])) <;> (try simp only [push_cast, seval, reduceCtorEq, *]))
      | ((first | refine cv_ptE rfl rfl rfl rfl rfl ?_ | refine outQ_frz rfl ?_ (by simp [push_cast]) (by simp [push_cast]) | refine dfr_end (by simp) rfl ?_ (by simp [push_cast]) (by simp [push_cast])) <;> (try simp only [push_cast, seval, reduceCtorEq]))
      | exact cv_slE rfl rfl ⟨rfl, rfl⟩ (by simp) (by simp [take_map_len])
      | refine outQ_pan ?_ (by simp [push_cast])
      | refine outQ_unit ?_
      | refine outQ_unitN ?_
      | refine And.intro ?_ ?_
      | omega)
    all_goals (try simp only [push_cast, seval, reduceCtorEq])
    all_goals first
      | (simp only [*]; done)
      | (simp [*]; done)
      | (simp_all []; done)
      | (simp_all []; omega)
      | skip
  · exfalso
    obtain ⟨_, _, g, _⟩ := book0 h0
    simp [queB, nwU] at g
  · rcases hQ with rfl | rfl <;> subst hO
    all_goals
    simp only [clV, clR] at hk
    simp only [subE, h0, decide_true, cond_true, List.length_cons, List.length_nil, List.map_cons, List.map_nil, push_cast] at *
    obtain ⟨c, hb, hl⟩ := l28
    refine pcall_of mixed e28 hb rfl hl r28 (by rw [n28]; simp) ?_
    clear hb hl c
    (try simp only [push_cast, seval, reduceCtorEq])
    repeat' (first
      | ((first | ((first | refine brX_split ?_ ?_ | refine gX_split ?_ ?_ | refine hX_split ?_ ?_ | refine outK_split ?_ ?_) <;> (intro xc; (try simp only [Bool.not_eq_true', Bool.not_eq_false'] at xc); have xp := xc; (try simp only [decide_eq_true_eq, decide_eq_false_iff_not, Int.not_lt, Int.not_le, ge_iff_le, gt_iff_lt, Bool.and_eq_true, Bool.or_eq_false_iff] at xp); have xq := xp; (first | simp only [← Int.not_le] at xq | simp only [← Int.not_lt] at xq | clear xq))) | refine ⟨.ret _, _, PCall.s (by first | assumption) (by simp [push_cast]), ?_⟩ | refine ⟨.ret _, _, RCall.s (RCall.sh (by first | assumption)) (by simp [push_cast]), ?_⟩ | refine ⟨_, _, SCall.lift (by first | assumption) (outR_cl (by simp [push_cast]) (by simp [push_cast])) (by simp [push_cast]), ?_⟩ | refine ⟨_, (by first | assumption), ?_⟩ | refine ⟨0, [], _, PCall.r (by first | assumption), ?_⟩ | refine ⟨_, _, (by first | assumption), ?_⟩ | refine ⟨_, _, _, RCall.sh (by first | assumption), ?_⟩ | refine ⟨_, _, _, (by first | assumption), ?_⟩ | refine ⟨_, _, PCall.frz (by first | exact hs) (by (try simp only [all2_cons, all2_nil, frzArg, push_cast, Nat.reduceBEq, Nat.reduceLeDiff, Nat.reduceAdd]); repeat' (first | exact trivial | exact cv_slF rfl rfl ⟨rfl, rfl⟩ (by simp) (by first | rfl | (simp; done)) (by first | rfl | (simp; done) | (simp; omega)) | exact cv_closed (by simp [push_cast]) | refine And.intro ?_ ?_ | rfl | (simp [push_cast]; done))) (by simp [push_cast]), ?_⟩ | refine ⟨.ret _, _, RCall.frz (RCall.sh (by first | exact hs)) (by (try simp only [all2_cons, all2_nil, frzArg, push_cast, Nat.reduceBEq, Nat.reduceLeDiff, Nat.reduceAdd]); repeat' (first | exact trivial | exact cv_slF rfl rfl ⟨rfl, rfl⟩ (by simp) (by first | rfl | (simp; done)) (by first | rfl | (simp; done) | (simp; omega)) | exact cv_closed (by simp [push_cast]) | refine And.intro ?_ ?_ | rfl | (simp [push_cast]; done))) (by simp [push_cast]) (by simp [push_cast]), ?_⟩ | ((fail_if_success (refine ⟨_, ?_, ?_⟩)); refine ⟨AV.any, ?_⟩) | refine ret_frz rfl ?_ (by simp [push_cast]) (by simp [push_cast]) (by simp [push_cast]) | refine end_frz rfl ?_ (by simp [push_cast]) (by simp [push_cast]) (by simp [push_cast]) | refine ret_now (by simp [push_cast]) ?_ (by simp [push_cast]) | refine end_now (by simp [push_cast]) ?_ (by simp [push_cast])) <;> (try simp only [push_cast, seval, reduceCtorEq, *]))
      | ((first | refine cv_ptE rfl rfl rfl rfl rfl ?_ | refine outQ_frz rfl ?_ (by simp [push_cast]) (by simp [push_cast]) | refine dfr_end (by simp) rfl ?_ (by simp [push_cast]) (by simp [push_cast])) <;> (try simp only [push_cast, seval, reduceCtorEq]))
      | exact cv_slE rfl rfl ⟨rfl, rfl⟩ (by simp) (by simp [take_map_len])
      | refine outQ_pan ?_ (by simp [push_cast])
      | refine outQ_unit ?_
      | refine outQ_unitN ?_
      | refine And.intro ?_ ?_
      | omega)
    all_goals (try simp only [push_cast, seval, reduceCtorEq])
    all_goals first
      | (simp only [*]; done)
      | (simp [*]; done)
      | (simp_all []; done)
      | (simp_all []; omega)
      | skip
  · subst hO; subst hQ
    simp only [clV, clR] at hk
    simp only [subE, h0, decide_true, cond_true, List.length_cons, List.map_cons, push_cast] at *
    obtain ⟨c, hb, hl⟩ := l28
    refine pcall_of mixed e28 hb rfl hl r28 (by rw [n28]; simp) ?_
    clear hb hl c
    (try simp only [push_cast, seval, reduceCtorEq])
    repeat' (first
      | ((first | ((first | refine brX_split ?_ ?_ | refine gX_split ?_ ?_ | refine hX_split ?_ ?_ | refine outK_split ?_ ?_) <;> (intro xc; (try simp only [Bool.not_eq_true', Bool.not_eq_false'] at xc); have xp := xc; (try simp only [decide_eq_true_eq, decide_eq_false_iff_not, Int.not_lt, Int.not_le, ge_iff_le, gt_iff_lt, Bool.and_eq_true, Bool.or_eq_false_iff] at xp); have xq := xp; (first | simp only [← Int.not_le] at xq | simp only [← Int.not_lt] at xq | clear xq))) | refine ⟨.ret _, _, PCall.s (by first | assumption) (by simp [push_cast]), ?_⟩ | refine ⟨.ret _, _, RCall.s (RCall.sh (by first | assumption)) (by simp [push_cast]), ?_⟩ | refine ⟨_, _, SCall.lift (by first | assumption) (outR_cl (by simp [push_cast]) (by simp [push_cast])) (by simp [push_cast]), ?_⟩ | refine ⟨_, (by first | assumption), ?_⟩ | refine ⟨0, [], _, PCall.r (by first | assumption), ?_⟩ | refine ⟨_, _, (by first | assumption), ?_⟩ | refine ⟨_, _, _, RCall.sh (by first | assumption), ?_⟩ | refine ⟨_, _, _, (by first | assumption), ?_⟩ | refine ⟨_, _, PCall.frz (by first | exact hs) (by (try simp only [all2_cons, all2_nil, frzArg, push_cast, Nat.reduceBEq, Nat.reduceLeDiff, Nat.reduceAdd]); repeat' (first | exact trivial | exact cv_slF rfl rfl ⟨rfl, rfl⟩ (by simp) (by first | rfl | (simp; done)) (by first | rfl | (simp; done) | (simp; omega)) | exact cv_closed (by simp [push_cast]) | refine And.intro ?_ ?_ | rfl | (simp [push_cast]; done))) (by simp [push_cast]), ?_⟩ | refine ⟨.ret _, _, RCall.frz (RCall.sh (by first | exact hs)) (by (try simp only [all2_cons, all2_nil, frzArg, push_cast, Nat.reduceBEq, Nat.reduceLeDiff, Nat.reduceAdd]); repeat' (first | exact trivial | exact cv_slF rfl rfl ⟨rfl, rfl⟩ (by simp) (by first | rfl | (simp; done)) (by first | rfl | (simp; done) | (simp; omega)) | exact cv_closed (by simp [push_cast]) | refine And.intro ?_ ?_ | rfl | (simp [push_cast]; done))) (by simp [push_cast]) (by simp [push_cast]), ?_⟩ | ((fail_if_success (refine ⟨_, ?_, ?_⟩)); refine ⟨AV.any, ?_⟩) | refine ret_frz rfl ?_ (by simp [push_cast]) (by simp [push_cast]) (by simp [push_cast]) | refine end_frz rfl ?_ (by simp [push_cast]) (by simp [push_cast]) (by simp [push_cast]) | refine ret_now (by simp [push_cast]) ?_ (by simp [push_cast]) | refine end_now (by simp [push_cast]) ?_ (by simp [push_cast])) <;> (try simp only [push_cast, seval, reduceCtorEq, *]))
      | ((first | refine cv_ptE rfl rfl rfl rfl rfl ?_ | refine outQ_frz rfl ?_ (by simp [push_cast]) (by simp [push_cast]) | refine dfr_end (by simp) rfl ?_ (by simp [push_cast]) (by simp [push_cast])) <;> (try simp only [push_cast, seval, reduceCtorEq]))
      | exact cv_slE rfl rfl ⟨rfl, rfl⟩ (by simp) (by simp [take_map_len])
      | refine outQ_pan ?_ (by simp [push_cast])
      | refine outQ_unit ?_
      | refine outQ_unitN ?_
      | refine And.intro ?_ ?_
      | omega)
    all_goals (try simp only [push_cast, seval, reduceCtorEq])
    all_goals first
      | (simp only [*]; done)
      | (simp [*]; done)
      | (simp_all []; done)
      | (simp_all []; omega)
      | skip
end Go.Proofs.Ytffiicopifmmfaa
