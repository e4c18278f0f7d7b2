/- Facts of the program over abstract values. No condition. -/
import Derived.Test.YtffiicopifmmfaaZs
import Derived.Test.YtffiicopifmmfaaZv
set_option linter.unusedSimpArgs false
set_option linter.unusedVariables false
set_option maxRecDepth 8000
namespace Go.Proofs.Ytffiicopifmmfaa
set_option linter.unusedSimpArgs false
set_option linter.unusedVariables false
set_option linter.unnecessarySimpa false
set_option linter.unusedSectionVars false
open Go.Proofs.Try
open Go.Proofs.Ytffiicopifmmfaa.Ai
set_option maxHeartbeats 4000000

/-! The reference's orders and counts -/
def nwO (i p d a : Int) : O := bif decide (newE i p d a = 0) then ⟨i, p, d, 1, a, 0⟩ else zO
theorem ordB_chk {i p d s a f : Int} : (orderB i p d s a f = true) = (chkE i p d s a f = 0) := by
  unfold chkE; cases orderB i p d s a f <;> simp
theorem refNew_p (i p d a : Int) : PCall prog 30 [.int .i64 i, .int .i64 p, .int .i64 d, .int .u64 a] (.tup [.agg (oc (nwO i p d a)), .int .i64 (newE i p d a)]) := by
  have h := refValid_p i p d 1 a 0
  cases ho : orderB i p d 1 a 0
  · rw [ho] at h
    have e : newE i p d a = 2 := by simp [newE, chkE, ho]
    have e2 : nwO i p d a = zO := by simp [nwO, e]
    rw [e, e2]
    obtain ⟨c, hb, hl⟩ := l30
    refine pcall_of mixed e30 hb rfl hl r30 (by rw [n30]; simp) ?_
    clear hb hl c
    (try simp only [push_cast, seval, reduceCtorEq])
    repeat' (first
      | ((first | ((first | refine brX_split ?_ ?_ | refine gX_split ?_ ?_ | refine hX_split ?_ ?_ | refine outK_split ?_ ?_) <;> (intro xc; (try simp only [Bool.not_eq_true', Bool.not_eq_false'] at xc); have xp := xc; (try simp only [decide_eq_true_eq, decide_eq_false_iff_not, Int.not_lt, Int.not_le, ge_iff_le, gt_iff_lt, Bool.and_eq_true, Bool.or_eq_false_iff] at xp); have xq := xp; (first | simp only [← Int.not_le] at xq | simp only [← Int.not_lt] at xq | clear xq))) | refine ⟨.ret _, _, PCall.s (by first | assumption) (by simp [push_cast]), ?_⟩ | refine ⟨.ret _, _, RCall.s (RCall.sh (by first | assumption)) (by simp [push_cast]), ?_⟩ | refine ⟨_, _, SCall.lift (by first | assumption) (outR_cl (by simp [push_cast]) (by simp [push_cast])) (by simp [push_cast]), ?_⟩ | refine ⟨_, (by first | assumption), ?_⟩ | refine ⟨0, [], _, PCall.r (by first | assumption), ?_⟩ | refine ⟨_, _, (by first | assumption), ?_⟩ | refine ⟨_, _, _, RCall.sh (by first | assumption), ?_⟩ | refine ⟨_, _, _, (by first | assumption), ?_⟩ | ((fail_if_success (refine ⟨_, ?_, ?_⟩)); refine ⟨AV.any, ?_⟩) | refine ret_frz rfl ?_ (by simp [push_cast]) (by simp [push_cast]) (by simp [push_cast]) | refine end_frz rfl ?_ (by simp [push_cast]) (by simp [push_cast]) (by simp [push_cast]) | refine ret_now (by simp [push_cast]) ?_ (by simp [push_cast]) | refine end_now (by simp [push_cast]) ?_ (by simp [push_cast])) <;> (try simp only [push_cast, seval, reduceCtorEq, *]))
      | ((first | refine cv_ptE rfl rfl rfl rfl rfl ?_ | refine outQ_frz rfl ?_ (by simp [push_cast]) (by simp [push_cast]) | refine dfr_end (by simp) rfl ?_ (by simp [push_cast]) (by simp [push_cast])) <;> (try simp only [push_cast, seval, reduceCtorEq]))
      | exact cv_slE rfl rfl ⟨rfl, rfl⟩ (by simp) (by simp [take_map_len])
      | refine outQ_pan ?_ (by simp [push_cast])
      | refine outQ_unit ?_
      | refine outQ_unitN ?_
      | refine And.intro ?_ ?_
      | omega)
    all_goals (try simp only [push_cast, seval, reduceCtorEq, zO])
    all_goals first
      | (simp only [*, zO]; done)
      | (simp [*, zO]; done)
      | (simp_all [zO]; done)
      | (simp_all [zO]; omega)
      | skip
  · rw [ho] at h
    have e : newE i p d a = 0 := by simp [newE, chkE, ho]
    have e2 : nwO i p d a = ⟨i, p, d, 1, a, 0⟩ := by simp [nwO, e]
    rw [e, e2]
    obtain ⟨c, hb, hl⟩ := l30
    refine pcall_of mixed e30 hb rfl hl r30 (by rw [n30]; simp) ?_
    clear hb hl c
    (try simp only [push_cast, seval, reduceCtorEq])
    repeat' (first
      | ((first | ((first | refine brX_split ?_ ?_ | refine gX_split ?_ ?_ | refine hX_split ?_ ?_ | refine outK_split ?_ ?_) <;> (intro xc; (try simp only [Bool.not_eq_true', Bool.not_eq_false'] at xc); have xp := xc; (try simp only [decide_eq_true_eq, decide_eq_false_iff_not, Int.not_lt, Int.not_le, ge_iff_le, gt_iff_lt, Bool.and_eq_true, Bool.or_eq_false_iff] at xp); have xq := xp; (first | simp only [← Int.not_le] at xq | simp only [← Int.not_lt] at xq | clear xq))) | refine ⟨.ret _, _, PCall.s (by first | assumption) (by simp [push_cast]), ?_⟩ | refine ⟨.ret _, _, RCall.s (RCall.sh (by first | assumption)) (by simp [push_cast]), ?_⟩ | refine ⟨_, _, SCall.lift (by first | assumption) (outR_cl (by simp [push_cast]) (by simp [push_cast])) (by simp [push_cast]), ?_⟩ | refine ⟨_, (by first | assumption), ?_⟩ | refine ⟨0, [], _, PCall.r (by first | assumption), ?_⟩ | refine ⟨_, _, (by first | assumption), ?_⟩ | refine ⟨_, _, _, RCall.sh (by first | assumption), ?_⟩ | refine ⟨_, _, _, (by first | assumption), ?_⟩ | ((fail_if_success (refine ⟨_, ?_, ?_⟩)); refine ⟨AV.any, ?_⟩) | refine ret_frz rfl ?_ (by simp [push_cast]) (by simp [push_cast]) (by simp [push_cast]) | refine end_frz rfl ?_ (by simp [push_cast]) (by simp [push_cast]) (by simp [push_cast]) | refine ret_now (by simp [push_cast]) ?_ (by simp [push_cast]) | refine end_now (by simp [push_cast]) ?_ (by simp [push_cast])) <;> (try simp only [push_cast, seval, reduceCtorEq, *]))
      | ((first | refine cv_ptE rfl rfl rfl rfl rfl ?_ | refine outQ_frz rfl ?_ (by simp [push_cast]) (by simp [push_cast]) | refine dfr_end (by simp) rfl ?_ (by simp [push_cast]) (by simp [push_cast])) <;> (try simp only [push_cast, seval, reduceCtorEq]))
      | exact cv_slE rfl rfl ⟨rfl, rfl⟩ (by simp) (by simp [take_map_len])
      | refine outQ_pan ?_ (by simp [push_cast])
      | refine outQ_unit ?_
      | refine outQ_unitN ?_
      | refine And.intro ?_ ?_
      | omega)
    all_goals (try simp only [push_cast, seval, reduceCtorEq, zO])
    all_goals first
      | (simp only [*, zO]; done)
      | (simp [*, zO]; done)
      | (simp_all [zO]; done)
      | (simp_all [zO]; omega)
      | skip
theorem refCheck_p (i p d s a f : Int) : PCall prog 32 [.agg [.int .i64 i, .int .i64 p, .int .i64 d, .int .u8 s, .int .u64 a, .int .u64 f]] (.int .i64 (chkE i p d s a f)) := by
  obtain ⟨c, hb, hl⟩ := l32
  refine pcall_of mixed e32 hb rfl hl r32 (by rw [n32]; simp) ?_
  clear hb hl c
  (try simp only [push_cast, seval, reduceCtorEq])
  repeat' (first
    | ((first | ((first | refine brX_split ?_ ?_ | refine gX_split ?_ ?_ | refine hX_split ?_ ?_ | refine outK_split ?_ ?_) <;> (intro xc; (try simp only [Bool.not_eq_true', Bool.not_eq_false'] at xc); have xp := xc; (try simp only [decide_eq_true_eq, decide_eq_false_iff_not, Int.not_lt, Int.not_le, ge_iff_le, gt_iff_lt, Bool.and_eq_true, Bool.or_eq_false_iff] at xp); have xq := xp; (first | simp only [← Int.not_le] at xq | simp only [← Int.not_lt] at xq | clear xq))) | refine ⟨.ret _, _, PCall.s (by first | exact refValid_p _ _ _ _ _ _) (by simp [push_cast]), ?_⟩ | refine ⟨.ret _, _, RCall.s (RCall.sh (by first | exact refValid_p _ _ _ _ _ _)) (by simp [push_cast]), ?_⟩ | refine ⟨_, _, SCall.lift (by first | exact refValid_p _ _ _ _ _ _) (outR_cl (by simp [push_cast]) (by simp [push_cast])) (by simp [push_cast]), ?_⟩ | refine ⟨_, (by first | exact refValid_p _ _ _ _ _ _), ?_⟩ | refine ⟨0, [], _, PCall.r (by first | exact refValid_p _ _ _ _ _ _), ?_⟩ | refine ⟨_, _, (by first | exact refValid_p _ _ _ _ _ _), ?_⟩ | refine ⟨_, _, _, RCall.sh (by first | exact refValid_p _ _ _ _ _ _), ?_⟩ | refine ⟨_, _, _, (by first | exact refValid_p _ _ _ _ _ _), ?_⟩ | ((fail_if_success (refine ⟨_, ?_, ?_⟩)); refine ⟨AV.any, ?_⟩) | refine ret_frz rfl ?_ (by simp [push_cast]) (by simp [push_cast]) (by simp [push_cast]) | refine end_frz rfl ?_ (by simp [push_cast]) (by simp [push_cast]) (by simp [push_cast]) | refine ret_now (by simp [push_cast]) ?_ (by simp [push_cast]) | refine end_now (by simp [push_cast]) ?_ (by simp [push_cast])) <;> (try simp only [push_cast, seval, reduceCtorEq, *]))
    | ((first | refine cv_ptE rfl rfl rfl rfl rfl ?_ | refine outQ_frz rfl ?_ (by simp [push_cast]) (by simp [push_cast]) | refine dfr_end (by simp) rfl ?_ (by simp [push_cast]) (by simp [push_cast])) <;> (try simp only [push_cast, seval, reduceCtorEq]))
    | exact cv_slE rfl rfl ⟨rfl, rfl⟩ (by simp) (by simp [take_map_len])
    | refine outQ_pan ?_ (by simp [push_cast])
    | refine outQ_unit ?_
    | refine outQ_unitN ?_
    | refine And.intro ?_ ?_
    | omega)
  all_goals (try simp only [push_cast, seval, reduceCtorEq, chkE])
  all_goals first
    | (simp only [*, chkE]; done)
    | (simp [*, chkE]; done)
    | (simp_all [chkE]; done)
    | (simp_all [chkE]; omega)
    | skip
theorem refTrans_p (x y : Int) : PCall prog 58 [.int .u8 x, .int .u8 y] (.bool (followsB x y)) := by
  obtain ⟨c, hb, hl⟩ := l58
  refine pcall_of mixed e58 hb rfl hl r58 (by rw [n58]; simp) ?_
  clear hb hl c
  (try simp only [push_cast, seval, reduceCtorEq])
  repeat' (first
    | ((first | ((first | refine brX_split ?_ ?_ | refine gX_split ?_ ?_ | refine hX_split ?_ ?_ | refine outK_split ?_ ?_) <;> (intro xc; (try simp only [Bool.not_eq_true', Bool.not_eq_false'] at xc); have xp := xc; (try simp only [decide_eq_true_eq, decide_eq_false_iff_not, Int.not_lt, Int.not_le, ge_iff_le, gt_iff_lt, Bool.and_eq_true, Bool.or_eq_false_iff] at xp); have xq := xp; (first | simp only [← Int.not_le] at xq | simp only [← Int.not_lt] at xq | clear xq))) | ((fail_if_success (refine ⟨_, ?_, ?_⟩)); refine ⟨AV.any, ?_⟩) | refine ret_frz rfl ?_ (by simp [push_cast]) (by simp [push_cast]) (by simp [push_cast]) | refine end_frz rfl ?_ (by simp [push_cast]) (by simp [push_cast]) (by simp [push_cast]) | refine ret_now (by simp [push_cast]) ?_ (by simp [push_cast]) | refine end_now (by simp [push_cast]) ?_ (by simp [push_cast])) <;> (try simp only [push_cast, seval, reduceCtorEq, *]))
    | ((first | refine cv_ptE rfl rfl rfl rfl rfl ?_ | refine outQ_frz rfl ?_ (by simp [push_cast]) (by simp [push_cast]) | refine dfr_end (by simp) rfl ?_ (by simp [push_cast]) (by simp [push_cast])) <;> (try simp only [push_cast, seval, reduceCtorEq]))
    | exact cv_slE rfl rfl ⟨rfl, rfl⟩ (by simp) (by simp [take_map_len])
    | refine outQ_pan ?_ (by simp [push_cast])
    | refine outQ_unit ?_
    | refine outQ_unitN ?_
    | refine And.intro ?_ ?_
    | omega)
  all_goals (try simp only [push_cast, seval, reduceCtorEq, followsB])
  all_goals first
    | (simp only [*, followsB]; done)
    | (simp [*, followsB]; done)
    | (simp_all [followsB]; done)
    | (simp_all [followsB]; omega)
    | (by_cases h2 : y = 2 <;> by_cases h3 : y = 3 <;> by_cases h4 : y = 4 <;> by_cases h5 : y = 5 <;> simp [*] at * <;> omega)
    | skip
def avO (o : O) (st now : Int) : O := bif decide (advE o st now = 0) then advO o st now else zO
theorem refAdvance_p (o : O) (st now : Int) : PCall prog 33 [.agg (oc o), .int .u8 st, .int .u64 now] (.tup [.agg (oc (avO o st now)), .int .i64 (advE o st now)]) := by
  obtain ⟨i, p, d, s, a, f⟩ := o
  have h := refValid_p i p d s a f
  cases ho : orderB i p d s a f
  · rw [ho] at h
    have e : advE ⟨i, p, d, s, a, f⟩ st now = 8 := by simp [advE, chkE, ho]
    have e2 : avO ⟨i, p, d, s, a, f⟩ st now = zO := by simp [avO, e]
    rw [e, e2]
    obtain ⟨c, hb, hl⟩ := l33
    refine pcall_of mixed e33 hb rfl hl r33 (by rw [n33]; simp) ?_
    clear hb hl c
    (try simp only [push_cast, seval, reduceCtorEq])
    repeat' (first
      | ((first | ((first | refine brX_split ?_ ?_ | refine gX_split ?_ ?_ | refine hX_split ?_ ?_ | refine outK_split ?_ ?_) <;> (intro xc; (try simp only [Bool.not_eq_true', Bool.not_eq_false'] at xc); have xp := xc; (try simp only [decide_eq_true_eq, decide_eq_false_iff_not, Int.not_lt, Int.not_le, ge_iff_le, gt_iff_lt, Bool.and_eq_true, Bool.or_eq_false_iff] at xp); have xq := xp; (first | simp only [← Int.not_le] at xq | simp only [← Int.not_lt] at xq | clear xq))) | refine ⟨.ret _, _, PCall.s (by first | assumption) (by simp [push_cast]), ?_⟩ | refine ⟨.ret _, _, RCall.s (RCall.sh (by first | assumption)) (by simp [push_cast]), ?_⟩ | refine ⟨_, _, SCall.lift (by first | assumption) (outR_cl (by simp [push_cast]) (by simp [push_cast])) (by simp [push_cast]), ?_⟩ | refine ⟨_, (by first | assumption), ?_⟩ | refine ⟨0, [], _, PCall.r (by first | assumption), ?_⟩ | refine ⟨_, _, (by first | assumption), ?_⟩ | refine ⟨_, _, _, RCall.sh (by first | assumption), ?_⟩ | refine ⟨_, _, _, (by first | assumption), ?_⟩ | ((fail_if_success (refine ⟨_, ?_, ?_⟩)); refine ⟨AV.any, ?_⟩) | refine ret_frz rfl ?_ (by simp [push_cast]) (by simp [push_cast]) (by simp [push_cast]) | refine end_frz rfl ?_ (by simp [push_cast]) (by simp [push_cast]) (by simp [push_cast]) | refine ret_now (by simp [push_cast]) ?_ (by simp [push_cast]) | refine end_now (by simp [push_cast]) ?_ (by simp [push_cast])) <;> (try simp only [push_cast, seval, reduceCtorEq, *]))
      | ((first | refine cv_ptE rfl rfl rfl rfl rfl ?_ | refine outQ_frz rfl ?_ (by simp [push_cast]) (by simp [push_cast]) | refine dfr_end (by simp) rfl ?_ (by simp [push_cast]) (by simp [push_cast])) <;> (try simp only [push_cast, seval, reduceCtorEq]))
      | exact cv_slE rfl rfl ⟨rfl, rfl⟩ (by simp) (by simp [take_map_len])
      | refine outQ_pan ?_ (by simp [push_cast])
      | refine outQ_unit ?_
      | refine outQ_unitN ?_
      | refine And.intro ?_ ?_
      | omega)
    all_goals (try simp only [push_cast, seval, reduceCtorEq, zO])
    all_goals first
      | (simp only [*, zO]; done)
      | (simp [*, zO]; done)
      | (simp_all [zO]; done)
      | (simp_all [zO]; omega)
      | skip
  rw [ho] at h
  have hc : chkE i p d s a f = 0 := by simp [chkE, ho]
  cases ha : argB st now
  · have e : advE ⟨i, p, d, s, a, f⟩ st now = 2 := by simp [advE, hc, ha]
    have e2 : avO ⟨i, p, d, s, a, f⟩ st now = zO := by simp [avO, e]
    rw [e, e2]
    simp only [argB, stateB, Bool.and_eq_false_iff, Bool.not_eq_false', Bool.and_eq_true, decide_eq_true_eq, decide_eq_false_iff_not] at ha
    clear e e2 ho hc
    obtain ⟨c, hb, hl⟩ := l33
    refine pcall_of mixed e33 hb rfl hl r33 (by rw [n33]; simp) ?_
    clear hb hl c
    (try simp only [push_cast, seval, reduceCtorEq])
    repeat' (first
      | ((first | ((first | refine brX_split ?_ ?_ | refine gX_split ?_ ?_ | refine hX_split ?_ ?_ | refine outK_split ?_ ?_) <;> (intro xc; (try simp only [Bool.not_eq_true', Bool.not_eq_false'] at xc); have xp := xc; (try simp only [decide_eq_true_eq, decide_eq_false_iff_not, Int.not_lt, Int.not_le, ge_iff_le, gt_iff_lt, Bool.and_eq_true, Bool.or_eq_false_iff] at xp); have xq := xp; (first | simp only [← Int.not_le] at xq | simp only [← Int.not_lt] at xq | clear xq))) | refine ⟨.ret _, _, PCall.s (by first | assumption) (by simp [push_cast]), ?_⟩ | refine ⟨.ret _, _, RCall.s (RCall.sh (by first | assumption)) (by simp [push_cast]), ?_⟩ | refine ⟨_, _, SCall.lift (by first | assumption) (outR_cl (by simp [push_cast]) (by simp [push_cast])) (by simp [push_cast]), ?_⟩ | refine ⟨_, (by first | assumption), ?_⟩ | refine ⟨0, [], _, PCall.r (by first | assumption), ?_⟩ | refine ⟨_, _, (by first | assumption), ?_⟩ | refine ⟨_, _, _, RCall.sh (by first | assumption), ?_⟩ | refine ⟨_, _, _, (by first | assumption), ?_⟩ | ((fail_if_success (refine ⟨_, ?_, ?_⟩)); refine ⟨AV.any, ?_⟩) | refine ret_frz rfl ?_ (by simp [push_cast]) (by simp [push_cast]) (by simp [push_cast]) | refine end_frz rfl ?_ (by simp [push_cast]) (by simp [push_cast]) (by simp [push_cast]) | refine ret_now (by simp [push_cast]) ?_ (by simp [push_cast]) | refine end_now (by simp [push_cast]) ?_ (by simp [push_cast])) <;> (try simp only [push_cast, seval, reduceCtorEq, *]))
      | ((first | refine cv_ptE rfl rfl rfl rfl rfl ?_ | refine outQ_frz rfl ?_ (by simp [push_cast]) (by simp [push_cast]) | refine dfr_end (by simp) rfl ?_ (by simp [push_cast]) (by simp [push_cast])) <;> (try simp only [push_cast, seval, reduceCtorEq]))
      | exact cv_slE rfl rfl ⟨rfl, rfl⟩ (by simp) (by simp [take_map_len])
      | refine outQ_pan ?_ (by simp [push_cast])
      | refine outQ_unit ?_
      | refine outQ_unitN ?_
      | refine And.intro ?_ ?_
      | omega)
    all_goals (try simp only [push_cast, seval, reduceCtorEq, zO])
    all_goals first
      | (simp only [*, zO]; done)
      | (simp [*, zO]; done)
      | (simp_all [zO]; done)
      | (simp_all [zO]; omega)
      | skip
  have ht := refTrans_p s st
  have ha' := ha
  simp only [argB, stateB, Bool.not_eq_true', Bool.and_eq_false_iff, Bool.and_eq_true, decide_eq_true_eq, decide_eq_false_iff_not] at ha'
  cases hf : followsB s st
  · have e : advE ⟨i, p, d, s, a, f⟩ st now = 150 := by simp [advE, hc, ha, hf]
    have e2 : avO ⟨i, p, d, s, a, f⟩ st now = zO := by simp [avO, e]
    rw [e, e2]
    rw [hf] at ht
    clear e e2 ho hc ha hf
    by_cases h4 : st = 4
    · subst h4
      obtain ⟨c, hb, hl⟩ := l33
      refine pcall_of mixed e33 hb rfl hl r33 (by rw [n33]; simp) ?_
      clear hb hl c
      (try simp only [push_cast, seval, reduceCtorEq])
      repeat' (first
        | ((first | ((first | refine brX_split ?_ ?_ | refine gX_split ?_ ?_ | refine hX_split ?_ ?_ | refine outK_split ?_ ?_) <;> (intro xc; (try simp only [Bool.not_eq_true', Bool.not_eq_false'] at xc); have xp := xc; (try simp only [decide_eq_true_eq, decide_eq_false_iff_not, Int.not_lt, Int.not_le, ge_iff_le, gt_iff_lt, Bool.and_eq_true, Bool.or_eq_false_iff] at xp); have xq := xp; (first | simp only [← Int.not_le] at xq | simp only [← Int.not_lt] at xq | clear xq))) | refine ⟨.ret _, _, PCall.s (by first | assumption) (by simp [push_cast]), ?_⟩ | refine ⟨.ret _, _, RCall.s (RCall.sh (by first | assumption)) (by simp [push_cast]), ?_⟩ | refine ⟨_, _, SCall.lift (by first | assumption) (outR_cl (by simp [push_cast]) (by simp [push_cast])) (by simp [push_cast]), ?_⟩ | refine ⟨_, (by first | assumption), ?_⟩ | refine ⟨0, [], _, PCall.r (by first | assumption), ?_⟩ | refine ⟨_, _, (by first | assumption), ?_⟩ | refine ⟨_, _, _, RCall.sh (by first | assumption), ?_⟩ | refine ⟨_, _, _, (by first | assumption), ?_⟩ | ((fail_if_success (refine ⟨_, ?_, ?_⟩)); refine ⟨AV.any, ?_⟩) | refine ret_frz rfl ?_ (by simp [push_cast]) (by simp [push_cast]) (by simp [push_cast]) | refine end_frz rfl ?_ (by simp [push_cast]) (by simp [push_cast]) (by simp [push_cast]) | refine ret_now (by simp [push_cast]) ?_ (by simp [push_cast]) | refine end_now (by simp [push_cast]) ?_ (by simp [push_cast])) <;> (try simp only [push_cast, seval, reduceCtorEq, *]))
        | ((first | refine cv_ptE rfl rfl rfl rfl rfl ?_ | refine outQ_frz rfl ?_ (by simp [push_cast]) (by simp [push_cast]) | refine dfr_end (by simp) rfl ?_ (by simp [push_cast]) (by simp [push_cast])) <;> (try simp only [push_cast, seval, reduceCtorEq]))
        | exact cv_slE rfl rfl ⟨rfl, rfl⟩ (by simp) (by simp [take_map_len])
        | refine outQ_pan ?_ (by simp [push_cast])
        | refine outQ_unit ?_
        | refine outQ_unitN ?_
        | refine And.intro ?_ ?_
        | omega)
      all_goals (try simp only [push_cast, seval, reduceCtorEq, zO])
      all_goals first
        | (simp only [*, zO]; done)
        | (simp [*, zO]; done)
        | (simp_all [zO]; done)
        | (simp_all [zO]; omega)
        | skip
    · obtain ⟨c, hb, hl⟩ := l33
      refine pcall_of mixed e33 hb rfl hl r33 (by rw [n33]; simp) ?_
      clear hb hl c
      (try simp only [push_cast, seval, reduceCtorEq, h4])
      repeat' (first
        | ((first | ((first | refine brX_split ?_ ?_ | refine gX_split ?_ ?_ | refine hX_split ?_ ?_ | refine outK_split ?_ ?_) <;> (intro xc; (try simp only [Bool.not_eq_true', Bool.not_eq_false'] at xc); have xp := xc; (try simp only [decide_eq_true_eq, decide_eq_false_iff_not, Int.not_lt, Int.not_le, ge_iff_le, gt_iff_lt, Bool.and_eq_true, Bool.or_eq_false_iff] at xp); have xq := xp; (first | simp only [← Int.not_le] at xq | simp only [← Int.not_lt] at xq | clear xq))) | refine ⟨.ret _, _, PCall.s (by first | assumption) (by simp [push_cast, h4]), ?_⟩ | refine ⟨.ret _, _, RCall.s (RCall.sh (by first | assumption)) (by simp [push_cast, h4]), ?_⟩ | refine ⟨_, _, SCall.lift (by first | assumption) (outR_cl (by simp [push_cast]) (by simp [push_cast])) (by simp [push_cast, h4]), ?_⟩ | refine ⟨_, (by first | assumption), ?_⟩ | refine ⟨0, [], _, PCall.r (by first | assumption), ?_⟩ | refine ⟨_, _, (by first | assumption), ?_⟩ | refine ⟨_, _, _, RCall.sh (by first | assumption), ?_⟩ | refine ⟨_, _, _, (by first | assumption), ?_⟩ | ((fail_if_success (refine ⟨_, ?_, ?_⟩)); refine ⟨AV.any, ?_⟩) | refine ret_frz rfl ?_ (by simp [push_cast]) (by simp [push_cast, h4]) (by simp [push_cast, h4]) | refine end_frz rfl ?_ (by simp [push_cast]) (by simp [push_cast, h4]) (by simp [push_cast, h4]) | refine ret_now (by simp [push_cast]) ?_ (by simp [push_cast]) | refine end_now (by simp [push_cast]) ?_ (by simp [push_cast])) <;> (try simp only [push_cast, seval, reduceCtorEq, *, h4]))
        | ((first | refine cv_ptE rfl rfl rfl rfl rfl ?_ | refine outQ_frz rfl ?_ (by simp [push_cast]) (by simp [push_cast, h4]) | refine dfr_end (by simp) rfl ?_ (by simp [push_cast]) (by simp [push_cast, h4])) <;> (try simp only [push_cast, seval, reduceCtorEq, h4]))
        | exact cv_slE rfl rfl ⟨rfl, rfl⟩ (by simp) (by simp [take_map_len])
        | refine outQ_pan ?_ (by simp [push_cast])
        | refine outQ_unit ?_
        | refine outQ_unitN ?_
        | refine And.intro ?_ ?_
        | omega)
      all_goals (try simp only [push_cast, seval, reduceCtorEq, h4, zO])
      all_goals first
        | (simp only [*, h4, zO]; done)
        | (simp [*, h4, zO]; done)
        | (simp_all [h4, zO]; done)
        | (simp_all [h4, zO]; omega)
        | skip
  · have e : advE ⟨i, p, d, s, a, f⟩ st now = 0 := by simp [advE, hc, ha, hf]
    have e2 : avO ⟨i, p, d, s, a, f⟩ st now = ⟨i, p, d, st, a, selI (decide (st = 4)) now f⟩ := by simp [avO, e, advO]
    rw [e, e2]
    rw [hf] at ht
    clear e e2 ho hc hf ha
    by_cases h4 : st = 4
    · subst h4
      obtain ⟨c, hb, hl⟩ := l33
      refine pcall_of mixed e33 hb rfl hl r33 (by rw [n33]; simp) ?_
      clear hb hl c
      (try simp only [push_cast, seval, reduceCtorEq])
      repeat' (first
        | ((first | ((first | refine brX_split ?_ ?_ | refine gX_split ?_ ?_ | refine hX_split ?_ ?_ | refine outK_split ?_ ?_) <;> (intro xc; (try simp only [Bool.not_eq_true', Bool.not_eq_false'] at xc); have xp := xc; (try simp only [decide_eq_true_eq, decide_eq_false_iff_not, Int.not_lt, Int.not_le, ge_iff_le, gt_iff_lt, Bool.and_eq_true, Bool.or_eq_false_iff] at xp); have xq := xp; (first | simp only [← Int.not_le] at xq | simp only [← Int.not_lt] at xq | clear xq))) | refine ⟨.ret _, _, PCall.s (by first | assumption) (by simp [push_cast]), ?_⟩ | refine ⟨.ret _, _, RCall.s (RCall.sh (by first | assumption)) (by simp [push_cast]), ?_⟩ | refine ⟨_, _, SCall.lift (by first | assumption) (outR_cl (by simp [push_cast]) (by simp [push_cast])) (by simp [push_cast]), ?_⟩ | refine ⟨_, (by first | assumption), ?_⟩ | refine ⟨0, [], _, PCall.r (by first | assumption), ?_⟩ | refine ⟨_, _, (by first | assumption), ?_⟩ | refine ⟨_, _, _, RCall.sh (by first | assumption), ?_⟩ | refine ⟨_, _, _, (by first | assumption), ?_⟩ | ((fail_if_success (refine ⟨_, ?_, ?_⟩)); refine ⟨AV.any, ?_⟩) | refine ret_frz rfl ?_ (by simp [push_cast]) (by simp [push_cast]) (by simp [push_cast]) | refine end_frz rfl ?_ (by simp [push_cast]) (by simp [push_cast]) (by simp [push_cast]) | refine ret_now (by simp [push_cast]) ?_ (by simp [push_cast]) | refine end_now (by simp [push_cast]) ?_ (by simp [push_cast])) <;> (try simp only [push_cast, seval, reduceCtorEq, *]))
        | ((first | refine cv_ptE rfl rfl rfl rfl rfl ?_ | refine outQ_frz rfl ?_ (by simp [push_cast]) (by simp [push_cast]) | refine dfr_end (by simp) rfl ?_ (by simp [push_cast]) (by simp [push_cast])) <;> (try simp only [push_cast, seval, reduceCtorEq]))
        | exact cv_slE rfl rfl ⟨rfl, rfl⟩ (by simp) (by simp [take_map_len])
        | refine outQ_pan ?_ (by simp [push_cast])
        | refine outQ_unit ?_
        | refine outQ_unitN ?_
        | refine And.intro ?_ ?_
        | omega)
      all_goals (try simp only [push_cast, seval, reduceCtorEq, selI])
      all_goals first
        | (simp only [*, selI]; done)
        | (simp [*, selI]; done)
        | (simp_all [selI]; done)
        | (simp_all [selI]; omega)
        | skip
    · obtain ⟨c, hb, hl⟩ := l33
      refine pcall_of mixed e33 hb rfl hl r33 (by rw [n33]; simp) ?_
      clear hb hl c
      (try simp only [push_cast, seval, reduceCtorEq, h4])
      repeat' (first
        | ((first | ((first | refine brX_split ?_ ?_ | refine gX_split ?_ ?_ | refine hX_split ?_ ?_ | refine outK_split ?_ ?_) <;> (intro xc; (try simp only [Bool.not_eq_true', Bool.not_eq_false'] at xc); have xp := xc; (try simp only [decide_eq_true_eq, decide_eq_false_iff_not, Int.not_lt, Int.not_le, ge_iff_le, gt_iff_lt, Bool.and_eq_true, Bool.or_eq_false_iff] at xp); have xq := xp; (first | simp only [← Int.not_le] at xq | simp only [← Int.not_lt] at xq | clear xq))) | refine ⟨.ret _, _, PCall.s (by first | assumption) (by simp [push_cast, h4]), ?_⟩ | refine ⟨.ret _, _, RCall.s (RCall.sh (by first | assumption)) (by simp [push_cast, h4]), ?_⟩ | refine ⟨_, _, SCall.lift (by first | assumption) (outR_cl (by simp [push_cast]) (by simp [push_cast])) (by simp [push_cast, h4]), ?_⟩ | refine ⟨_, (by first | assumption), ?_⟩ | refine ⟨0, [], _, PCall.r (by first | assumption), ?_⟩ | refine ⟨_, _, (by first | assumption), ?_⟩ | refine ⟨_, _, _, RCall.sh (by first | assumption), ?_⟩ | refine ⟨_, _, _, (by first | assumption), ?_⟩ | ((fail_if_success (refine ⟨_, ?_, ?_⟩)); refine ⟨AV.any, ?_⟩) | refine ret_frz rfl ?_ (by simp [push_cast]) (by simp [push_cast, h4]) (by simp [push_cast, h4]) | refine end_frz rfl ?_ (by simp [push_cast]) (by simp [push_cast, h4]) (by simp [push_cast, h4]) | refine ret_now (by simp [push_cast]) ?_ (by simp [push_cast]) | refine end_now (by simp [push_cast]) ?_ (by simp [push_cast])) <;> (try simp only [push_cast, seval, reduceCtorEq, *, h4]))
        | ((first | refine cv_ptE rfl rfl rfl rfl rfl ?_ | refine outQ_frz rfl ?_ (by simp [push_cast]) (by simp [push_cast, h4]) | refine dfr_end (by simp) rfl ?_ (by simp [push_cast]) (by simp [push_cast, h4])) <;> (try simp only [push_cast, seval, reduceCtorEq, h4]))
        | exact cv_slE rfl rfl ⟨rfl, rfl⟩ (by simp) (by simp [take_map_len])
        | refine outQ_pan ?_ (by simp [push_cast])
        | refine outQ_unit ?_
        | refine outQ_unitN ?_
        | refine And.intro ?_ ?_
        | omega)
      all_goals (try simp only [push_cast, seval, reduceCtorEq, h4, selI])
      all_goals first
        | (simp only [*, h4, selI]; done)
        | (simp [*, h4, selI]; done)
        | (simp_all [h4, selI]; done)
        | (simp_all [h4, selI]; omega)
        | skip
theorem refIn_p (cw cm w now : Int) (h : ¬ IntKind.u64.wrap w = 0) : PCall prog 60 [.agg [.int .u64 cw, .int .i64 cm], .int .i64 w, .int .u64 now] (.int .i64 (inN cw cm w now)) := by
  obtain ⟨c, hb, hl⟩ := l60
  refine pcall_of mixed e60 hb rfl hl r60 (by rw [n60]; simp) ?_
  clear hb hl c
  (try simp only [push_cast, seval, reduceCtorEq, h])
  repeat' (first
    | ((first | ((first | refine brX_split ?_ ?_ | refine gX_split ?_ ?_ | refine hX_split ?_ ?_ | refine outK_split ?_ ?_) <;> (intro xc; (try simp only [Bool.not_eq_true', Bool.not_eq_false'] at xc); have xp := xc; (try simp only [decide_eq_true_eq, decide_eq_false_iff_not, Int.not_lt, Int.not_le, ge_iff_le, gt_iff_lt, Bool.and_eq_true, Bool.or_eq_false_iff] at xp); have xq := xp; (first | simp only [← Int.not_le] at xq | simp only [← Int.not_lt] at xq | clear xq))) | ((fail_if_success (refine ⟨_, ?_, ?_⟩)); refine ⟨AV.any, ?_⟩) | refine ret_frz rfl ?_ (by simp [push_cast]) (by simp [push_cast, h]) (by simp [push_cast, h]) | refine end_frz rfl ?_ (by simp [push_cast]) (by simp [push_cast, h]) (by simp [push_cast, h]) | refine ret_now (by simp [push_cast]) ?_ (by simp [push_cast]) | refine end_now (by simp [push_cast]) ?_ (by simp [push_cast])) <;> (try simp only [push_cast, seval, reduceCtorEq, *, h]))
    | ((first | refine cv_ptE rfl rfl rfl rfl rfl ?_ | refine outQ_frz rfl ?_ (by simp [push_cast]) (by simp [push_cast, h]) | refine dfr_end (by simp) rfl ?_ (by simp [push_cast]) (by simp [push_cast, h])) <;> (try simp only [push_cast, seval, reduceCtorEq, h]))
    | exact cv_slE rfl rfl ⟨rfl, rfl⟩ (by simp) (by simp [take_map_len])
    | refine outQ_pan ?_ (by simp [push_cast])
    | refine outQ_unit ?_
    | refine outQ_unitN ?_
    | refine And.intro ?_ ?_
    | omega)
  all_goals (try simp only [push_cast, seval, reduceCtorEq, h, inN, winN])
  all_goals first
    | (simp only [*, h, inN, winN]; done)
    | (simp [*, h, inN, winN]; done)
    | (simp_all [h, inN, winN]; done)
    | (simp_all [h, inN, winN]; omega)
    | skip
theorem refAsked_p (cw cm w q now : Int) : PCall prog 59 [.agg [.int .u64 cw, .int .i64 cm], .int .i64 w, .int .i64 q, .int .u64 now] (.int .i64 (askE cw cm w q now)) := by
  have h := refCount_p cw cm w q
  by_cases h0 : cntE cw cm w q = 0
  · obtain ⟨c, hb, hl⟩ := l59
    refine pcall_of mixed e59 hb rfl hl r59 (by rw [n59]; simp) ?_
    clear hb hl c
    (try simp only [push_cast, seval, reduceCtorEq, h0])
    repeat' (first
      | ((first | ((first | refine brX_split ?_ ?_ | refine gX_split ?_ ?_ | refine hX_split ?_ ?_ | refine outK_split ?_ ?_) <;> (intro xc; (try simp only [Bool.not_eq_true', Bool.not_eq_false'] at xc); have xp := xc; (try simp only [decide_eq_true_eq, decide_eq_false_iff_not, Int.not_lt, Int.not_le, ge_iff_le, gt_iff_lt, Bool.and_eq_true, Bool.or_eq_false_iff] at xp); have xq := xp; (first | simp only [← Int.not_le] at xq | simp only [← Int.not_lt] at xq | clear xq))) | refine ⟨.ret _, _, PCall.s (by first | assumption) (by simp [push_cast, h0]), ?_⟩ | refine ⟨.ret _, _, RCall.s (RCall.sh (by first | assumption)) (by simp [push_cast, h0]), ?_⟩ | refine ⟨_, _, SCall.lift (by first | assumption) (outR_cl (by simp [push_cast]) (by simp [push_cast])) (by simp [push_cast, h0]), ?_⟩ | refine ⟨_, (by first | assumption), ?_⟩ | refine ⟨0, [], _, PCall.r (by first | assumption), ?_⟩ | refine ⟨_, _, (by first | assumption), ?_⟩ | refine ⟨_, _, _, RCall.sh (by first | assumption), ?_⟩ | refine ⟨_, _, _, (by first | assumption), ?_⟩ | ((fail_if_success (refine ⟨_, ?_, ?_⟩)); refine ⟨AV.any, ?_⟩) | refine ret_frz rfl ?_ (by simp [push_cast]) (by simp [push_cast, h0]) (by simp [push_cast, h0]) | refine end_frz rfl ?_ (by simp [push_cast]) (by simp [push_cast, h0]) (by simp [push_cast, h0]) | refine ret_now (by simp [push_cast]) ?_ (by simp [push_cast]) | refine end_now (by simp [push_cast]) ?_ (by simp [push_cast])) <;> (try simp only [push_cast, seval, reduceCtorEq, *, h0]))
      | ((first | refine cv_ptE rfl rfl rfl rfl rfl ?_ | refine outQ_frz rfl ?_ (by simp [push_cast]) (by simp [push_cast, h0]) | refine dfr_end (by simp) rfl ?_ (by simp [push_cast]) (by simp [push_cast, h0])) <;> (try simp only [push_cast, seval, reduceCtorEq, h0]))
      | exact cv_slE rfl rfl ⟨rfl, rfl⟩ (by simp) (by simp [take_map_len])
      | refine outQ_pan ?_ (by simp [push_cast])
      | refine outQ_unit ?_
      | refine outQ_unitN ?_
      | refine And.intro ?_ ?_
      | omega)
    all_goals (try simp only [push_cast, seval, reduceCtorEq, h0, askE])
    all_goals first
      | (simp only [*, h0, askE]; done)
      | (simp [*, h0, askE]; done)
      | (simp_all [h0, askE]; done)
      | (simp_all [h0, askE]; omega)
      | skip
  · obtain ⟨c, hb, hl⟩ := l59
    refine pcall_of mixed e59 hb rfl hl r59 (by rw [n59]; simp) ?_
    clear hb hl c
    (try simp only [push_cast, seval, reduceCtorEq, h0])
    repeat' (first
      | ((first | ((first | refine brX_split ?_ ?_ | refine gX_split ?_ ?_ | refine hX_split ?_ ?_ | refine outK_split ?_ ?_) <;> (intro xc; (try simp only [Bool.not_eq_true', Bool.not_eq_false'] at xc); have xp := xc; (try simp only [decide_eq_true_eq, decide_eq_false_iff_not, Int.not_lt, Int.not_le, ge_iff_le, gt_iff_lt, Bool.and_eq_true, Bool.or_eq_false_iff] at xp); have xq := xp; (first | simp only [← Int.not_le] at xq | simp only [← Int.not_lt] at xq | clear xq))) | refine ⟨.ret _, _, PCall.s (by first | assumption) (by simp [push_cast, h0]), ?_⟩ | refine ⟨.ret _, _, RCall.s (RCall.sh (by first | assumption)) (by simp [push_cast, h0]), ?_⟩ | refine ⟨_, _, SCall.lift (by first | assumption) (outR_cl (by simp [push_cast]) (by simp [push_cast])) (by simp [push_cast, h0]), ?_⟩ | refine ⟨_, (by first | assumption), ?_⟩ | refine ⟨0, [], _, PCall.r (by first | assumption), ?_⟩ | refine ⟨_, _, (by first | assumption), ?_⟩ | refine ⟨_, _, _, RCall.sh (by first | assumption), ?_⟩ | refine ⟨_, _, _, (by first | assumption), ?_⟩ | ((fail_if_success (refine ⟨_, ?_, ?_⟩)); refine ⟨AV.any, ?_⟩) | refine ret_frz rfl ?_ (by simp [push_cast]) (by simp [push_cast, h0]) (by simp [push_cast, h0]) | refine end_frz rfl ?_ (by simp [push_cast]) (by simp [push_cast, h0]) (by simp [push_cast, h0]) | refine ret_now (by simp [push_cast]) ?_ (by simp [push_cast]) | refine end_now (by simp [push_cast]) ?_ (by simp [push_cast])) <;> (try simp only [push_cast, seval, reduceCtorEq, *, h0]))
      | ((first | refine cv_ptE rfl rfl rfl rfl rfl ?_ | refine outQ_frz rfl ?_ (by simp [push_cast]) (by simp [push_cast, h0]) | refine dfr_end (by simp) rfl ?_ (by simp [push_cast]) (by simp [push_cast, h0])) <;> (try simp only [push_cast, seval, reduceCtorEq, h0]))
      | exact cv_slE rfl rfl ⟨rfl, rfl⟩ (by simp) (by simp [take_map_len])
      | refine outQ_pan ?_ (by simp [push_cast])
      | refine outQ_unit ?_
      | refine outQ_unitN ?_
      | refine And.intro ?_ ?_
      | omega)
    all_goals (try simp only [push_cast, seval, reduceCtorEq, h0, askE])
    all_goals first
      | (simp only [*, h0, askE]; done)
      | (simp [*, h0, askE]; done)
      | (simp_all [h0, askE]; done)
      | (simp_all [h0, askE]; omega)
      | skip
theorem refRemaining_p (cw cm w q now : Int) : PCall prog 36 [.agg [.int .u64 cw, .int .i64 cm], .int .i64 w, .int .i64 q, .int .u64 now] (.tup [.int .i64 (remN cw cm w q now), .int .i64 (askE cw cm w q now)]) := by
  have hk := refAsked_p cw cm w q now
  by_cases h : askE cw cm w q now = 0
  · obtain ⟨h0, h3⟩ := ask0 h
    obtain ⟨h1, h2⟩ := cnt0 h0
    obtain ⟨a1, a2, a3, a4⟩ := okW_of h1
    obtain ⟨g1, g2⟩ := inN_of (w := w) (now := now) h2 (by omega)
    have hz : ¬ IntKind.u64.wrap w = 0 := by rw [wrap_small a1 a2]; omega
    have hR : remN cw cm w q now = q - inN cw cm w now := by simp [remN, h]
    have hs : IntKind.i64.wrap (q - inN cw cm w now) = q - inN cw cm w now := IntWalk.i64_in _ (by omega)
    rw [hR]
    obtain ⟨c, hb, hl⟩ := l36
    refine pcall_of mixed e36 hb rfl hl r36 (by rw [n36]; simp) ?_
    clear hb hl c
    (try simp only [push_cast, seval, reduceCtorEq, h, hs])
    repeat' (first
      | ((first | ((first | refine brX_split ?_ ?_ | refine gX_split ?_ ?_ | refine hX_split ?_ ?_ | refine outK_split ?_ ?_) <;> (intro xc; (try simp only [Bool.not_eq_true', Bool.not_eq_false'] at xc); have xp := xc; (try simp only [decide_eq_true_eq, decide_eq_false_iff_not, Int.not_lt, Int.not_le, ge_iff_le, gt_iff_lt, Bool.and_eq_true, Bool.or_eq_false_iff] at xp); have xq := xp; (first | simp only [← Int.not_le] at xq | simp only [← Int.not_lt] at xq | clear xq))) | refine ⟨.ret _, _, PCall.s (by first | assumption | exact refIn_p _ _ _ _ hz) (by simp [push_cast, h, hs]), ?_⟩ | refine ⟨.ret _, _, RCall.s (RCall.sh (by first | assumption | exact refIn_p _ _ _ _ hz)) (by simp [push_cast, h, hs]), ?_⟩ | refine ⟨_, _, SCall.lift (by first | assumption | exact refIn_p _ _ _ _ hz) (outR_cl (by simp [push_cast]) (by simp [push_cast])) (by simp [push_cast, h, hs]), ?_⟩ | refine ⟨_, (by first | assumption | exact refIn_p _ _ _ _ hz), ?_⟩ | refine ⟨0, [], _, PCall.r (by first | assumption | exact refIn_p _ _ _ _ hz), ?_⟩ | refine ⟨_, _, (by first | assumption | exact refIn_p _ _ _ _ hz), ?_⟩ | refine ⟨_, _, _, RCall.sh (by first | assumption | exact refIn_p _ _ _ _ hz), ?_⟩ | refine ⟨_, _, _, (by first | assumption | exact refIn_p _ _ _ _ hz), ?_⟩ | ((fail_if_success (refine ⟨_, ?_, ?_⟩)); refine ⟨AV.any, ?_⟩) | refine ret_frz rfl ?_ (by simp [push_cast]) (by simp [push_cast, h, hs]) (by simp [push_cast, h, hs]) | refine end_frz rfl ?_ (by simp [push_cast]) (by simp [push_cast, h, hs]) (by simp [push_cast, h, hs]) | refine ret_now (by simp [push_cast]) ?_ (by simp [push_cast]) | refine end_now (by simp [push_cast]) ?_ (by simp [push_cast])) <;> (try simp only [push_cast, seval, reduceCtorEq, *, h, hs]))
      | ((first | refine cv_ptE rfl rfl rfl rfl rfl ?_ | refine outQ_frz rfl ?_ (by simp [push_cast]) (by simp [push_cast, h, hs]) | refine dfr_end (by simp) rfl ?_ (by simp [push_cast]) (by simp [push_cast, h, hs])) <;> (try simp only [push_cast, seval, reduceCtorEq, h, hs]))
      | exact cv_slE rfl rfl ⟨rfl, rfl⟩ (by simp) (by simp [take_map_len])
      | refine outQ_pan ?_ (by simp [push_cast])
      | refine outQ_unit ?_
      | refine outQ_unitN ?_
      | refine And.intro ?_ ?_
      | omega)
    all_goals (try simp only [push_cast, seval, reduceCtorEq, h, hs])
    all_goals first
      | (simp only [*, h, hs]; done)
      | (simp [*, h, hs]; done)
      | (simp_all [h, hs]; done)
      | (simp_all [h, hs]; omega)
      | skip
  · have hR : remN cw cm w q now = 0 := by simp [remN, h]
    rw [hR]
    obtain ⟨c, hb, hl⟩ := l36
    refine pcall_of mixed e36 hb rfl hl r36 (by rw [n36]; simp) ?_
    clear hb hl c
    (try simp only [push_cast, seval, reduceCtorEq, h])
    repeat' (first
      | ((first | ((first | refine brX_split ?_ ?_ | refine gX_split ?_ ?_ | refine hX_split ?_ ?_ | refine outK_split ?_ ?_) <;> (intro xc; (try simp only [Bool.not_eq_true', Bool.not_eq_false'] at xc); have xp := xc; (try simp only [decide_eq_true_eq, decide_eq_false_iff_not, Int.not_lt, Int.not_le, ge_iff_le, gt_iff_lt, Bool.and_eq_true, Bool.or_eq_false_iff] at xp); have xq := xp; (first | simp only [← Int.not_le] at xq | simp only [← Int.not_lt] at xq | clear xq))) | refine ⟨.ret _, _, PCall.s (by first | assumption) (by simp [push_cast, h]), ?_⟩ | refine ⟨.ret _, _, RCall.s (RCall.sh (by first | assumption)) (by simp [push_cast, h]), ?_⟩ | refine ⟨_, _, SCall.lift (by first | assumption) (outR_cl (by simp [push_cast]) (by simp [push_cast])) (by simp [push_cast, h]), ?_⟩ | refine ⟨_, (by first | assumption), ?_⟩ | refine ⟨0, [], _, PCall.r (by first | assumption), ?_⟩ | refine ⟨_, _, (by first | assumption), ?_⟩ | refine ⟨_, _, _, RCall.sh (by first | assumption), ?_⟩ | refine ⟨_, _, _, (by first | assumption), ?_⟩ | ((fail_if_success (refine ⟨_, ?_, ?_⟩)); refine ⟨AV.any, ?_⟩) | refine ret_frz rfl ?_ (by simp [push_cast]) (by simp [push_cast, h]) (by simp [push_cast, h]) | refine end_frz rfl ?_ (by simp [push_cast]) (by simp [push_cast, h]) (by simp [push_cast, h]) | refine ret_now (by simp [push_cast]) ?_ (by simp [push_cast]) | refine end_now (by simp [push_cast]) ?_ (by simp [push_cast])) <;> (try simp only [push_cast, seval, reduceCtorEq, *, h]))
      | ((first | refine cv_ptE rfl rfl rfl rfl rfl ?_ | refine outQ_frz rfl ?_ (by simp [push_cast]) (by simp [push_cast, h]) | refine dfr_end (by simp) rfl ?_ (by simp [push_cast]) (by simp [push_cast, h])) <;> (try simp only [push_cast, seval, reduceCtorEq, h]))
      | exact cv_slE rfl rfl ⟨rfl, rfl⟩ (by simp) (by simp [take_map_len])
      | refine outQ_pan ?_ (by simp [push_cast])
      | refine outQ_unit ?_
      | refine outQ_unitN ?_
      | refine And.intro ?_ ?_
      | omega)
    all_goals (try simp only [push_cast, seval, reduceCtorEq, h])
    all_goals first
      | (simp only [*, h]; done)
      | (simp [*, h]; done)
      | (simp_all [h]; done)
      | (simp_all [h]; omega)
      | skip
theorem refTake_p (cw cm w q now : Int) : PCall prog 34 [.agg [.int .u64 cw, .int .i64 cm], .int .i64 w, .int .i64 q, .int .u64 now] (.tup [.agg [.int .u64 (takW cw cm w q now), .int .i64 (takM cw cm w q now)], .int .i64 (takE cw cm w q now)]) := by
  have hk := refAsked_p cw cm w q now
  by_cases h : askE cw cm w q now = 0
  · obtain ⟨h0, h3⟩ := ask0 h
    obtain ⟨h1, h2⟩ := cnt0 h0
    obtain ⟨a1, a2, a3, a4⟩ := okW_of h1
    obtain ⟨g1, g2⟩ := inN_of (w := w) (now := now) h2 (by omega)
    have hz : ¬ IntKind.u64.wrap w = 0 := by rw [wrap_small a1 a2]; omega
    have hR : remN cw cm w q now = q - inN cw cm w now := by simp [remN, h]
    have ht : IntKind.i64.wrap (inN cw cm w now + 1) = inN cw cm w now + 1 := IntWalk.i64_in _ (by omega)
    by_cases hq : inN cw cm w now = q
    · have e1 : takE cw cm w q now = 160 := by simp [takE, h, hR, hq]
      simp only [takW, takM, e1]
      obtain ⟨c, hb, hl⟩ := l34
      refine pcall_of mixed e34 hb rfl hl r34 (by rw [n34]; simp) ?_
      clear hb hl c
      (try simp only [push_cast, seval, reduceCtorEq, h, hq])
      repeat' (first
        | ((first | ((first | refine brX_split ?_ ?_ | refine gX_split ?_ ?_ | refine hX_split ?_ ?_ | refine outK_split ?_ ?_) <;> (intro xc; (try simp only [Bool.not_eq_true', Bool.not_eq_false'] at xc); have xp := xc; (try simp only [decide_eq_true_eq, decide_eq_false_iff_not, Int.not_lt, Int.not_le, ge_iff_le, gt_iff_lt, Bool.and_eq_true, Bool.or_eq_false_iff] at xp); have xq := xp; (first | simp only [← Int.not_le] at xq | simp only [← Int.not_lt] at xq | clear xq))) | refine ⟨.ret _, _, PCall.s (by first | assumption | exact refIn_p _ _ _ _ hz) (by simp [push_cast, h, hq]), ?_⟩ | refine ⟨.ret _, _, RCall.s (RCall.sh (by first | assumption | exact refIn_p _ _ _ _ hz)) (by simp [push_cast, h, hq]), ?_⟩ | refine ⟨_, _, SCall.lift (by first | assumption | exact refIn_p _ _ _ _ hz) (outR_cl (by simp [push_cast]) (by simp [push_cast])) (by simp [push_cast, h, hq]), ?_⟩ | refine ⟨_, (by first | assumption | exact refIn_p _ _ _ _ hz), ?_⟩ | refine ⟨0, [], _, PCall.r (by first | assumption | exact refIn_p _ _ _ _ hz), ?_⟩ | refine ⟨_, _, (by first | assumption | exact refIn_p _ _ _ _ hz), ?_⟩ | refine ⟨_, _, _, RCall.sh (by first | assumption | exact refIn_p _ _ _ _ hz), ?_⟩ | refine ⟨_, _, _, (by first | assumption | exact refIn_p _ _ _ _ hz), ?_⟩ | ((fail_if_success (refine ⟨_, ?_, ?_⟩)); refine ⟨AV.any, ?_⟩) | refine ret_frz rfl ?_ (by simp [push_cast]) (by simp [push_cast, h, hq]) (by simp [push_cast, h, hq]) | refine end_frz rfl ?_ (by simp [push_cast]) (by simp [push_cast, h, hq]) (by simp [push_cast, h, hq]) | refine ret_now (by simp [push_cast]) ?_ (by simp [push_cast]) | refine end_now (by simp [push_cast]) ?_ (by simp [push_cast])) <;> (try simp only [push_cast, seval, reduceCtorEq, *, h, hq]))
        | ((first | refine cv_ptE rfl rfl rfl rfl rfl ?_ | refine outQ_frz rfl ?_ (by simp [push_cast]) (by simp [push_cast, h, hq]) | refine dfr_end (by simp) rfl ?_ (by simp [push_cast]) (by simp [push_cast, h, hq])) <;> (try simp only [push_cast, seval, reduceCtorEq, h, hq]))
        | exact cv_slE rfl rfl ⟨rfl, rfl⟩ (by simp) (by simp [take_map_len])
        | refine outQ_pan ?_ (by simp [push_cast])
        | refine outQ_unit ?_
        | refine outQ_unitN ?_
        | refine And.intro ?_ ?_
        | omega)
      all_goals (try simp only [push_cast, seval, reduceCtorEq, h, hq])
      all_goals first
        | (simp only [*, h, hq]; done)
        | (simp [*, h, hq]; done)
        | (simp_all [h, hq]; done)
        | (simp_all [h, hq]; omega)
        | skip
    · have hne : ¬ q - inN cw cm w now = 0 := by omega
      have e1 : takE cw cm w q now = 0 := by simp [takE, h, hR, hne]
      have e2 : takW cw cm w q now = winN now w := by simp [takW, e1]
      have e3 : takM cw cm w q now = inN cw cm w now + 1 := by simp [takM, e1]
      rw [e1, e2, e3]
      obtain ⟨c, hb, hl⟩ := l34
      refine pcall_of mixed e34 hb rfl hl r34 (by rw [n34]; simp) ?_
      clear hb hl c
      (try simp only [push_cast, seval, reduceCtorEq, h, hq, ht, hz])
      repeat' (first
        | ((first | ((first | refine brX_split ?_ ?_ | refine gX_split ?_ ?_ | refine hX_split ?_ ?_ | refine outK_split ?_ ?_) <;> (intro xc; (try simp only [Bool.not_eq_true', Bool.not_eq_false'] at xc); have xp := xc; (try simp only [decide_eq_true_eq, decide_eq_false_iff_not, Int.not_lt, Int.not_le, ge_iff_le, gt_iff_lt, Bool.and_eq_true, Bool.or_eq_false_iff] at xp); have xq := xp; (first | simp only [← Int.not_le] at xq | simp only [← Int.not_lt] at xq | clear xq))) | refine ⟨.ret _, _, PCall.s (by first | assumption | exact refIn_p _ _ _ _ hz) (by simp [push_cast, h, hq, ht, hz]), ?_⟩ | refine ⟨.ret _, _, RCall.s (RCall.sh (by first | assumption | exact refIn_p _ _ _ _ hz)) (by simp [push_cast, h, hq, ht, hz]), ?_⟩ | refine ⟨_, _, SCall.lift (by first | assumption | exact refIn_p _ _ _ _ hz) (outR_cl (by simp [push_cast]) (by simp [push_cast])) (by simp [push_cast, h, hq, ht, hz]), ?_⟩ | refine ⟨_, (by first | assumption | exact refIn_p _ _ _ _ hz), ?_⟩ | refine ⟨0, [], _, PCall.r (by first | assumption | exact refIn_p _ _ _ _ hz), ?_⟩ | refine ⟨_, _, (by first | assumption | exact refIn_p _ _ _ _ hz), ?_⟩ | refine ⟨_, _, _, RCall.sh (by first | assumption | exact refIn_p _ _ _ _ hz), ?_⟩ | refine ⟨_, _, _, (by first | assumption | exact refIn_p _ _ _ _ hz), ?_⟩ | ((fail_if_success (refine ⟨_, ?_, ?_⟩)); refine ⟨AV.any, ?_⟩) | refine ret_frz rfl ?_ (by simp [push_cast]) (by simp [push_cast, h, hq, ht, hz]) (by simp [push_cast, h, hq, ht, hz]) | refine end_frz rfl ?_ (by simp [push_cast]) (by simp [push_cast, h, hq, ht, hz]) (by simp [push_cast, h, hq, ht, hz]) | refine ret_now (by simp [push_cast]) ?_ (by simp [push_cast]) | refine end_now (by simp [push_cast]) ?_ (by simp [push_cast])) <;> (try simp only [push_cast, seval, reduceCtorEq, *, h, hq, ht, hz]))
        | ((first | refine cv_ptE rfl rfl rfl rfl rfl ?_ | refine outQ_frz rfl ?_ (by simp [push_cast]) (by simp [push_cast, h, hq, ht, hz]) | refine dfr_end (by simp) rfl ?_ (by simp [push_cast]) (by simp [push_cast, h, hq, ht, hz])) <;> (try simp only [push_cast, seval, reduceCtorEq, h, hq, ht, hz]))
        | exact cv_slE rfl rfl ⟨rfl, rfl⟩ (by simp) (by simp [take_map_len])
        | refine outQ_pan ?_ (by simp [push_cast])
        | refine outQ_unit ?_
        | refine outQ_unitN ?_
        | refine And.intro ?_ ?_
        | omega)
      all_goals (try simp only [push_cast, seval, reduceCtorEq, h, hq, ht, hz, winN])
      all_goals first
        | (simp only [*, h, hq, ht, hz, winN]; done)
        | (simp [*, h, hq, ht, hz, winN]; done)
        | (simp_all [h, hq, ht, hz, winN]; done)
        | (simp_all [h, hq, ht, hz, winN]; omega)
        | skip
  · have e1 : takE cw cm w q now = askE cw cm w q now := by simp [takE, h]
    have e2 : takW cw cm w q now = 0 := by simp [takW, e1, h]
    have e3 : takM cw cm w q now = 0 := by simp [takM, e1, h]
    rw [e1, e2, e3]
    obtain ⟨c, hb, hl⟩ := l34
    refine pcall_of mixed e34 hb rfl hl r34 (by rw [n34]; simp) ?_
    clear hb hl c
    (try simp only [push_cast, seval, reduceCtorEq, h])
    repeat' (first
      | ((first | ((first | refine brX_split ?_ ?_ | refine gX_split ?_ ?_ | refine hX_split ?_ ?_ | refine outK_split ?_ ?_) <;> (intro xc; (try simp only [Bool.not_eq_true', Bool.not_eq_false'] at xc); have xp := xc; (try simp only [decide_eq_true_eq, decide_eq_false_iff_not, Int.not_lt, Int.not_le, ge_iff_le, gt_iff_lt, Bool.and_eq_true, Bool.or_eq_false_iff] at xp); have xq := xp; (first | simp only [← Int.not_le] at xq | simp only [← Int.not_lt] at xq | clear xq))) | refine ⟨.ret _, _, PCall.s (by first | assumption) (by simp [push_cast, h]), ?_⟩ | refine ⟨.ret _, _, RCall.s (RCall.sh (by first | assumption)) (by simp [push_cast, h]), ?_⟩ | refine ⟨_, _, SCall.lift (by first | assumption) (outR_cl (by simp [push_cast]) (by simp [push_cast])) (by simp [push_cast, h]), ?_⟩ | refine ⟨_, (by first | assumption), ?_⟩ | refine ⟨0, [], _, PCall.r (by first | assumption), ?_⟩ | refine ⟨_, _, (by first | assumption), ?_⟩ | refine ⟨_, _, _, RCall.sh (by first | assumption), ?_⟩ | refine ⟨_, _, _, (by first | assumption), ?_⟩ | ((fail_if_success (refine ⟨_, ?_, ?_⟩)); refine ⟨AV.any, ?_⟩) | refine ret_frz rfl ?_ (by simp [push_cast]) (by simp [push_cast, h]) (by simp [push_cast, h]) | refine end_frz rfl ?_ (by simp [push_cast]) (by simp [push_cast, h]) (by simp [push_cast, h]) | refine ret_now (by simp [push_cast]) ?_ (by simp [push_cast]) | refine end_now (by simp [push_cast]) ?_ (by simp [push_cast])) <;> (try simp only [push_cast, seval, reduceCtorEq, *, h]))
      | ((first | refine cv_ptE rfl rfl rfl rfl rfl ?_ | refine outQ_frz rfl ?_ (by simp [push_cast]) (by simp [push_cast, h]) | refine dfr_end (by simp) rfl ?_ (by simp [push_cast]) (by simp [push_cast, h])) <;> (try simp only [push_cast, seval, reduceCtorEq, h]))
      | exact cv_slE rfl rfl ⟨rfl, rfl⟩ (by simp) (by simp [take_map_len])
      | refine outQ_pan ?_ (by simp [push_cast])
      | refine outQ_unit ?_
      | refine outQ_unitN ?_
      | refine And.intro ?_ ?_
      | omega)
    all_goals (try simp only [push_cast, seval, reduceCtorEq, h])
    all_goals first
      | (simp only [*, h]; done)
      | (simp [*, h]; done)
      | (simp_all [h]; done)
      | (simp_all [h]; omega)
      | skip
theorem refCheckBook_p (b : Bk) (m : Tm) (h : Fit b m) : PCall prog 38 [.agg (tmc m), .agg (bkc b)] (.int .i64 (bookE b m)) := by
  have hv := refValidBook_p b m h
  have h1 : teamB m = false → bookE b m = 70 := fun e => by simp [bookE, e]
  have h2 : teamB m = true → ¬ bookE b m = 0 → bookE b m = 8 := fun e e2 => by
    unfold bookE at e2 ⊢
    cases h : (ordsB m b.os && queB b m && decide (cntE b.cw b.cm m.w m.qo = 0)) <;> simp [e, h] at e2 ⊢
  cases e : teamB m
  · obtain ⟨c, hb, hl⟩ := l38
    refine pcall_of mixed e38 hb rfl hl r38 (by rw [n38]; simp) ?_
    clear hb hl c
    (try simp only [push_cast, seval, reduceCtorEq, e])
    repeat' (first
      | ((first | ((first | refine brX_split ?_ ?_ | refine gX_split ?_ ?_ | refine hX_split ?_ ?_ | refine outK_split ?_ ?_) <;> (intro xc; (try simp only [Bool.not_eq_true', Bool.not_eq_false'] at xc); have xp := xc; (try simp only [decide_eq_true_eq, decide_eq_false_iff_not, Int.not_lt, Int.not_le, ge_iff_le, gt_iff_lt, Bool.and_eq_true, Bool.or_eq_false_iff] at xp); have xq := xp; (first | simp only [← Int.not_le] at xq | simp only [← Int.not_lt] at xq | clear xq))) | refine ⟨.ret _, _, PCall.s (by first | assumption | exact refNumbers_p _) (by simp [push_cast, e]), ?_⟩ | refine ⟨.ret _, _, RCall.s (RCall.sh (by first | assumption | exact refNumbers_p _)) (by simp [push_cast, e]), ?_⟩ | refine ⟨_, _, SCall.lift (by first | assumption | exact refNumbers_p _) (outR_cl (by simp [push_cast]) (by simp [push_cast])) (by simp [push_cast, e]), ?_⟩ | refine ⟨_, (by first | assumption | exact refNumbers_p _), ?_⟩ | refine ⟨0, [], _, PCall.r (by first | assumption | exact refNumbers_p _), ?_⟩ | refine ⟨_, _, (by first | assumption | exact refNumbers_p _), ?_⟩ | refine ⟨_, _, _, RCall.sh (by first | assumption | exact refNumbers_p _), ?_⟩ | refine ⟨_, _, _, (by first | assumption | exact refNumbers_p _), ?_⟩ | ((fail_if_success (refine ⟨_, ?_, ?_⟩)); refine ⟨AV.any, ?_⟩) | refine ret_frz rfl ?_ (by simp [push_cast]) (by simp [push_cast, e]) (by simp [push_cast, e]) | refine end_frz rfl ?_ (by simp [push_cast]) (by simp [push_cast, e]) (by simp [push_cast, e]) | refine ret_now (by simp [push_cast]) ?_ (by simp [push_cast]) | refine end_now (by simp [push_cast]) ?_ (by simp [push_cast])) <;> (try simp only [push_cast, seval, reduceCtorEq, *, e]))
      | ((first | refine cv_ptE rfl rfl rfl rfl rfl ?_ | refine outQ_frz rfl ?_ (by simp [push_cast]) (by simp [push_cast, e]) | refine dfr_end (by simp) rfl ?_ (by simp [push_cast]) (by simp [push_cast, e])) <;> (try simp only [push_cast, seval, reduceCtorEq, e]))
      | exact cv_slE rfl rfl ⟨rfl, rfl⟩ (by simp) (by simp [take_map_len])
      | refine outQ_pan ?_ (by simp [push_cast])
      | refine outQ_unit ?_
      | refine outQ_unitN ?_
      | refine And.intro ?_ ?_
      | omega)
    all_goals (try simp only [push_cast, seval, reduceCtorEq, e, h1 e])
    all_goals first
      | (simp only [*, e, h1 e]; done)
      | (simp [*, e, h1 e]; done)
      | (simp_all [e, h1 e]; done)
      | (simp_all [e, h1 e]; omega)
      | skip
  · by_cases e2 : bookE b m = 0
    · obtain ⟨c, hb, hl⟩ := l38
      refine pcall_of mixed e38 hb rfl hl r38 (by rw [n38]; simp) ?_
      clear hb hl c
      (try simp only [push_cast, seval, reduceCtorEq, e, e2])
      repeat' (first
        | ((first | ((first | refine brX_split ?_ ?_ | refine gX_split ?_ ?_ | refine hX_split ?_ ?_ | refine outK_split ?_ ?_) <;> (intro xc; (try simp only [Bool.not_eq_true', Bool.not_eq_false'] at xc); have xp := xc; (try simp only [decide_eq_true_eq, decide_eq_false_iff_not, Int.not_lt, Int.not_le, ge_iff_le, gt_iff_lt, Bool.and_eq_true, Bool.or_eq_false_iff] at xp); have xq := xp; (first | simp only [← Int.not_le] at xq | simp only [← Int.not_lt] at xq | clear xq))) | refine ⟨.ret _, _, PCall.s (by first | assumption | exact refNumbers_p _) (by simp [push_cast, e, e2]), ?_⟩ | refine ⟨.ret _, _, RCall.s (RCall.sh (by first | assumption | exact refNumbers_p _)) (by simp [push_cast, e, e2]), ?_⟩ | refine ⟨_, _, SCall.lift (by first | assumption | exact refNumbers_p _) (outR_cl (by simp [push_cast]) (by simp [push_cast])) (by simp [push_cast, e, e2]), ?_⟩ | refine ⟨_, (by first | assumption | exact refNumbers_p _), ?_⟩ | refine ⟨0, [], _, PCall.r (by first | assumption | exact refNumbers_p _), ?_⟩ | refine ⟨_, _, (by first | assumption | exact refNumbers_p _), ?_⟩ | refine ⟨_, _, _, RCall.sh (by first | assumption | exact refNumbers_p _), ?_⟩ | refine ⟨_, _, _, (by first | assumption | exact refNumbers_p _), ?_⟩ | ((fail_if_success (refine ⟨_, ?_, ?_⟩)); refine ⟨AV.any, ?_⟩) | refine ret_frz rfl ?_ (by simp [push_cast]) (by simp [push_cast, e, e2]) (by simp [push_cast, e, e2]) | refine end_frz rfl ?_ (by simp [push_cast]) (by simp [push_cast, e, e2]) (by simp [push_cast, e, e2]) | refine ret_now (by simp [push_cast]) ?_ (by simp [push_cast]) | refine end_now (by simp [push_cast]) ?_ (by simp [push_cast])) <;> (try simp only [push_cast, seval, reduceCtorEq, *, e, e2]))
        | ((first | refine cv_ptE rfl rfl rfl rfl rfl ?_ | refine outQ_frz rfl ?_ (by simp [push_cast]) (by simp [push_cast, e, e2]) | refine dfr_end (by simp) rfl ?_ (by simp [push_cast]) (by simp [push_cast, e, e2])) <;> (try simp only [push_cast, seval, reduceCtorEq, e, e2]))
        | exact cv_slE rfl rfl ⟨rfl, rfl⟩ (by simp) (by simp [take_map_len])
        | refine outQ_pan ?_ (by simp [push_cast])
        | refine outQ_unit ?_
        | refine outQ_unitN ?_
        | refine And.intro ?_ ?_
        | omega)
      all_goals (try simp only [push_cast, seval, reduceCtorEq, e, e2])
      all_goals first
        | (simp only [*, e, e2]; done)
        | (simp [*, e, e2]; done)
        | (simp_all [e, e2]; done)
        | (simp_all [e, e2]; omega)
        | skip
    · obtain ⟨c, hb, hl⟩ := l38
      refine pcall_of mixed e38 hb rfl hl r38 (by rw [n38]; simp) ?_
      clear hb hl c
      (try simp only [push_cast, seval, reduceCtorEq, e, e2])
      repeat' (first
        | ((first | ((first | refine brX_split ?_ ?_ | refine gX_split ?_ ?_ | refine hX_split ?_ ?_ | refine outK_split ?_ ?_) <;> (intro xc; (try simp only [Bool.not_eq_true', Bool.not_eq_false'] at xc); have xp := xc; (try simp only [decide_eq_true_eq, decide_eq_false_iff_not, Int.not_lt, Int.not_le, ge_iff_le, gt_iff_lt, Bool.and_eq_true, Bool.or_eq_false_iff] at xp); have xq := xp; (first | simp only [← Int.not_le] at xq | simp only [← Int.not_lt] at xq | clear xq))) | refine ⟨.ret _, _, PCall.s (by first | assumption | exact refNumbers_p _) (by simp [push_cast, e, e2]), ?_⟩ | refine ⟨.ret _, _, RCall.s (RCall.sh (by first | assumption | exact refNumbers_p _)) (by simp [push_cast, e, e2]), ?_⟩ | refine ⟨_, _, SCall.lift (by first | assumption | exact refNumbers_p _) (outR_cl (by simp [push_cast]) (by simp [push_cast])) (by simp [push_cast, e, e2]), ?_⟩ | refine ⟨_, (by first | assumption | exact refNumbers_p _), ?_⟩ | refine ⟨0, [], _, PCall.r (by first | assumption | exact refNumbers_p _), ?_⟩ | refine ⟨_, _, (by first | assumption | exact refNumbers_p _), ?_⟩ | refine ⟨_, _, _, RCall.sh (by first | assumption | exact refNumbers_p _), ?_⟩ | refine ⟨_, _, _, (by first | assumption | exact refNumbers_p _), ?_⟩ | ((fail_if_success (refine ⟨_, ?_, ?_⟩)); refine ⟨AV.any, ?_⟩) | refine ret_frz rfl ?_ (by simp [push_cast]) (by simp [push_cast, e, e2]) (by simp [push_cast, e, e2]) | refine end_frz rfl ?_ (by simp [push_cast]) (by simp [push_cast, e, e2]) (by simp [push_cast, e, e2]) | refine ret_now (by simp [push_cast]) ?_ (by simp [push_cast]) | refine end_now (by simp [push_cast]) ?_ (by simp [push_cast])) <;> (try simp only [push_cast, seval, reduceCtorEq, *, e, e2]))
        | ((first | refine cv_ptE rfl rfl rfl rfl rfl ?_ | refine outQ_frz rfl ?_ (by simp [push_cast]) (by simp [push_cast, e, e2]) | refine dfr_end (by simp) rfl ?_ (by simp [push_cast]) (by simp [push_cast, e, e2])) <;> (try simp only [push_cast, seval, reduceCtorEq, e, e2]))
        | exact cv_slE rfl rfl ⟨rfl, rfl⟩ (by simp) (by simp [take_map_len])
        | refine outQ_pan ?_ (by simp [push_cast])
        | refine outQ_unit ?_
        | refine outQ_unitN ?_
        | refine And.intro ?_ ?_
        | omega)
      all_goals (try simp only [push_cast, seval, reduceCtorEq, e, e2, h2 e e2])
      all_goals first
        | (simp only [*, e, e2, h2 e e2]; done)
        | (simp [*, e, e2, h2 e e2]; done)
        | (simp_all [e, e2, h2 e e2]; done)
        | (simp_all [e, e2, h2 e e2]; omega)
        | skip
end Go.Proofs.Ytffiicopifmmfaa
