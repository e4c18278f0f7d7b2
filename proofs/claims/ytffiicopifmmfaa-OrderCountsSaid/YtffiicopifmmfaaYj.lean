/- Facts of the program over abstract values. No condition. -/
import Derived.Test.YtffiicopifmmfaaYa
set_option linter.unusedSimpArgs false
set_option linter.unusedVariables false
set_option maxRecDepth 8000
namespace Go.Proofs.Ytffiicopifmmfaa
set_option linter.unusedSimpArgs false
set_option linter.unusedVariables false
set_option linter.unnecessarySimpa false
set_option linter.unusedSectionVars false
open Go.Proofs.Try
open Go.Proofs.Ytffiicopifmmfaa.Ai
set_option maxHeartbeats 4000000

theorem new_p (i p d a : Int) : PCall prog 16 [.int .i64 i, .int .i64 p, .int .i64 d, .int .u64 a] (.tup [.agg (oc (nwO i p d a)), .int .i64 (newE i p d a)]) := by
  by_cases h : chkE i p d 1 a 0 = 0
  · have e : newE i p d a = 0 := by simp [newE, h]
    have e2 : nwO i p d a = ⟨i, p, d, 1, a, 0⟩ := by simp [nwO, e]
    rw [e, e2]; exact new_ok i p d a h
  · have e : newE i p d a = 2 := by simp [newE, h]
    have e2 : nwO i p d a = zO := by simp [nwO, e]
    rw [e, e2]; exact new_bad i p d a h
theorem advance_p (o : O) (st now : Int) : PCall prog 18 [.agg (oc o), .int .u8 st, .int .u64 now] (.tup [.agg (oc (avO o st now)), .int .i64 (advE o st now)]) := by
  by_cases h : advE o st now = 0
  · have e2 : avO o st now = advO o st now := by simp [avO, h]
    rw [h, e2]; exact adv_ok o st now h
  · have e2 : avO o st now = zO := by simp [avO, h]
    rw [e2]; exact adv_bad o st now h
theorem law_states (id pick drop now : Int) (o : O) (st : Int) : PCall prog 4 [.int .i64 id, .int .i64 pick, .int .i64 drop, .int .u64 now, .agg (oc o), .int .u8 st] (.bool true) := by
  have h1 := new_p id pick drop now
  have h2 := refNew_p id pick drop now
  have h3 := advance_p o st now
  have h4 := refAdvance_p o st now
  have h5 := check_p o.i o.p o.d o.s o.a o.f
  have h6 := refCheck_p o.i o.p o.d o.s o.a o.f
  generalize nwO id pick drop now = A at *
  generalize newE id pick drop now = E at *
  generalize avO o st now = A2 at *
  generalize advE o st now = E2 at *
  generalize chkE o.i o.p o.d o.s o.a o.f = E3 at *
  obtain ⟨c, hb, hl⟩ := l4
  refine pcall_of mixed e4 hb rfl hl r4 (by rw [n4]; simp) ?_
  clear hb hl c
  (try simp only [push_cast, seval, reduceCtorEq])
  repeat' (first
    | ((first | ((first | refine brX_split ?_ ?_ | refine gX_split ?_ ?_ | refine hX_split ?_ ?_ | refine outK_split ?_ ?_) <;> (intro xc; (try simp only [Bool.not_eq_true', Bool.not_eq_false'] at xc); have xp := xc; (try simp only [decide_eq_true_eq, decide_eq_false_iff_not, Int.not_lt, Int.not_le, ge_iff_le, gt_iff_lt, Bool.and_eq_true, Bool.or_eq_false_iff] at xp); have xq := xp; (first | simp only [← Int.not_le] at xq | simp only [← Int.not_lt] at xq | clear xq))) | refine ⟨.ret _, _, PCall.s (by first | assumption) (by simp [push_cast]), ?_⟩ | refine ⟨.ret _, _, RCall.s (RCall.sh (by first | assumption)) (by simp [push_cast]), ?_⟩ | refine ⟨_, _, SCall.lift (by first | assumption) (outR_cl (by simp [push_cast]) (by simp [push_cast])) (by simp [push_cast]), ?_⟩ | refine ⟨_, (by first | assumption), ?_⟩ | refine ⟨0, [], _, PCall.r (by first | assumption), ?_⟩ | refine ⟨_, _, (by first | assumption), ?_⟩ | refine ⟨_, _, _, RCall.sh (by first | assumption), ?_⟩ | refine ⟨_, _, _, (by first | assumption), ?_⟩ | ((fail_if_success (refine ⟨_, ?_, ?_⟩)); refine ⟨AV.any, ?_⟩) | refine ret_frz rfl ?_ (by simp [push_cast]) (by simp [push_cast]) (by simp [push_cast]) | refine end_frz rfl ?_ (by simp [push_cast]) (by simp [push_cast]) (by simp [push_cast]) | refine ret_now (by simp [push_cast]) ?_ (by simp [push_cast]) | refine end_now (by simp [push_cast]) ?_ (by simp [push_cast])) <;> (try simp only [push_cast, seval, reduceCtorEq, *]))
    | ((first | refine cv_ptE rfl rfl rfl rfl rfl ?_ | refine outQ_frz rfl ?_ (by simp [push_cast]) (by simp [push_cast]) | refine dfr_end (by simp) rfl ?_ (by simp [push_cast]) (by simp [push_cast])) <;> (try simp only [push_cast, seval, reduceCtorEq]))
    | exact cv_slE rfl rfl ⟨rfl, rfl⟩ (by simp) (by simp [take_map_len])
    | refine outQ_pan ?_ (by simp [push_cast])
    | refine outQ_unit ?_
    | refine outQ_unitN ?_
    | refine And.intro ?_ ?_
    | omega)
  all_goals (try simp only [push_cast, seval, reduceCtorEq])
  all_goals first
    | (simp only [*]; done)
    | (simp [*]; done)
    | (simp_all []; done)
    | (simp_all []; omega)
    | skip
theorem law_counts (cw cm w q now : Int) : PCall prog 5 [.agg [.int .u64 cw, .int .i64 cm], .int .i64 w, .int .i64 q, .int .u64 now] (.bool true) := by
  have h1 := take_p cw cm w q now
  have h2 := refTake_p cw cm w q now
  have h3 := remaining_p cw cm w q now
  have h4 := refRemaining_p cw cm w q now
  have h5 := count_p cw cm w q
  have h6 := refCount_p cw cm w q
  generalize takW cw cm w q now = A at *
  generalize takM cw cm w q now = A1 at *
  generalize takE cw cm w q now = E at *
  generalize remN cw cm w q now = A2 at *
  generalize askE cw cm w q now = E2 at *
  generalize cntE cw cm w q = E3 at *
  obtain ⟨c, hb, hl⟩ := l5
  refine pcall_of mixed e5 hb rfl hl r5 (by rw [n5]; simp) ?_
  clear hb hl c
  (try simp only [push_cast, seval, reduceCtorEq])
  repeat' (first
    | ((first | ((first | refine brX_split ?_ ?_ | refine gX_split ?_ ?_ | refine hX_split ?_ ?_ | refine outK_split ?_ ?_) <;> (intro xc; (try simp only [Bool.not_eq_true', Bool.not_eq_false'] at xc); have xp := xc; (try simp only [decide_eq_true_eq, decide_eq_false_iff_not, Int.not_lt, Int.not_le, ge_iff_le, gt_iff_lt, Bool.and_eq_true, Bool.or_eq_false_iff] at xp); have xq := xp; (first | simp only [← Int.not_le] at xq | simp only [← Int.not_lt] at xq | clear xq))) | refine ⟨.ret _, _, PCall.s (by first | assumption) (by simp [push_cast]), ?_⟩ | refine ⟨.ret _, _, RCall.s (RCall.sh (by first | assumption)) (by simp [push_cast]), ?_⟩ | refine ⟨_, _, SCall.lift (by first | assumption) (outR_cl (by simp [push_cast]) (by simp [push_cast])) (by simp [push_cast]), ?_⟩ | refine ⟨_, (by first | assumption), ?_⟩ | refine ⟨0, [], _, PCall.r (by first | assumption), ?_⟩ | refine ⟨_, _, (by first | assumption), ?_⟩ | refine ⟨_, _, _, RCall.sh (by first | assumption), ?_⟩ | refine ⟨_, _, _, (by first | assumption), ?_⟩ | ((fail_if_success (refine ⟨_, ?_, ?_⟩)); refine ⟨AV.any, ?_⟩) | refine ret_frz rfl ?_ (by simp [push_cast]) (by simp [push_cast]) (by simp [push_cast]) | refine end_frz rfl ?_ (by simp [push_cast]) (by simp [push_cast]) (by simp [push_cast]) | refine ret_now (by simp [push_cast]) ?_ (by simp [push_cast]) | refine end_now (by simp [push_cast]) ?_ (by simp [push_cast])) <;> (try simp only [push_cast, seval, reduceCtorEq, *]))
    | ((first | refine cv_ptE rfl rfl rfl rfl rfl ?_ | refine outQ_frz rfl ?_ (by simp [push_cast]) (by simp [push_cast]) | refine dfr_end (by simp) rfl ?_ (by simp [push_cast]) (by simp [push_cast])) <;> (try simp only [push_cast, seval, reduceCtorEq]))
    | exact cv_slE rfl rfl ⟨rfl, rfl⟩ (by simp) (by simp [take_map_len])
    | refine outQ_pan ?_ (by simp [push_cast])
    | refine outQ_unit ?_
    | refine outQ_unitN ?_
    | refine And.intro ?_ ?_
    | omega)
  all_goals (try simp only [push_cast, seval, reduceCtorEq])
  all_goals first
    | (simp only [*]; done)
    | (simp [*]; done)
    | (simp_all []; done)
    | (simp_all []; omega)
    | skip
end Go.Proofs.Ytffiicopifmmfaa
