/- Facts of the program over abstract values. No condition. -/
import Derived.Test.YtffiicopifmmfaaYg
import Derived.Test.YtffiicopifmmfaaYh
set_option linter.unusedSimpArgs false
set_option linter.unusedVariables false
set_option maxRecDepth 8000
namespace Go.Proofs.Ytffiicopifmmfaa
set_option linter.unusedSimpArgs false
set_option linter.unusedVariables false
set_option linter.unnecessarySimpa false
set_option linter.unusedSectionVars false
open Go.Proofs.Try
open Go.Proofs.Ytffiicopifmmfaa.Ai
set_option maxHeartbeats 4000000

/-! The law's calls: what the reference returns -/
theorem specified_p {b : Bk} {m : Tm} (h : Fit b m) (x : Cc) (hx : 0 ≤ x.dv) (hn : 0 ≤ x.now) : PCall prog 40 [.agg (tmc m), .agg (bkc b), .agg (clc x)] (.agg (rsc (progR b m x))) := by
  have h1 := refSubmit_p h x.p x.d x.now
  have h2 := refCancel_p h x.id
  have h3 := refAssign_p h
  have h4 := refCarry_p h x.id
  have h5 := refDone_p h x.id x.now hn
  have h6 := refGet_p h x.id
  have h7 := refTotals_p h
  have h8 := tmod7 hx
  rcases h8 with h8 | h8 | h8 | h8 | h8 | h8 | h8
  · have e : progR b m x = ⟨subR b m x.p x.d x.now, subI b m x.p x.d x.now, zO, zT, subE b m x.p x.d x.now⟩ := by simp [progR, h8]
    rw [e]
    clear e h2 h3 h4 h5 h6 h7
    generalize subR b m x.p x.d x.now = B at *
    obtain ⟨c, hb, hl⟩ := l40
    refine pcall_of mixed e40 hb rfl hl r40 (by rw [n40]; simp) ?_
    clear hb hl c
    (try simp only [push_cast, seval, reduceCtorEq, h8])
    repeat' (first
      | ((first | ((first | refine brX_split ?_ ?_ | refine gX_split ?_ ?_ | refine hX_split ?_ ?_ | refine outK_split ?_ ?_) <;> (intro xc; (try simp only [Bool.not_eq_true', Bool.not_eq_false'] at xc); have xp := xc; (try simp only [decide_eq_true_eq, decide_eq_false_iff_not, Int.not_lt, Int.not_le, ge_iff_le, gt_iff_lt, Bool.and_eq_true, Bool.or_eq_false_iff] at xp); have xq := xp; (first | simp only [← Int.not_le] at xq | simp only [← Int.not_lt] at xq | clear xq))) | refine ⟨.ret _, _, PCall.s (by first | assumption) (by simp [push_cast, h8]), ?_⟩ | refine ⟨.ret _, _, RCall.s (RCall.sh (by first | assumption)) (by simp [push_cast, h8]), ?_⟩ | refine ⟨_, _, SCall.lift (by first | assumption) (outR_cl (by simp [push_cast]) (by simp [push_cast])) (by simp [push_cast, h8]), ?_⟩ | refine ⟨_, (by first | assumption), ?_⟩ | refine ⟨0, [], _, PCall.r (by first | assumption), ?_⟩ | refine ⟨_, _, (by first | assumption), ?_⟩ | refine ⟨_, _, _, RCall.sh (by first | assumption), ?_⟩ | refine ⟨_, _, _, (by first | assumption), ?_⟩ | ((fail_if_success (refine ⟨_, ?_, ?_⟩)); refine ⟨AV.any, ?_⟩) | refine ret_frz rfl ?_ (by simp [push_cast]) (by simp [push_cast, h8]) (by simp [push_cast, h8]) | refine end_frz rfl ?_ (by simp [push_cast]) (by simp [push_cast, h8]) (by simp [push_cast, h8]) | refine ret_now (by simp [push_cast]) ?_ (by simp [push_cast]) | refine end_now (by simp [push_cast]) ?_ (by simp [push_cast])) <;> (try simp only [push_cast, seval, reduceCtorEq, *, h8]))
      | ((first | refine cv_ptE rfl rfl rfl rfl rfl ?_ | refine outQ_frz rfl ?_ (by simp [push_cast]) (by simp [push_cast, h8]) | refine dfr_end (by simp) rfl ?_ (by simp [push_cast]) (by simp [push_cast, h8])) <;> (try simp only [push_cast, seval, reduceCtorEq, h8]))
      | exact cv_slE rfl rfl ⟨rfl, rfl⟩ (by simp) (by simp [take_map_len])
      | refine outQ_pan ?_ (by simp [push_cast])
      | refine outQ_unit ?_
      | refine outQ_unitN ?_
      | refine And.intro ?_ ?_
      | omega)
    all_goals (try simp only [push_cast, seval, reduceCtorEq, h8, zO, zT])
    all_goals first
      | (simp only [*, h8, zO, zT]; done)
      | (simp [*, h8, zO, zT]; done)
      | (simp_all [h8, zO, zT]; done)
      | (simp_all [h8, zO, zT]; omega)
      | skip
  · have e : progR b m x = ⟨avR b m x.id 5 0, 0, zO, zT, avE b m x.id 5 0⟩ := by simp [progR, h8]
    rw [e]
    clear e h1 h3 h4 h5 h6 h7
    generalize avR b m x.id 5 0 = B at *
    obtain ⟨c, hb, hl⟩ := l40
    refine pcall_of mixed e40 hb rfl hl r40 (by rw [n40]; simp) ?_
    clear hb hl c
    (try simp only [push_cast, seval, reduceCtorEq, h8])
    repeat' (first
      | ((first | ((first | refine brX_split ?_ ?_ | refine gX_split ?_ ?_ | refine hX_split ?_ ?_ | refine outK_split ?_ ?_) <;> (intro xc; (try simp only [Bool.not_eq_true', Bool.not_eq_false'] at xc); have xp := xc; (try simp only [decide_eq_true_eq, decide_eq_false_iff_not, Int.not_lt, Int.not_le, ge_iff_le, gt_iff_lt, Bool.and_eq_true, Bool.or_eq_false_iff] at xp); have xq := xp; (first | simp only [← Int.not_le] at xq | simp only [← Int.not_lt] at xq | clear xq))) | refine ⟨.ret _, _, PCall.s (by first | assumption) (by simp [push_cast, h8]), ?_⟩ | refine ⟨.ret _, _, RCall.s (RCall.sh (by first | assumption)) (by simp [push_cast, h8]), ?_⟩ | refine ⟨_, _, SCall.lift (by first | assumption) (outR_cl (by simp [push_cast]) (by simp [push_cast])) (by simp [push_cast, h8]), ?_⟩ | refine ⟨_, (by first | assumption), ?_⟩ | refine ⟨0, [], _, PCall.r (by first | assumption), ?_⟩ | refine ⟨_, _, (by first | assumption), ?_⟩ | refine ⟨_, _, _, RCall.sh (by first | assumption), ?_⟩ | refine ⟨_, _, _, (by first | assumption), ?_⟩ | ((fail_if_success (refine ⟨_, ?_, ?_⟩)); refine ⟨AV.any, ?_⟩) | refine ret_frz rfl ?_ (by simp [push_cast]) (by simp [push_cast, h8]) (by simp [push_cast, h8]) | refine end_frz rfl ?_ (by simp [push_cast]) (by simp [push_cast, h8]) (by simp [push_cast, h8]) | refine ret_now (by simp [push_cast]) ?_ (by simp [push_cast]) | refine end_now (by simp [push_cast]) ?_ (by simp [push_cast])) <;> (try simp only [push_cast, seval, reduceCtorEq, *, h8]))
      | ((first | refine cv_ptE rfl rfl rfl rfl rfl ?_ | refine outQ_frz rfl ?_ (by simp [push_cast]) (by simp [push_cast, h8]) | refine dfr_end (by simp) rfl ?_ (by simp [push_cast]) (by simp [push_cast, h8])) <;> (try simp only [push_cast, seval, reduceCtorEq, h8]))
      | exact cv_slE rfl rfl ⟨rfl, rfl⟩ (by simp) (by simp [take_map_len])
      | refine outQ_pan ?_ (by simp [push_cast])
      | refine outQ_unit ?_
      | refine outQ_unitN ?_
      | refine And.intro ?_ ?_
      | omega)
    all_goals (try simp only [push_cast, seval, reduceCtorEq, h8, zO, zT])
    all_goals first
      | (simp only [*, h8, zO, zT]; done)
      | (simp [*, h8, zO, zT]; done)
      | (simp_all [h8, zO, zT]; done)
      | (simp_all [h8, zO, zT]; omega)
      | skip
  · have e : progR b m x = ⟨asR b m, asI b m, zO, zT, asE b m⟩ := by simp [progR, h8]
    rw [e]
    clear e h1 h2 h4 h5 h6 h7
    generalize asR b m = B at *
    obtain ⟨c, hb, hl⟩ := l40
    refine pcall_of mixed e40 hb rfl hl r40 (by rw [n40]; simp) ?_
    clear hb hl c
    (try simp only [push_cast, seval, reduceCtorEq, h8])
    repeat' (first
      | ((first | ((first | refine brX_split ?_ ?_ | refine gX_split ?_ ?_ | refine hX_split ?_ ?_ | refine outK_split ?_ ?_) <;> (intro xc; (try simp only [Bool.not_eq_true', Bool.not_eq_false'] at xc); have xp := xc; (try simp only [decide_eq_true_eq, decide_eq_false_iff_not, Int.not_lt, Int.not_le, ge_iff_le, gt_iff_lt, Bool.and_eq_true, Bool.or_eq_false_iff] at xp); have xq := xp; (first | simp only [← Int.not_le] at xq | simp only [← Int.not_lt] at xq | clear xq))) | refine ⟨.ret _, _, PCall.s (by first | assumption) (by simp [push_cast, h8]), ?_⟩ | refine ⟨.ret _, _, RCall.s (RCall.sh (by first | assumption)) (by simp [push_cast, h8]), ?_⟩ | refine ⟨_, _, SCall.lift (by first | assumption) (outR_cl (by simp [push_cast]) (by simp [push_cast])) (by simp [push_cast, h8]), ?_⟩ | refine ⟨_, (by first | assumption), ?_⟩ | refine ⟨0, [], _, PCall.r (by first | assumption), ?_⟩ | refine ⟨_, _, (by first | assumption), ?_⟩ | refine ⟨_, _, _, RCall.sh (by first | assumption), ?_⟩ | refine ⟨_, _, _, (by first | assumption), ?_⟩ | ((fail_if_success (refine ⟨_, ?_, ?_⟩)); refine ⟨AV.any, ?_⟩) | refine ret_frz rfl ?_ (by simp [push_cast]) (by simp [push_cast, h8]) (by simp [push_cast, h8]) | refine end_frz rfl ?_ (by simp [push_cast]) (by simp [push_cast, h8]) (by simp [push_cast, h8]) | refine ret_now (by simp [push_cast]) ?_ (by simp [push_cast]) | refine end_now (by simp [push_cast]) ?_ (by simp [push_cast])) <;> (try simp only [push_cast, seval, reduceCtorEq, *, h8]))
      | ((first | refine cv_ptE rfl rfl rfl rfl rfl ?_ | refine outQ_frz rfl ?_ (by simp [push_cast]) (by simp [push_cast, h8]) | refine dfr_end (by simp) rfl ?_ (by simp [push_cast]) (by simp [push_cast, h8])) <;> (try simp only [push_cast, seval, reduceCtorEq, h8]))
      | exact cv_slE rfl rfl ⟨rfl, rfl⟩ (by simp) (by simp [take_map_len])
      | refine outQ_pan ?_ (by simp [push_cast])
      | refine outQ_unit ?_
      | refine outQ_unitN ?_
      | refine And.intro ?_ ?_
      | omega)
    all_goals (try simp only [push_cast, seval, reduceCtorEq, h8, zO, zT])
    all_goals first
      | (simp only [*, h8, zO, zT]; done)
      | (simp [*, h8, zO, zT]; done)
      | (simp_all [h8, zO, zT]; done)
      | (simp_all [h8, zO, zT]; omega)
      | skip
  · have e : progR b m x = ⟨avR b m x.id 3 0, 0, zO, zT, avE b m x.id 3 0⟩ := by simp [progR, h8]
    rw [e]
    clear e h1 h2 h3 h5 h6 h7
    generalize avR b m x.id 3 0 = B at *
    obtain ⟨c, hb, hl⟩ := l40
    refine pcall_of mixed e40 hb rfl hl r40 (by rw [n40]; simp) ?_
    clear hb hl c
    (try simp only [push_cast, seval, reduceCtorEq, h8])
    repeat' (first
      | ((first | ((first | refine brX_split ?_ ?_ | refine gX_split ?_ ?_ | refine hX_split ?_ ?_ | refine outK_split ?_ ?_) <;> (intro xc; (try simp only [Bool.not_eq_true', Bool.not_eq_false'] at xc); have xp := xc; (try simp only [decide_eq_true_eq, decide_eq_false_iff_not, Int.not_lt, Int.not_le, ge_iff_le, gt_iff_lt, Bool.and_eq_true, Bool.or_eq_false_iff] at xp); have xq := xp; (first | simp only [← Int.not_le] at xq | simp only [← Int.not_lt] at xq | clear xq))) | refine ⟨.ret _, _, PCall.s (by first | assumption) (by simp [push_cast, h8]), ?_⟩ | refine ⟨.ret _, _, RCall.s (RCall.sh (by first | assumption)) (by simp [push_cast, h8]), ?_⟩ | refine ⟨_, _, SCall.lift (by first | assumption) (outR_cl (by simp [push_cast]) (by simp [push_cast])) (by simp [push_cast, h8]), ?_⟩ | refine ⟨_, (by first | assumption), ?_⟩ | refine ⟨0, [], _, PCall.r (by first | assumption), ?_⟩ | refine ⟨_, _, (by first | assumption), ?_⟩ | refine ⟨_, _, _, RCall.sh (by first | assumption), ?_⟩ | refine ⟨_, _, _, (by first | assumption), ?_⟩ | ((fail_if_success (refine ⟨_, ?_, ?_⟩)); refine ⟨AV.any, ?_⟩) | refine ret_frz rfl ?_ (by simp [push_cast]) (by simp [push_cast, h8]) (by simp [push_cast, h8]) | refine end_frz rfl ?_ (by simp [push_cast]) (by simp [push_cast, h8]) (by simp [push_cast, h8]) | refine ret_now (by simp [push_cast]) ?_ (by simp [push_cast]) | refine end_now (by simp [push_cast]) ?_ (by simp [push_cast])) <;> (try simp only [push_cast, seval, reduceCtorEq, *, h8]))
      | ((first | refine cv_ptE rfl rfl rfl rfl rfl ?_ | refine outQ_frz rfl ?_ (by simp [push_cast]) (by simp [push_cast, h8]) | refine dfr_end (by simp) rfl ?_ (by simp [push_cast]) (by simp [push_cast, h8])) <;> (try simp only [push_cast, seval, reduceCtorEq, h8]))
      | exact cv_slE rfl rfl ⟨rfl, rfl⟩ (by simp) (by simp [take_map_len])
      | refine outQ_pan ?_ (by simp [push_cast])
      | refine outQ_unit ?_
      | refine outQ_unitN ?_
      | refine And.intro ?_ ?_
      | omega)
    all_goals (try simp only [push_cast, seval, reduceCtorEq, h8, zO, zT])
    all_goals first
      | (simp only [*, h8, zO, zT]; done)
      | (simp [*, h8, zO, zT]; done)
      | (simp_all [h8, zO, zT]; done)
      | (simp_all [h8, zO, zT]; omega)
      | skip
  · have e : progR b m x = ⟨avR b m x.id 4 x.now, 0, zO, zT, avE b m x.id 4 x.now⟩ := by simp [progR, h8]
    rw [e]
    clear e h1 h2 h3 h4 h6 h7
    generalize avR b m x.id 4 x.now = B at *
    obtain ⟨c, hb, hl⟩ := l40
    refine pcall_of mixed e40 hb rfl hl r40 (by rw [n40]; simp) ?_
    clear hb hl c
    (try simp only [push_cast, seval, reduceCtorEq, h8])
    repeat' (first
      | ((first | ((first | refine brX_split ?_ ?_ | refine gX_split ?_ ?_ | refine hX_split ?_ ?_ | refine outK_split ?_ ?_) <;> (intro xc; (try simp only [Bool.not_eq_true', Bool.not_eq_false'] at xc); have xp := xc; (try simp only [decide_eq_true_eq, decide_eq_false_iff_not, Int.not_lt, Int.not_le, ge_iff_le, gt_iff_lt, Bool.and_eq_true, Bool.or_eq_false_iff] at xp); have xq := xp; (first | simp only [← Int.not_le] at xq | simp only [← Int.not_lt] at xq | clear xq))) | refine ⟨.ret _, _, PCall.s (by first | assumption) (by simp [push_cast, h8]), ?_⟩ | refine ⟨.ret _, _, RCall.s (RCall.sh (by first | assumption)) (by simp [push_cast, h8]), ?_⟩ | refine ⟨_, _, SCall.lift (by first | assumption) (outR_cl (by simp [push_cast]) (by simp [push_cast])) (by simp [push_cast, h8]), ?_⟩ | refine ⟨_, (by first | assumption), ?_⟩ | refine ⟨0, [], _, PCall.r (by first | assumption), ?_⟩ | refine ⟨_, _, (by first | assumption), ?_⟩ | refine ⟨_, _, _, RCall.sh (by first | assumption), ?_⟩ | refine ⟨_, _, _, (by first | assumption), ?_⟩ | ((fail_if_success (refine ⟨_, ?_, ?_⟩)); refine ⟨AV.any, ?_⟩) | refine ret_frz rfl ?_ (by simp [push_cast]) (by simp [push_cast, h8]) (by simp [push_cast, h8]) | refine end_frz rfl ?_ (by simp [push_cast]) (by simp [push_cast, h8]) (by simp [push_cast, h8]) | refine ret_now (by simp [push_cast]) ?_ (by simp [push_cast]) | refine end_now (by simp [push_cast]) ?_ (by simp [push_cast])) <;> (try simp only [push_cast, seval, reduceCtorEq, *, h8]))
      | ((first | refine cv_ptE rfl rfl rfl rfl rfl ?_ | refine outQ_frz rfl ?_ (by simp [push_cast]) (by simp [push_cast, h8]) | refine dfr_end (by simp) rfl ?_ (by simp [push_cast]) (by simp [push_cast, h8])) <;> (try simp only [push_cast, seval, reduceCtorEq, h8]))
      | exact cv_slE rfl rfl ⟨rfl, rfl⟩ (by simp) (by simp [take_map_len])
      | refine outQ_pan ?_ (by simp [push_cast])
      | refine outQ_unit ?_
      | refine outQ_unitN ?_
      | refine And.intro ?_ ?_
      | omega)
    all_goals (try simp only [push_cast, seval, reduceCtorEq, h8, zO, zT])
    all_goals first
      | (simp only [*, h8, zO, zT]; done)
      | (simp [*, h8, zO, zT]; done)
      | (simp_all [h8, zO, zT]; done)
      | (simp_all [h8, zO, zT]; omega)
      | skip
  · have e : progR b m x = ⟨zB, 0, gtO b m x.id, zT, ordE b m x.id⟩ := by simp [progR, h8]
    rw [e]
    clear e h1 h2 h3 h4 h5 h7
    generalize gtO b m x.id = B at *
    obtain ⟨c, hb, hl⟩ := l40
    refine pcall_of mixed e40 hb rfl hl r40 (by rw [n40]; simp) ?_
    clear hb hl c
    (try simp only [push_cast, seval, reduceCtorEq, h8])
    repeat' (first
      | ((first | ((first | refine brX_split ?_ ?_ | refine gX_split ?_ ?_ | refine hX_split ?_ ?_ | refine outK_split ?_ ?_) <;> (intro xc; (try simp only [Bool.not_eq_true', Bool.not_eq_false'] at xc); have xp := xc; (try simp only [decide_eq_true_eq, decide_eq_false_iff_not, Int.not_lt, Int.not_le, ge_iff_le, gt_iff_lt, Bool.and_eq_true, Bool.or_eq_false_iff] at xp); have xq := xp; (first | simp only [← Int.not_le] at xq | simp only [← Int.not_lt] at xq | clear xq))) | refine ⟨.ret _, _, PCall.s (by first | assumption) (by simp [push_cast, h8]), ?_⟩ | refine ⟨.ret _, _, RCall.s (RCall.sh (by first | assumption)) (by simp [push_cast, h8]), ?_⟩ | refine ⟨_, _, SCall.lift (by first | assumption) (outR_cl (by simp [push_cast]) (by simp [push_cast])) (by simp [push_cast, h8]), ?_⟩ | refine ⟨_, (by first | assumption), ?_⟩ | refine ⟨0, [], _, PCall.r (by first | assumption), ?_⟩ | refine ⟨_, _, (by first | assumption), ?_⟩ | refine ⟨_, _, _, RCall.sh (by first | assumption), ?_⟩ | refine ⟨_, _, _, (by first | assumption), ?_⟩ | ((fail_if_success (refine ⟨_, ?_, ?_⟩)); refine ⟨AV.any, ?_⟩) | refine ret_frz rfl ?_ (by simp [push_cast]) (by simp [push_cast, h8]) (by simp [push_cast, h8]) | refine end_frz rfl ?_ (by simp [push_cast]) (by simp [push_cast, h8]) (by simp [push_cast, h8]) | refine ret_now (by simp [push_cast]) ?_ (by simp [push_cast]) | refine end_now (by simp [push_cast]) ?_ (by simp [push_cast])) <;> (try simp only [push_cast, seval, reduceCtorEq, *, h8]))
      | ((first | refine cv_ptE rfl rfl rfl rfl rfl ?_ | refine outQ_frz rfl ?_ (by simp [push_cast]) (by simp [push_cast, h8]) | refine dfr_end (by simp) rfl ?_ (by simp [push_cast]) (by simp [push_cast, h8])) <;> (try simp only [push_cast, seval, reduceCtorEq, h8]))
      | exact cv_slE rfl rfl ⟨rfl, rfl⟩ (by simp) (by simp [take_map_len])
      | refine outQ_pan ?_ (by simp [push_cast])
      | refine outQ_unit ?_
      | refine outQ_unitN ?_
      | refine And.intro ?_ ?_
      | omega)
    all_goals (try simp only [push_cast, seval, reduceCtorEq, h8, zB, zO, zT])
    all_goals first
      | (simp only [*, h8, zB, zO, zT]; done)
      | (simp [*, h8, zB, zO, zT]; done)
      | (simp_all [h8, zB, zO, zT]; done)
      | (simp_all [h8, zB, zO, zT]; omega)
      | skip
  · have e : progR b m x = ⟨zB, 0, zO, ttT b m, bookE b m⟩ := by simp [progR, h8]
    rw [e]
    clear e h1 h2 h3 h4 h5 h6
    generalize ttT b m = B at *
    obtain ⟨c, hb, hl⟩ := l40
    refine pcall_of mixed e40 hb rfl hl r40 (by rw [n40]; simp) ?_
    clear hb hl c
    (try simp only [push_cast, seval, reduceCtorEq, h8])
    repeat' (first
      | ((first | ((first | refine brX_split ?_ ?_ | refine gX_split ?_ ?_ | refine hX_split ?_ ?_ | refine outK_split ?_ ?_) <;> (intro xc; (try simp only [Bool.not_eq_true', Bool.not_eq_false'] at xc); have xp := xc; (try simp only [decide_eq_true_eq, decide_eq_false_iff_not, Int.not_lt, Int.not_le, ge_iff_le, gt_iff_lt, Bool.and_eq_true, Bool.or_eq_false_iff] at xp); have xq := xp; (first | simp only [← Int.not_le] at xq | simp only [← Int.not_lt] at xq | clear xq))) | refine ⟨.ret _, _, PCall.s (by first | assumption) (by simp [push_cast, h8]), ?_⟩ | refine ⟨.ret _, _, RCall.s (RCall.sh (by first | assumption)) (by simp [push_cast, h8]), ?_⟩ | refine ⟨_, _, SCall.lift (by first | assumption) (outR_cl (by simp [push_cast]) (by simp [push_cast])) (by simp [push_cast, h8]), ?_⟩ | refine ⟨_, (by first | assumption), ?_⟩ | refine ⟨0, [], _, PCall.r (by first | assumption), ?_⟩ | refine ⟨_, _, (by first | assumption), ?_⟩ | refine ⟨_, _, _, RCall.sh (by first | assumption), ?_⟩ | refine ⟨_, _, _, (by first | assumption), ?_⟩ | ((fail_if_success (refine ⟨_, ?_, ?_⟩)); refine ⟨AV.any, ?_⟩) | refine ret_frz rfl ?_ (by simp [push_cast]) (by simp [push_cast, h8]) (by simp [push_cast, h8]) | refine end_frz rfl ?_ (by simp [push_cast]) (by simp [push_cast, h8]) (by simp [push_cast, h8]) | refine ret_now (by simp [push_cast]) ?_ (by simp [push_cast]) | refine end_now (by simp [push_cast]) ?_ (by simp [push_cast])) <;> (try simp only [push_cast, seval, reduceCtorEq, *, h8]))
      | ((first | refine cv_ptE rfl rfl rfl rfl rfl ?_ | refine outQ_frz rfl ?_ (by simp [push_cast]) (by simp [push_cast, h8]) | refine dfr_end (by simp) rfl ?_ (by simp [push_cast]) (by simp [push_cast, h8])) <;> (try simp only [push_cast, seval, reduceCtorEq, h8]))
      | exact cv_slE rfl rfl ⟨rfl, rfl⟩ (by simp) (by simp [take_map_len])
      | refine outQ_pan ?_ (by simp [push_cast])
      | refine outQ_unit ?_
      | refine outQ_unitN ?_
      | refine And.intro ?_ ?_
      | omega)
    all_goals (try simp only [push_cast, seval, reduceCtorEq, h8, zB, zO, zT])
    all_goals first
      | (simp only [*, h8, zB, zO, zT]; done)
      | (simp [*, h8, zB, zO, zT]; done)
      | (simp_all [h8, zB, zO, zT]; done)
      | (simp_all [h8, zB, zO, zT]; omega)
      | skip
end Go.Proofs.Ytffiicopifmmfaa
