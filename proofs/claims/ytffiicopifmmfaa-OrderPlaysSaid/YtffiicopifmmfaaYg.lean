/- Facts of the program over abstract values. No condition. -/
import Derived.Test.YtffiicopifmmfaaYe
set_option linter.unusedSimpArgs false
set_option linter.unusedVariables false
set_option maxRecDepth 8000
namespace Go.Proofs.Ytffiicopifmmfaa
set_option linter.unusedSimpArgs false
set_option linter.unusedVariables false
set_option linter.unnecessarySimpa false
set_option linter.unusedSectionVars false
open Go.Proofs.Try
open Go.Proofs.Ytffiicopifmmfaa.Ai
set_option maxHeartbeats 4000000

theorem spots_bad {m : Tm} {p d now : Int} (h : (spotsB m p d && decide (now ≤ 4611686018427387904)) = false) : p < 0 ∨ (m.p.length : Int) ≤ p ∨ d < 0 ∨ (m.d.length : Int) ≤ d ∨ 4611686018427387904 < now := by
  simp [spotsB, inB] at h
  omega
theorem spots_ok {m : Tm} {p d now : Int} (h : (spotsB m p d && decide (now ≤ 4611686018427387904)) = true) : 0 ≤ p ∧ p < (m.p.length : Int) ∧ 0 ≤ d ∧ d < (m.d.length : Int) ∧ now ≤ 4611686018427387904 := by
  simp [spotsB, inB] at h
  omega
theorem twin_nil (cw cm : Int) : PCall prog 37 [.agg (bkc ⟨[], [], cw, cm⟩)] (.agg [.nils, .nils, .int .u64 cw, .int .i64 cm]) := by
  obtain ⟨c, hb, hl⟩ := l37
  refine pcall_of mixed e37 hb rfl hl r37 (by rw [n37]; simp) ?_
  clear hb hl c
  (try simp only [push_cast, seval, reduceCtorEq])
  repeat' (first
    | ((first | ((first | refine brX_split ?_ ?_ | refine gX_split ?_ ?_ | refine hX_split ?_ ?_ | refine outK_split ?_ ?_) <;> (intro xc; (try simp only [Bool.not_eq_true', Bool.not_eq_false'] at xc); have xp := xc; (try simp only [decide_eq_true_eq, decide_eq_false_iff_not, Int.not_lt, Int.not_le, ge_iff_le, gt_iff_lt, Bool.and_eq_true, Bool.or_eq_false_iff] at xp); have xq := xp; (first | simp only [← Int.not_le] at xq | simp only [← Int.not_lt] at xq | clear xq))) | ((fail_if_success (refine ⟨_, ?_, ?_⟩)); refine ⟨AV.any, ?_⟩) | refine ret_frz rfl ?_ (by simp [push_cast]) (by simp [push_cast]) (by simp [push_cast]) | refine end_frz rfl ?_ (by simp [push_cast]) (by simp [push_cast]) (by simp [push_cast]) | refine ret_now (by simp [push_cast]) ?_ (by simp [push_cast]) | refine end_now (by simp [push_cast]) ?_ (by simp [push_cast])) <;> (try simp only [push_cast, seval, reduceCtorEq, *]))
    | ((first | refine cv_ptE rfl rfl rfl rfl rfl ?_ | refine outQ_frz rfl ?_ (by simp [push_cast]) (by simp [push_cast]) | refine dfr_end (by simp) rfl ?_ (by simp [push_cast]) (by simp [push_cast])) <;> (try simp only [push_cast, seval, reduceCtorEq]))
    | exact cv_slE rfl rfl ⟨rfl, rfl⟩ (by simp) (by simp [take_map_len])
    | refine outQ_pan ?_ (by simp [push_cast])
    | refine outQ_unit ?_
    | refine outQ_unitN ?_
    | refine And.intro ?_ ?_
    | omega)
  all_goals (try simp only [push_cast, seval, reduceCtorEq])
  all_goals first
    | (simp only [*]; done)
    | (simp [*]; done)
    | (simp_all []; done)
    | (simp_all []; omega)
    | skip
theorem refSubmit_p {b : Bk} {m : Tm} (h : Fit b m) (p d now : Int) : PCall prog 61 [.agg (tmc m), .agg (bkc b), .int .i64 p, .int .i64 d, .int .u64 now] (.tup [.agg (bkc (subR b m p d now)), .int .i64 (subI b m p d now), .int .i64 (subE b m p d now)]) := by
  have hc := refCheckBook_p b m h
  by_cases hE : subE b m p d now = 0
  case neg =>
    have e2 : subR b m p d now = zB := by simp [subR, hE]
    have e3 : subI b m p d now = 0 := by simp [subI, hE]
    rw [e2, e3]
    clear e2 e3
    by_cases h0 : bookE b m = 0
    case neg =>
      have e : subE b m p d now = bookE b m := by simp [subE, h0]
      rw [e]
      obtain ⟨c, hb, hl⟩ := l61
      refine pcall_of mixed e61 hb rfl hl r61 (by rw [n61]; simp) ?_
      clear hb hl c
      (try simp only [push_cast, seval, reduceCtorEq, h0])
      repeat' (first
        | ((first | ((first | refine brX_split ?_ ?_ | refine gX_split ?_ ?_ | refine hX_split ?_ ?_ | refine outK_split ?_ ?_) <;> (intro xc; (try simp only [Bool.not_eq_true', Bool.not_eq_false'] at xc); have xp := xc; (try simp only [decide_eq_true_eq, decide_eq_false_iff_not, Int.not_lt, Int.not_le, ge_iff_le, gt_iff_lt, Bool.and_eq_true, Bool.or_eq_false_iff] at xp); have xq := xp; (first | simp only [← Int.not_le] at xq | simp only [← Int.not_lt] at xq | clear xq))) | refine ⟨.ret _, _, PCall.s (by first | assumption) (by simp [push_cast, h0]), ?_⟩ | refine ⟨.ret _, _, RCall.s (RCall.sh (by first | assumption)) (by simp [push_cast, h0]), ?_⟩ | refine ⟨_, _, SCall.lift (by first | assumption) (outR_cl (by simp [push_cast]) (by simp [push_cast])) (by simp [push_cast, h0]), ?_⟩ | refine ⟨_, (by first | assumption), ?_⟩ | refine ⟨0, [], _, PCall.r (by first | assumption), ?_⟩ | refine ⟨_, _, (by first | assumption), ?_⟩ | refine ⟨_, _, _, RCall.sh (by first | assumption), ?_⟩ | refine ⟨_, _, _, (by first | assumption), ?_⟩ | ((fail_if_success (refine ⟨_, ?_, ?_⟩)); refine ⟨AV.any, ?_⟩) | refine ret_frz rfl ?_ (by simp [push_cast]) (by simp [push_cast, h0]) (by simp [push_cast, h0]) | refine end_frz rfl ?_ (by simp [push_cast]) (by simp [push_cast, h0]) (by simp [push_cast, h0]) | refine ret_now (by simp [push_cast]) ?_ (by simp [push_cast]) | refine end_now (by simp [push_cast]) ?_ (by simp [push_cast])) <;> (try simp only [push_cast, seval, reduceCtorEq, *, h0]))
        | ((first | refine cv_ptE rfl rfl rfl rfl rfl ?_ | refine outQ_frz rfl ?_ (by simp [push_cast]) (by simp [push_cast, h0]) | refine dfr_end (by simp) rfl ?_ (by simp [push_cast]) (by simp [push_cast, h0])) <;> (try simp only [push_cast, seval, reduceCtorEq, h0]))
        | exact cv_slE rfl rfl ⟨rfl, rfl⟩ (by simp) (by simp [take_map_len])
        | refine outQ_pan ?_ (by simp [push_cast])
        | refine outQ_unit ?_
        | refine outQ_unitN ?_
        | refine And.intro ?_ ?_
        | omega)
      all_goals (try simp only [push_cast, seval, reduceCtorEq, h0, zB])
      all_goals first
        | (simp only [*, h0, zB]; done)
        | (simp [*, h0, zB]; done)
        | (simp_all [h0, zB]; done)
        | (simp_all [h0, zB]; omega)
        | skip
    rw [h0] at hc
    have ht := refTake_p b.cw b.cm m.w m.qo now
    have hl := book0_len h0
    cases ha : spotsB m p d && decide (now ≤ 4611686018427387904)
    · have e : subE b m p d now = 2 := by simp only [subE, h0, ha, decide_true, cond_true, cond_false]
      rw [e]
      have ha' := spots_bad ha
      clear e ha hE ht
      obtain ⟨c, hb, hl⟩ := l61
      refine pcall_of mixed e61 hb rfl hl r61 (by rw [n61]; simp) ?_
      clear hb hl c
      (try simp only [push_cast, seval, reduceCtorEq])
      repeat' (first
        | ((first | ((first | refine brX_split ?_ ?_ | refine gX_split ?_ ?_ | refine hX_split ?_ ?_ | refine outK_split ?_ ?_) <;> (intro xc; (try simp only [Bool.not_eq_true', Bool.not_eq_false'] at xc); have xp := xc; (try simp only [decide_eq_true_eq, decide_eq_false_iff_not, Int.not_lt, Int.not_le, ge_iff_le, gt_iff_lt, Bool.and_eq_true, Bool.or_eq_false_iff] at xp); have xq := xp; (first | simp only [← Int.not_le] at xq | simp only [← Int.not_lt] at xq | clear xq))) | refine ⟨.ret _, _, PCall.s (by first | assumption) (by simp [push_cast]), ?_⟩ | refine ⟨.ret _, _, RCall.s (RCall.sh (by first | assumption)) (by simp [push_cast]), ?_⟩ | refine ⟨_, _, SCall.lift (by first | assumption) (outR_cl (by simp [push_cast]) (by simp [push_cast])) (by simp [push_cast]), ?_⟩ | refine ⟨_, (by first | assumption), ?_⟩ | refine ⟨0, [], _, PCall.r (by first | assumption), ?_⟩ | refine ⟨_, _, (by first | assumption), ?_⟩ | refine ⟨_, _, _, RCall.sh (by first | assumption), ?_⟩ | refine ⟨_, _, _, (by first | assumption), ?_⟩ | ((fail_if_success (refine ⟨_, ?_, ?_⟩)); refine ⟨AV.any, ?_⟩) | refine ret_frz rfl ?_ (by simp [push_cast]) (by simp [push_cast]) (by simp [push_cast]) | refine end_frz rfl ?_ (by simp [push_cast]) (by simp [push_cast]) (by simp [push_cast]) | refine ret_now (by simp [push_cast]) ?_ (by simp [push_cast]) | refine end_now (by simp [push_cast]) ?_ (by simp [push_cast])) <;> (try simp only [push_cast, seval, reduceCtorEq, *]))
        | ((first | refine cv_ptE rfl rfl rfl rfl rfl ?_ | refine outQ_frz rfl ?_ (by simp [push_cast]) (by simp [push_cast]) | refine dfr_end (by simp) rfl ?_ (by simp [push_cast]) (by simp [push_cast])) <;> (try simp only [push_cast, seval, reduceCtorEq]))
        | exact cv_slE rfl rfl ⟨rfl, rfl⟩ (by simp) (by simp [take_map_len])
        | refine outQ_pan ?_ (by simp [push_cast])
        | refine outQ_unit ?_
        | refine outQ_unitN ?_
        | refine And.intro ?_ ?_
        | omega)
      all_goals (try simp only [push_cast, seval, reduceCtorEq, zB])
      all_goals first
        | (simp only [*, zB]; done)
        | (simp [*, zB]; done)
        | (simp_all [zB]; done)
        | (simp_all [zB]; omega)
        | skip
    obtain ⟨a1, a2, a3, a4, a5⟩ := spots_ok ha
    have b1 : decide (p < 0) = false := by simp; omega
    have b2 : decide (p ≥ (m.p.length : Int)) = false := by simp; omega
    have b3 : decide (d < 0) = false := by simp; omega
    have b4 : decide (d ≥ (m.d.length : Int)) = false := by simp; omega
    have b5 : decide (now > 4611686018427387904) = false := by simp; omega
    by_cases h64 : (b.os.length : Int) = 64
    · have e : subE b m p d now = 4 := by simp only [subE, h0, ha, h64, decide_true, cond_true]
      rw [e]
      clear e ha hE ht
      obtain ⟨c, hb, hl⟩ := l61
      refine pcall_of mixed e61 hb rfl hl r61 (by rw [n61]; simp) ?_
      clear hb hl c
      (try simp only [push_cast, seval, reduceCtorEq, b1, b2, b3, b4, b5, h64])
      repeat' (first
        | ((first | ((first | refine brX_split ?_ ?_ | refine gX_split ?_ ?_ | refine hX_split ?_ ?_ | refine outK_split ?_ ?_) <;> (intro xc; (try simp only [Bool.not_eq_true', Bool.not_eq_false'] at xc); have xp := xc; (try simp only [decide_eq_true_eq, decide_eq_false_iff_not, Int.not_lt, Int.not_le, ge_iff_le, gt_iff_lt, Bool.and_eq_true, Bool.or_eq_false_iff] at xp); have xq := xp; (first | simp only [← Int.not_le] at xq | simp only [← Int.not_lt] at xq | clear xq))) | refine ⟨.ret _, _, PCall.s (by first | assumption) (by simp [push_cast, b1, b2, b3, b4, b5, h64]), ?_⟩ | refine ⟨.ret _, _, RCall.s (RCall.sh (by first | assumption)) (by simp [push_cast, b1, b2, b3, b4, b5, h64]), ?_⟩ | refine ⟨_, _, SCall.lift (by first | assumption) (outR_cl (by simp [push_cast]) (by simp [push_cast])) (by simp [push_cast, b1, b2, b3, b4, b5, h64]), ?_⟩ | refine ⟨_, (by first | assumption), ?_⟩ | refine ⟨0, [], _, PCall.r (by first | assumption), ?_⟩ | refine ⟨_, _, (by first | assumption), ?_⟩ | refine ⟨_, _, _, RCall.sh (by first | assumption), ?_⟩ | refine ⟨_, _, _, (by first | assumption), ?_⟩ | ((fail_if_success (refine ⟨_, ?_, ?_⟩)); refine ⟨AV.any, ?_⟩) | refine ret_frz rfl ?_ (by simp [push_cast]) (by simp [push_cast, b1, b2, b3, b4, b5, h64]) (by simp [push_cast, b1, b2, b3, b4, b5, h64]) | refine end_frz rfl ?_ (by simp [push_cast]) (by simp [push_cast, b1, b2, b3, b4, b5, h64]) (by simp [push_cast, b1, b2, b3, b4, b5, h64]) | refine ret_now (by simp [push_cast]) ?_ (by simp [push_cast]) | refine end_now (by simp [push_cast]) ?_ (by simp [push_cast])) <;> (try simp only [push_cast, seval, reduceCtorEq, *, b1, b2, b3, b4, b5, h64]))
        | ((first | refine cv_ptE rfl rfl rfl rfl rfl ?_ | refine outQ_frz rfl ?_ (by simp [push_cast]) (by simp [push_cast, b1, b2, b3, b4, b5, h64]) | refine dfr_end (by simp) rfl ?_ (by simp [push_cast]) (by simp [push_cast, b1, b2, b3, b4, b5, h64])) <;> (try simp only [push_cast, seval, reduceCtorEq, b1, b2, b3, b4, b5, h64]))
        | exact cv_slE rfl rfl ⟨rfl, rfl⟩ (by simp) (by simp [take_map_len])
        | refine outQ_pan ?_ (by simp [push_cast])
        | refine outQ_unit ?_
        | refine outQ_unitN ?_
        | refine And.intro ?_ ?_
        | omega)
      all_goals (try simp only [push_cast, seval, reduceCtorEq, b1, b2, b3, b4, b5, h64, zB])
      all_goals first
        | (simp only [*, b1, b2, b3, b4, b5, h64, zB]; done)
        | (simp [*, b1, b2, b3, b4, b5, h64, zB]; done)
        | (simp_all [b1, b2, b3, b4, b5, h64, zB]; done)
        | (simp_all [b1, b2, b3, b4, b5, h64, zB]; omega)
        | skip
    by_cases hqu : (b.q.length : Int) = m.qu
    · have e : subE b m p d now = 9 := by simp only [subE, h0, ha, h64, hqu, decide_true, decide_false, cond_true, cond_false]
      rw [e]
      clear e ha hE ht
      obtain ⟨c, hb, hl⟩ := l61
      refine pcall_of mixed e61 hb rfl hl r61 (by rw [n61]; simp) ?_
      clear hb hl c
      (try simp only [push_cast, seval, reduceCtorEq, b1, b2, b3, b4, b5, h64, hqu])
      repeat' (first
        | ((first | ((first | refine brX_split ?_ ?_ | refine gX_split ?_ ?_ | refine hX_split ?_ ?_ | refine outK_split ?_ ?_) <;> (intro xc; (try simp only [Bool.not_eq_true', Bool.not_eq_false'] at xc); have xp := xc; (try simp only [decide_eq_true_eq, decide_eq_false_iff_not, Int.not_lt, Int.not_le, ge_iff_le, gt_iff_lt, Bool.and_eq_true, Bool.or_eq_false_iff] at xp); have xq := xp; (first | simp only [← Int.not_le] at xq | simp only [← Int.not_lt] at xq | clear xq))) | refine ⟨.ret _, _, PCall.s (by first | assumption) (by simp [push_cast, b1, b2, b3, b4, b5, h64, hqu]), ?_⟩ | refine ⟨.ret _, _, RCall.s (RCall.sh (by first | assumption)) (by simp [push_cast, b1, b2, b3, b4, b5, h64, hqu]), ?_⟩ | refine ⟨_, _, SCall.lift (by first | assumption) (outR_cl (by simp [push_cast]) (by simp [push_cast])) (by simp [push_cast, b1, b2, b3, b4, b5, h64, hqu]), ?_⟩ | refine ⟨_, (by first | assumption), ?_⟩ | refine ⟨0, [], _, PCall.r (by first | assumption), ?_⟩ | refine ⟨_, _, (by first | assumption), ?_⟩ | refine ⟨_, _, _, RCall.sh (by first | assumption), ?_⟩ | refine ⟨_, _, _, (by first | assumption), ?_⟩ | ((fail_if_success (refine ⟨_, ?_, ?_⟩)); refine ⟨AV.any, ?_⟩) | refine ret_frz rfl ?_ (by simp [push_cast]) (by simp [push_cast, b1, b2, b3, b4, b5, h64, hqu]) (by simp [push_cast, b1, b2, b3, b4, b5, h64, hqu]) | refine end_frz rfl ?_ (by simp [push_cast]) (by simp [push_cast, b1, b2, b3, b4, b5, h64, hqu]) (by simp [push_cast, b1, b2, b3, b4, b5, h64, hqu]) | refine ret_now (by simp [push_cast]) ?_ (by simp [push_cast]) | refine end_now (by simp [push_cast]) ?_ (by simp [push_cast])) <;> (try simp only [push_cast, seval, reduceCtorEq, *, b1, b2, b3, b4, b5, h64, hqu]))
        | ((first | refine cv_ptE rfl rfl rfl rfl rfl ?_ | refine outQ_frz rfl ?_ (by simp [push_cast]) (by simp [push_cast, b1, b2, b3, b4, b5, h64, hqu]) | refine dfr_end (by simp) rfl ?_ (by simp [push_cast]) (by simp [push_cast, b1, b2, b3, b4, b5, h64, hqu])) <;> (try simp only [push_cast, seval, reduceCtorEq, b1, b2, b3, b4, b5, h64, hqu]))
        | exact cv_slE rfl rfl ⟨rfl, rfl⟩ (by simp) (by simp [take_map_len])
        | refine outQ_pan ?_ (by simp [push_cast])
        | refine outQ_unit ?_
        | refine outQ_unitN ?_
        | refine And.intro ?_ ?_
        | omega)
      all_goals (try simp only [push_cast, seval, reduceCtorEq, b1, b2, b3, b4, b5, h64, hqu, zB])
      all_goals first
        | (simp only [*, b1, b2, b3, b4, b5, h64, hqu, zB]; done)
        | (simp [*, b1, b2, b3, b4, b5, h64, hqu, zB]; done)
        | (simp_all [b1, b2, b3, b4, b5, h64, hqu, zB]; done)
        | (simp_all [b1, b2, b3, b4, b5, h64, hqu, zB]; omega)
        | skip
    have e : subE b m p d now = takE b.cw b.cm m.w m.qo now := by simp only [subE, h0, ha, h64, hqu, decide_true, decide_false, cond_true, cond_false]
    rw [e] at hE ⊢
    clear e ha
    obtain ⟨c, hb, hl⟩ := l61
    refine pcall_of mixed e61 hb rfl hl r61 (by rw [n61]; simp) ?_
    clear hb hl c
    (try simp only [push_cast, seval, reduceCtorEq, b1, b2, b3, b4, b5, h64, hqu, hE])
    repeat' (first
      | ((first | ((first | refine brX_split ?_ ?_ | refine gX_split ?_ ?_ | refine hX_split ?_ ?_ | refine outK_split ?_ ?_) <;> (intro xc; (try simp only [Bool.not_eq_true', Bool.not_eq_false'] at xc); have xp := xc; (try simp only [decide_eq_true_eq, decide_eq_false_iff_not, Int.not_lt, Int.not_le, ge_iff_le, gt_iff_lt, Bool.and_eq_true, Bool.or_eq_false_iff] at xp); have xq := xp; (first | simp only [← Int.not_le] at xq | simp only [← Int.not_lt] at xq | clear xq))) | refine ⟨.ret _, _, PCall.s (by first | assumption) (by simp [push_cast, b1, b2, b3, b4, b5, h64, hqu, hE]), ?_⟩ | refine ⟨.ret _, _, RCall.s (RCall.sh (by first | assumption)) (by simp [push_cast, b1, b2, b3, b4, b5, h64, hqu, hE]), ?_⟩ | refine ⟨_, _, SCall.lift (by first | assumption) (outR_cl (by simp [push_cast]) (by simp [push_cast])) (by simp [push_cast, b1, b2, b3, b4, b5, h64, hqu, hE]), ?_⟩ | refine ⟨_, (by first | assumption), ?_⟩ | refine ⟨0, [], _, PCall.r (by first | assumption), ?_⟩ | refine ⟨_, _, (by first | assumption), ?_⟩ | refine ⟨_, _, _, RCall.sh (by first | assumption), ?_⟩ | refine ⟨_, _, _, (by first | assumption), ?_⟩ | ((fail_if_success (refine ⟨_, ?_, ?_⟩)); refine ⟨AV.any, ?_⟩) | refine ret_frz rfl ?_ (by simp [push_cast]) (by simp [push_cast, b1, b2, b3, b4, b5, h64, hqu, hE]) (by simp [push_cast, b1, b2, b3, b4, b5, h64, hqu, hE]) | refine end_frz rfl ?_ (by simp [push_cast]) (by simp [push_cast, b1, b2, b3, b4, b5, h64, hqu, hE]) (by simp [push_cast, b1, b2, b3, b4, b5, h64, hqu, hE]) | refine ret_now (by simp [push_cast]) ?_ (by simp [push_cast]) | refine end_now (by simp [push_cast]) ?_ (by simp [push_cast])) <;> (try simp only [push_cast, seval, reduceCtorEq, *, b1, b2, b3, b4, b5, h64, hqu, hE]))
      | ((first | refine cv_ptE rfl rfl rfl rfl rfl ?_ | refine outQ_frz rfl ?_ (by simp [push_cast]) (by simp [push_cast, b1, b2, b3, b4, b5, h64, hqu, hE]) | refine dfr_end (by simp) rfl ?_ (by simp [push_cast]) (by simp [push_cast, b1, b2, b3, b4, b5, h64, hqu, hE])) <;> (try simp only [push_cast, seval, reduceCtorEq, b1, b2, b3, b4, b5, h64, hqu, hE]))
      | exact cv_slE rfl rfl ⟨rfl, rfl⟩ (by simp) (by simp [take_map_len])
      | refine outQ_pan ?_ (by simp [push_cast])
      | refine outQ_unit ?_
      | refine outQ_unitN ?_
      | refine And.intro ?_ ?_
      | omega)
    all_goals (try simp only [push_cast, seval, reduceCtorEq, b1, b2, b3, b4, b5, h64, hqu, hE, zB])
    all_goals first
      | (simp only [*, b1, b2, b3, b4, b5, h64, hqu, hE, zB]; done)
      | (simp [*, b1, b2, b3, b4, b5, h64, hqu, hE, zB]; done)
      | (simp_all [b1, b2, b3, b4, b5, h64, hqu, hE, zB]; done)
      | (simp_all [b1, b2, b3, b4, b5, h64, hqu, hE, zB]; omega)
      | skip
  obtain ⟨h0, hs, hnow, h64, hqu, ht0, hc0⟩ := sub_new hE
  rw [h0] at hc
  have ht := refTake_p b.cw b.cm m.w m.qo now
  rw [ht0] at ht
  have hl := book0_len h0
  obtain ⟨a1, a2, a3, a4, a5⟩ := spots_ok (m := m) (p := p) (d := d) (now := now) (by simp [hs, hnow])
  have b1 : decide (p < 0) = false := by simp; omega
  have b2 : decide (p ≥ (m.p.length : Int)) = false := by simp; omega
  have b3 : decide (d < 0) = false := by simp; omega
  have b4 : decide (d ≥ (m.d.length : Int)) = false := by simp; omega
  have b5 : decide (now > 4611686018427387904) = false := by simp; omega
  have hw := inc64 (k := b.os.length) (by omega)
  have hn := refNew_p ((b.os.length : Int) + 1) p d now
  have en : newE ((b.os.length : Int) + 1) p d now = 0 := by simp [newE, hc0]
  have en2 : nwO ((b.os.length : Int) + 1) p d now = ⟨(b.os.length : Int) + 1, p, d, 1, now, 0⟩ := by simp [nwO, en]
  rw [en, en2] at hn
  have e1 : subR b m p d now = subB b m p d now := by simp [subR, hE]
  have e2 : subI b m p d now = (b.os.length : Int) + 1 := by simp [subI, hE]
  rw [e1, e2, hE]
  obtain ⟨_, p2, p3, _⟩ := book0 h0
  simp only [ordsB, queB, Bool.and_eq_true, decide_eq_true_eq] at p2 p3
  have hos : (subB b m p d now).os = b.os ++ [⟨(b.os.length : Int) + 1, p, d, 1, now, 0⟩] := rfl
  have hq9 : (subB b m p d now).q = b.q ++ [(b.os.length : Int) + 1] := rfl
  have hcw : (subB b m p d now).cw = takW b.cw b.cm m.w m.qo now := rfl
  have hcm : (subB b m p d now).cm = takM b.cw b.cm m.w m.qo now := rfl
  obtain ⟨X, hX⟩ : ∃ X : O, (⟨(b.os.length : Int) + 1, p, d, 1, now, 0⟩ : O) = X := ⟨_, rfl⟩
  have hXi : X.i = (b.os.length : Int) + 1 := by rw [← hX]
  have hXq : isQ X = true := by rw [← hX]; simp [isQ]
  rw [hX] at hos hn
  have hQ : qiU (b.os ++ [X]) (b.os ++ [X]).length = (subB b m p d now).q := by
    have h1 : qiU (b.os ++ [X]) b.os.length = nwU isQ (b.os ++ [X]) b.os.length := by
      refine qiU_nw (m := m) _ (by simp) ?_
      rw [okU_congr (os' := b.os) _ fun j hj => getD_app hj]; exact p2.2
    rw [List.length_append, List.length_singleton]
    simp only [qiU, getD_last, h1, hXq, hXi, cond_true]
    rw [nwU_congr (os' := b.os) _ fun j hj => getD_app hj, ← p3.2, hq9]
  have hr := refQueued_r (b.os ++ [X]) (by simp; omega)
  rw [hQ] at hr
  have hap : b.os.map oc ++ [oc X] = (b.os ++ [X]).map oc := by simp
  have hlen : b.os.length + 1 = (b.os ++ [X]).length := by simp
  generalize subB b m p d now = B at *
  obtain ⟨Bo, Bq, Bw, Bm⟩ := B
  simp only at hos hq9 hcw hcm hr
  subst hcw hcm hos
  have hqc : ∃ y l, Bq = y :: l := by
    rw [hq9]; cases b.q <;> simp
  obtain ⟨y, Q, rfl⟩ := hqc
  clear hQ hq9 e1 e2 hE en en2 hc0 ht0 hX hXi hXq
  by_cases hne : b.os = []
  · have hq0 : b.q = [] := by rw [p3.2, hne]; rfl
    have htw : PCall prog 37 [.agg (bkc b)] (.agg [.nils, .nils, .int .u64 b.cw, .int .i64 b.cm]) := by
      have := twin_nil b.cw b.cm
      rw [← hne] at this
      rw [← hq0] at this
      exact this
    obtain ⟨os, q, cw, cm⟩ := b
    simp only at hne hq0
    subst hne hq0
    simp only [List.nil_append, List.map_nil, List.map_cons, List.length_nil, accV, accR, push_cast] at *
    obtain ⟨c, hb, hl⟩ := l61
    refine pcall_of mixed e61 hb rfl hl r61 (by rw [n61]; simp) ?_
    clear hb hl c
    (try simp only [push_cast, seval, reduceCtorEq, b1, b2, b3, b4, b5, h64, hqu, hw])
    repeat' (first
      | ((first | ((first | refine brX_split ?_ ?_ | refine gX_split ?_ ?_ | refine hX_split ?_ ?_ | refine outK_split ?_ ?_) <;> (intro xc; (try simp only [Bool.not_eq_true', Bool.not_eq_false'] at xc); have xp := xc; (try simp only [decide_eq_true_eq, decide_eq_false_iff_not, Int.not_lt, Int.not_le, ge_iff_le, gt_iff_lt, Bool.and_eq_true, Bool.or_eq_false_iff] at xp); have xq := xp; (first | simp only [← Int.not_le] at xq | simp only [← Int.not_lt] at xq | clear xq))) | refine ⟨.ret _, _, PCall.s (by first | assumption) (by simp [push_cast, b1, b2, b3, b4, b5, h64, hqu, hw]), ?_⟩ | refine ⟨.ret _, _, RCall.s (RCall.sh (by first | assumption)) (by simp [push_cast, b1, b2, b3, b4, b5, h64, hqu, hw]), ?_⟩ | refine ⟨_, _, SCall.lift (by first | assumption) (outR_cl (by simp [push_cast]) (by simp [push_cast])) (by simp [push_cast, b1, b2, b3, b4, b5, h64, hqu, hw]), ?_⟩ | refine ⟨_, (by first | assumption), ?_⟩ | refine ⟨0, [], _, PCall.r (by first | assumption), ?_⟩ | refine ⟨_, _, (by first | assumption), ?_⟩ | refine ⟨_, _, _, RCall.sh (by first | assumption), ?_⟩ | refine ⟨_, _, _, (by first | assumption), ?_⟩ | refine ⟨_, _, PCall.frz (by first | exact hr) (by (try simp only [all2_cons, all2_nil, frzArg, push_cast, Nat.reduceBEq, Nat.reduceLeDiff, Nat.reduceAdd]); repeat' (first | exact trivial | exact cv_slF rfl rfl ⟨rfl, rfl⟩ (by simp) (by first | rfl | (simp; done)) (by first | rfl | (simp; done) | (simp; omega)) | exact cv_closed (by simp [push_cast]) | refine And.intro ?_ ?_ | rfl | (simp [push_cast]; done))) (by simp [push_cast, b1, b2, b3, b4, b5, h64, hqu, hw]), ?_⟩ | refine ⟨.ret _, _, RCall.frz (RCall.sh (by first | exact hr)) (by (try simp only [all2_cons, all2_nil, frzArg, push_cast, Nat.reduceBEq, Nat.reduceLeDiff, Nat.reduceAdd]); repeat' (first | exact trivial | exact cv_slF rfl rfl ⟨rfl, rfl⟩ (by simp) (by first | rfl | (simp; done)) (by first | rfl | (simp; done) | (simp; omega)) | exact cv_closed (by simp [push_cast]) | refine And.intro ?_ ?_ | rfl | (simp [push_cast]; done))) (by simp [push_cast, b1, b2, b3, b4, b5, h64, hqu, hw]) (by simp [push_cast, b1, b2, b3, b4, b5, h64, hqu, hw]), ?_⟩ | ((fail_if_success (refine ⟨_, ?_, ?_⟩)); refine ⟨AV.any, ?_⟩) | refine ret_frz rfl ?_ (by simp [push_cast]) (by simp [push_cast, b1, b2, b3, b4, b5, h64, hqu, hw]) (by simp [push_cast, b1, b2, b3, b4, b5, h64, hqu, hw]) | refine end_frz rfl ?_ (by simp [push_cast]) (by simp [push_cast, b1, b2, b3, b4, b5, h64, hqu, hw]) (by simp [push_cast, b1, b2, b3, b4, b5, h64, hqu, hw]) | refine ret_now (by simp [push_cast]) ?_ (by simp [push_cast]) | refine end_now (by simp [push_cast]) ?_ (by simp [push_cast])) <;> (try simp only [push_cast, seval, reduceCtorEq, *, b1, b2, b3, b4, b5, h64, hqu, hw]))
      | ((first | refine cv_ptE rfl rfl rfl rfl rfl ?_ | refine outQ_frz rfl ?_ (by simp [push_cast]) (by simp [push_cast, b1, b2, b3, b4, b5, h64, hqu, hw]) | refine dfr_end (by simp) rfl ?_ (by simp [push_cast]) (by simp [push_cast, b1, b2, b3, b4, b5, h64, hqu, hw])) <;> (try simp only [push_cast, seval, reduceCtorEq, b1, b2, b3, b4, b5, h64, hqu, hw]))
      | exact cv_slE rfl rfl ⟨rfl, rfl⟩ (by simp) (by simp [take_map_len])
      | refine outQ_pan ?_ (by simp [push_cast])
      | refine outQ_unit ?_
      | refine outQ_unitN ?_
      | refine And.intro ?_ ?_
      | omega)
    all_goals (try simp only [push_cast, seval, reduceCtorEq, b1, b2, b3, b4, b5, h64, hqu, hw])
    all_goals first
      | (simp only [*, b1, b2, b3, b4, b5, h64, hqu, hw]; done)
      | (simp [*, b1, b2, b3, b4, b5, h64, hqu, hw]; done)
      | (simp_all [b1, b2, b3, b4, b5, h64, hqu, hw]; done)
      | (simp_all [b1, b2, b3, b4, b5, h64, hqu, hw]; omega)
      | skip
  · have htw := twin_r hne (by omega) (by omega)
    obtain ⟨os, q, cw, cm⟩ := b
    simp only at *
    generalize os ++ [X] = os' at *
    clear p2 p3
    rcases q with _ | ⟨z, q⟩
    all_goals
    simp only [ownV, ownR, List.map_nil, List.map_cons, accV, accR] at *
    obtain ⟨c, hb, hl⟩ := l61
    refine pcall_of mixed e61 hb rfl hl r61 (by rw [n61]; simp) ?_
    clear hb hl c
    (try simp only [push_cast, seval, reduceCtorEq, b1, b2, b3, b4, b5, h64, hqu, hw, hap, hlen])
    repeat' (first
      | ((first | ((first | refine brX_split ?_ ?_ | refine gX_split ?_ ?_ | refine hX_split ?_ ?_ | refine outK_split ?_ ?_) <;> (intro xc; (try simp only [Bool.not_eq_true', Bool.not_eq_false'] at xc); have xp := xc; (try simp only [decide_eq_true_eq, decide_eq_false_iff_not, Int.not_lt, Int.not_le, ge_iff_le, gt_iff_lt, Bool.and_eq_true, Bool.or_eq_false_iff] at xp); have xq := xp; (first | simp only [← Int.not_le] at xq | simp only [← Int.not_lt] at xq | clear xq))) | refine ⟨.ret _, _, PCall.s (by first | assumption) (by simp [push_cast, b1, b2, b3, b4, b5, h64, hqu, hw, hap, hlen]), ?_⟩ | refine ⟨.ret _, _, RCall.s (RCall.sh (by first | assumption)) (by simp [push_cast, b1, b2, b3, b4, b5, h64, hqu, hw, hap, hlen]), ?_⟩ | refine ⟨_, _, SCall.lift (by first | assumption) (outR_cl (by simp [push_cast]) (by simp [push_cast])) (by simp [push_cast, b1, b2, b3, b4, b5, h64, hqu, hw, hap, hlen]), ?_⟩ | refine ⟨_, (by first | assumption), ?_⟩ | refine ⟨0, [], _, PCall.r (by first | assumption), ?_⟩ | refine ⟨_, _, (by first | assumption), ?_⟩ | refine ⟨_, _, _, RCall.sh (by first | assumption), ?_⟩ | refine ⟨_, _, _, (by first | assumption), ?_⟩ | refine ⟨_, _, PCall.frz (by first | exact hr) (by (try simp only [all2_cons, all2_nil, frzArg, push_cast, Nat.reduceBEq, Nat.reduceLeDiff, Nat.reduceAdd]); repeat' (first | exact trivial | exact cv_slF rfl rfl ⟨rfl, rfl⟩ (by simp) (by first | rfl | (simp; done)) (by first | rfl | (simp; done) | (simp; omega)) | exact cv_closed (by simp [push_cast]) | refine And.intro ?_ ?_ | rfl | (simp [push_cast]; done))) (by simp [push_cast, b1, b2, b3, b4, b5, h64, hqu, hw, hap, hlen]), ?_⟩ | refine ⟨.ret _, _, RCall.frz (RCall.sh (by first | exact hr)) (by (try simp only [all2_cons, all2_nil, frzArg, push_cast, Nat.reduceBEq, Nat.reduceLeDiff, Nat.reduceAdd]); repeat' (first | exact trivial | exact cv_slF rfl rfl ⟨rfl, rfl⟩ (by simp) (by first | rfl | (simp; done)) (by first | rfl | (simp; done) | (simp; omega)) | exact cv_closed (by simp [push_cast]) | refine And.intro ?_ ?_ | rfl | (simp [push_cast]; done))) (by simp [push_cast, b1, b2, b3, b4, b5, h64, hqu, hw, hap, hlen]) (by simp [push_cast, b1, b2, b3, b4, b5, h64, hqu, hw, hap, hlen]), ?_⟩ | ((fail_if_success (refine ⟨_, ?_, ?_⟩)); refine ⟨AV.any, ?_⟩) | refine ret_frz rfl ?_ (by simp [push_cast]) (by simp [push_cast, b1, b2, b3, b4, b5, h64, hqu, hw, hap, hlen]) (by simp [push_cast, b1, b2, b3, b4, b5, h64, hqu, hw, hap, hlen]) | refine end_frz rfl ?_ (by simp [push_cast]) (by simp [push_cast, b1, b2, b3, b4, b5, h64, hqu, hw, hap, hlen]) (by simp [push_cast, b1, b2, b3, b4, b5, h64, hqu, hw, hap, hlen]) | refine ret_now (by simp [push_cast]) ?_ (by simp [push_cast]) | refine end_now (by simp [push_cast]) ?_ (by simp [push_cast])) <;> (try simp only [push_cast, seval, reduceCtorEq, *, b1, b2, b3, b4, b5, h64, hqu, hw, hap, hlen]))
      | ((first | refine cv_ptE rfl rfl rfl rfl rfl ?_ | refine outQ_frz rfl ?_ (by simp [push_cast]) (by simp [push_cast, b1, b2, b3, b4, b5, h64, hqu, hw, hap, hlen]) | refine dfr_end (by simp) rfl ?_ (by simp [push_cast]) (by simp [push_cast, b1, b2, b3, b4, b5, h64, hqu, hw, hap, hlen])) <;> (try simp only [push_cast, seval, reduceCtorEq, b1, b2, b3, b4, b5, h64, hqu, hw, hap, hlen]))
      | exact cv_slE rfl rfl ⟨rfl, rfl⟩ (by simp) (by simp [take_map_len])
      | refine outQ_pan ?_ (by simp [push_cast])
      | refine outQ_unit ?_
      | refine outQ_unitN ?_
      | refine And.intro ?_ ?_
      | omega)
    all_goals (try simp only [push_cast, seval, reduceCtorEq, b1, b2, b3, b4, b5, h64, hqu, hw, hap, hlen])
    all_goals first
      | (simp only [*, b1, b2, b3, b4, b5, h64, hqu, hw, hap, hlen]; done)
      | (simp [*, b1, b2, b3, b4, b5, h64, hqu, hw, hap, hlen]; done)
      | (simp_all [b1, b2, b3, b4, b5, h64, hqu, hw, hap, hlen]; done)
      | (simp_all [b1, b2, b3, b4, b5, h64, hqu, hw, hap, hlen]; omega)
      | skip
end Go.Proofs.Ytffiicopifmmfaa
