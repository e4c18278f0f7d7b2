/- Facts of the program over abstract values. No condition. -/
import Derived.Test.YtffiicopifmmfaaZh
set_option linter.unusedSimpArgs false
set_option maxRecDepth 8000
namespace Go.Proofs.Ytffiicopifmmfaa
set_option linter.unusedSimpArgs false
set_option linter.unusedVariables false
set_option linter.unnecessarySimpa false
set_option linter.unusedSectionVars false
open Go.Proofs.Try
open Go.Proofs.Ytffiicopifmmfaa.Ai
set_option maxHeartbeats 4000000

def subE (b : Bk) (m : Tm) (p d now : Int) : Int :=
  bif decide (bookE b m = 0) then (bif spotsB m p d && decide (now ≤ 4611686018427387904) then (bif decide ((b.os.length : Int) = 64) then 4 else bif decide ((b.q.length : Int) = m.qu) then 9 else takE b.cw b.cm m.w m.qo now) else 2) else bookE b m
def subB (b : Bk) (m : Tm) (p d now : Int) : Bk := ⟨b.os ++ [⟨(b.os.length : Int) + 1, p, d, 1, now, 0⟩], b.q ++ [(b.os.length : Int) + 1], takW b.cw b.cm m.w m.qo now, takM b.cw b.cm m.w m.qo now⟩
theorem sub_new {b : Bk} {m : Tm} {p d now : Int} (h : subE b m p d now = 0) : bookE b m = 0 ∧ spotsB m p d = true ∧ now ≤ 4611686018427387904 ∧ ¬ (b.os.length : Int) = 64 ∧ ¬ (b.q.length : Int) = m.qu ∧ takE b.cw b.cm m.w m.qo now = 0 ∧ chkE ((b.os.length : Int) + 1) p d 1 now 0 = 0 := by
  unfold subE at h
  by_cases h0 : bookE b m = 0
  case neg => simp [h0] at h
  by_cases h1 : spotsB m p d = true
  case neg => simp [h0, h1] at h
  by_cases h2 : now ≤ 4611686018427387904
  case neg => simp [h0, h1, h2] at h
  by_cases h3 : (b.os.length : Int) = 64
  case pos => simp [h0, h1, h2, h3] at h
  by_cases h4 : (b.q.length : Int) = m.qu
  case pos => simp [h0, h1, h2, h3, h4] at h
  simp only [h0, h1, h2, h3, h4, decide_true, decide_false, Bool.and_true, cond_true, cond_false] at h
  refine ⟨h0, h1, h2, h3, h4, h, ?_⟩
  obtain ⟨t1, t2, _, _⟩ := book0 h0
  simp only [teamB, inB, Bool.and_eq_true, decide_eq_true_eq] at t1
  simp only [ordsB, Bool.and_eq_true, decide_eq_true_eq] at t2
  simp only [spotsB, inB, Bool.and_eq_true, decide_eq_true_eq] at h1
  have : orderB ((b.os.length : Int) + 1) p d 1 now 0 = true := by
    simp only [orderB, inB, stateB, doneB, Bool.and_eq_true, decide_eq_true_eq]
    refine ⟨⟨⟨⟨⟨?_, ?_⟩, ⟨?_, ?_⟩, ?_, ?_⟩, ?_, ?_⟩, h2⟩, rfl⟩ <;> omega
  simp [chkE, this]
theorem submit_ok {oV qV : AV} {b : Bk} {m : Tm} (hO : isSl 6 oV (b.os.map oc)) (hQ : isSl 1 qV (b.q.map intc)) (h : Fit b m) (p d now : Int) (hb : subE b m p d now = 0) :
    RCall prog 28 [.agg (tmc m), .agg (bkv oV qV b), .int .i64 p, .int .i64 d, .int .u64 now] 0 2 [(0, ⟨6, (subB b m p d now).os.map oc⟩), (1, ⟨1, (subB b m p d now).q.map intc⟩)]
      (.tup [.agg [.sl 0 6 0 (b.os.length + 1) none, .sl 1 1 0 (b.q.length + 1) none, .int .u64 (subB b m p d now).cw, .int .i64 (subB b m p d now).cm], .int .i64 ((b.os.length : Int) + 1), .int .i64 0]) := by
  obtain ⟨os, q, cw, cm⟩ := b
  obtain ⟨h0, h1, h2, h3, h4, h5, h6⟩ := sub_new hb
  have hl := book0_len h0
  have hk := ledgerOf_ok hO hQ h h0
  have hs := hasSpots_p ⟨os, q, cw, cm⟩ m p d (by have := h.p; omega) (by have := h.d; omega)
  have hn := new_ok _ _ _ _ h6
  have ht := take_p cw cm m.w m.qo now
  have hw := inc64 (k := os.length) (by have := hl.1; simp at this; omega)
  have hb1 : decide (now > 4611686018427387904) = false := by simp; omega
  have hb2 : ¬ now > 4611686018427387904 := by omega
  clear hb
  simp only at h1 h3 h4 h5 h6 hl hs hn hw
  rcases os with _ | ⟨o, l⟩ <;> rcases q with _ | ⟨i, j⟩
  all_goals simp only [List.map_nil, List.map_cons, isSl] at hO hQ
  · rcases hO with rfl | rfl <;> rcases hQ with rfl | rfl
    all_goals
    simp only [clV, clR] at hk
    simp only [List.length_nil, List.map_nil, push_cast] at *
    simp only [subB, List.nil_append, List.length_nil, List.map_nil, List.map_cons, push_cast]
    refine SCall.r ?_ (look_lt (by first | rfl | simp [accR, List.all_append, all_accR]))
    obtain ⟨c, hb, hl⟩ := l28
    refine scall_of mixed e28 hb rfl hl r28 (by rw [n28]; simp) ?_
    clear hb hl c
    (try simp only [push_cast, seval, reduceCtorEq, h1, h3, h4, h5, hw, hb1, hb2])
    repeat' (first
      | ((first | ((first | refine brX_split ?_ ?_ | refine gX_split ?_ ?_ | refine hX_split ?_ ?_ | refine outK_split ?_ ?_) <;> (intro xc; (try simp only [Bool.not_eq_true', Bool.not_eq_false'] at xc); have xp := xc; (try simp only [decide_eq_true_eq, decide_eq_false_iff_not, Int.not_lt, Int.not_le, ge_iff_le, gt_iff_lt, Bool.and_eq_true, Bool.or_eq_false_iff] at xp); have xq := xp; (first | simp only [← Int.not_le] at xq | simp only [← Int.not_lt] at xq | clear xq))) | refine ⟨.ret _, _, PCall.s (by first | assumption) (by simp [push_cast, h1, h3, h4, h5, hw, hb1, hb2]), ?_⟩ | refine ⟨.ret _, _, RCall.s (RCall.sh (by first | assumption)) (by simp [push_cast, h1, h3, h4, h5, hw, hb1, hb2]), ?_⟩ | refine ⟨_, _, SCall.lift (by first | assumption) (outR_cl (by simp [push_cast]) (by simp [push_cast])) (by simp [push_cast, h1, h3, h4, h5, hw, hb1, hb2]), ?_⟩ | refine ⟨_, (by first | assumption), ?_⟩ | refine ⟨0, [], _, PCall.r (by first | assumption), ?_⟩ | refine ⟨_, _, (by first | assumption), ?_⟩ | refine ⟨_, _, _, RCall.sh (by first | assumption), ?_⟩ | refine ⟨_, _, _, (by first | assumption), ?_⟩ | refine ⟨_, _, PCall.frz (by first | exact hs) (by (try simp only [all2_cons, all2_nil, frzArg, push_cast, Nat.reduceBEq, Nat.reduceLeDiff, Nat.reduceAdd]); repeat' (first | exact trivial | exact cv_slF rfl rfl ⟨rfl, rfl⟩ (by simp) (by first | rfl | (simp; done)) (by first | rfl | (simp; done) | (simp; omega)) | exact cv_closed (by simp [push_cast]) | refine And.intro ?_ ?_ | rfl | (simp [push_cast]; done))) (by simp [push_cast, h1, h3, h4, h5, hw, hb1, hb2]), ?_⟩ | refine ⟨.ret _, _, RCall.frz (RCall.sh (by first | exact hs)) (by (try simp only [all2_cons, all2_nil, frzArg, push_cast, Nat.reduceBEq, Nat.reduceLeDiff, Nat.reduceAdd]); repeat' (first | exact trivial | exact cv_slF rfl rfl ⟨rfl, rfl⟩ (by simp) (by first | rfl | (simp; done)) (by first | rfl | (simp; done) | (simp; omega)) | exact cv_closed (by simp [push_cast]) | refine And.intro ?_ ?_ | rfl | (simp [push_cast]; done))) (by simp [push_cast, h1, h3, h4, h5, hw, hb1, hb2]) (by simp [push_cast, h1, h3, h4, h5, hw, hb1, hb2]), ?_⟩ | ((fail_if_success (refine ⟨_, ?_, ?_⟩)); refine ⟨AV.any, ?_⟩) | refine ret_frz rfl ?_ (by simp [push_cast]) (by simp [push_cast, h1, h3, h4, h5, hw, hb1, hb2]) (by simp [push_cast, h1, h3, h4, h5, hw, hb1, hb2]) | refine end_frz rfl ?_ (by simp [push_cast]) (by simp [push_cast, h1, h3, h4, h5, hw, hb1, hb2]) (by simp [push_cast, h1, h3, h4, h5, hw, hb1, hb2]) | refine ret_now (by simp [push_cast]) ?_ (by simp [push_cast]) | refine end_now (by simp [push_cast]) ?_ (by simp [push_cast])) <;> (try simp only [push_cast, seval, reduceCtorEq, *, h1, h3, h4, h5, hw, hb1, hb2]))
      | ((first | refine cv_ptE rfl rfl rfl rfl rfl ?_ | refine outQ_frz rfl ?_ (by simp [push_cast]) (by simp [push_cast, h1, h3, h4, h5, hw, hb1, hb2]) | refine dfr_end (by simp) rfl ?_ (by simp [push_cast]) (by simp [push_cast, h1, h3, h4, h5, hw, hb1, hb2])) <;> (try simp only [push_cast, seval, reduceCtorEq, h1, h3, h4, h5, hw, hb1, hb2]))
      | exact cv_slE rfl rfl ⟨rfl, rfl⟩ (by simp) (by simp [take_map_len])
      | refine outQ_pan ?_ (by simp [push_cast])
      | refine outQ_unit ?_
      | refine outQ_unitN ?_
      | refine And.intro ?_ ?_
      | omega)
    all_goals (try simp only [push_cast, seval, reduceCtorEq, h1, h3, h4, h5, hw, hb1, hb2])
    all_goals first
      | (simp only [*, h1, h3, h4, h5, hw, hb1, hb2]; done)
      | (simp [*, h1, h3, h4, h5, hw, hb1, hb2]; done)
      | (simp_all [h1, h3, h4, h5, hw, hb1, hb2]; done)
      | (simp_all [h1, h3, h4, h5, hw, hb1, hb2]; omega)
      | skip
    all_goals (refine outQ_ret rfl ?_ (by simp [push_cast]) (by simp [push_cast]); (apply Wk.renA (fun i => i == 2); (case he => (try simp only [push_cast, Nat.reduceBEq, Nat.reduceLeDiff, Nat.reduceAdd]); (repeat' (first | exact trivial | (refine cv_ptE rfl rfl rfl rfl rfl ?_; simp only [push_cast, Nat.reduceBEq, Nat.reduceLeDiff, Nat.reduceAdd]) | exact cv_slE rfl rfl ⟨rfl, rfl⟩ (by simp) (by simp [take_map_len]) | exact cv_slG rfl rfl ⟨rfl, rfl⟩ (by simp) (by first | rfl | (simp; done)) (by first | rfl | (simp; done) | (simp; omega)) (by simp [push_cast]) | exact cv_ros_self (by simp [push_cast]) | exact bel_ros_cl (by simp [push_cast]) | exact cellsCv_eq (by simp [take_map_len]) (by simp [push_cast]) | refine And.intro ?_ ?_ | rfl | omega | (simp; done) | (simp; omega)))); (case hr => (try simp only [push_cast, Nat.reduceBEq, Nat.reduceLeDiff, Nat.reduceAdd]); (repeat' (first | exact trivial | (refine cv_ptE rfl rfl rfl rfl rfl ?_; simp only [push_cast, Nat.reduceBEq, Nat.reduceLeDiff, Nat.reduceAdd]) | exact cv_slE rfl rfl ⟨rfl, rfl⟩ (by simp) (by simp [take_map_len]) | exact cv_slG rfl rfl ⟨rfl, rfl⟩ (by simp) (by first | rfl | (simp; done)) (by first | rfl | (simp; done) | (simp; omega)) (by simp [push_cast]) | exact cv_ros_self (by simp [push_cast]) | exact bel_ros_cl (by simp [push_cast]) | exact cellsCv_eq (by simp [take_map_len]) (by simp [push_cast]) | refine And.intro ?_ ?_ | rfl | omega | (simp; done) | (simp; omega)))); (case hinj => simp [rhoA_0, rhoA_1, rhoA_2]); all_goals exact 0))
  · exfalso
    obtain ⟨_, _, g, _⟩ := book0 h0
    simp [queB, nwU] at g
  · rcases hQ with rfl | rfl <;> subst hO
    all_goals
    simp only [clV, clR] at hk
    simp only [List.length_cons, List.length_nil, List.map_cons, List.map_nil, push_cast] at *
    simp only [subB, List.nil_append, List.length_cons, List.length_nil, List.map_nil, List.map_cons, push_cast]
    refine SCall.r ?_ (look_lt (by first | rfl | simp [accR, List.all_append, all_accR]))
    obtain ⟨c, hb, hl⟩ := l28
    refine scall_of mixed e28 hb rfl hl r28 (by rw [n28]; simp) ?_
    clear hb hl c
    (try simp only [push_cast, seval, reduceCtorEq, h1, h3, h4, h5, hw, hb1, hb2])
    repeat' (first
      | ((first | ((first | refine brX_split ?_ ?_ | refine gX_split ?_ ?_ | refine hX_split ?_ ?_ | refine outK_split ?_ ?_) <;> (intro xc; (try simp only [Bool.not_eq_true', Bool.not_eq_false'] at xc); have xp := xc; (try simp only [decide_eq_true_eq, decide_eq_false_iff_not, Int.not_lt, Int.not_le, ge_iff_le, gt_iff_lt, Bool.and_eq_true, Bool.or_eq_false_iff] at xp); have xq := xp; (first | simp only [← Int.not_le] at xq | simp only [← Int.not_lt] at xq | clear xq))) | refine ⟨.ret _, _, PCall.s (by first | assumption) (by simp [push_cast, h1, h3, h4, h5, hw, hb1, hb2]), ?_⟩ | refine ⟨.ret _, _, RCall.s (RCall.sh (by first | assumption)) (by simp [push_cast, h1, h3, h4, h5, hw, hb1, hb2]), ?_⟩ | refine ⟨_, _, SCall.lift (by first | assumption) (outR_cl (by simp [push_cast]) (by simp [push_cast])) (by simp [push_cast, h1, h3, h4, h5, hw, hb1, hb2]), ?_⟩ | refine ⟨_, (by first | assumption), ?_⟩ | refine ⟨0, [], _, PCall.r (by first | assumption), ?_⟩ | refine ⟨_, _, (by first | assumption), ?_⟩ | refine ⟨_, _, _, RCall.sh (by first | assumption), ?_⟩ | refine ⟨_, _, _, (by first | assumption), ?_⟩ | refine ⟨_, _, PCall.frz (by first | exact hs) (by (try simp only [all2_cons, all2_nil, frzArg, push_cast, Nat.reduceBEq, Nat.reduceLeDiff, Nat.reduceAdd]); repeat' (first | exact trivial | exact cv_slF rfl rfl ⟨rfl, rfl⟩ (by simp) (by first | rfl | (simp; done)) (by first | rfl | (simp; done) | (simp; omega)) | exact cv_closed (by simp [push_cast]) | refine And.intro ?_ ?_ | rfl | (simp [push_cast]; done))) (by simp [push_cast, h1, h3, h4, h5, hw, hb1, hb2]), ?_⟩ | refine ⟨.ret _, _, RCall.frz (RCall.sh (by first | exact hs)) (by (try simp only [all2_cons, all2_nil, frzArg, push_cast, Nat.reduceBEq, Nat.reduceLeDiff, Nat.reduceAdd]); repeat' (first | exact trivial | exact cv_slF rfl rfl ⟨rfl, rfl⟩ (by simp) (by first | rfl | (simp; done)) (by first | rfl | (simp; done) | (simp; omega)) | exact cv_closed (by simp [push_cast]) | refine And.intro ?_ ?_ | rfl | (simp [push_cast]; done))) (by simp [push_cast, h1, h3, h4, h5, hw, hb1, hb2]) (by simp [push_cast, h1, h3, h4, h5, hw, hb1, hb2]), ?_⟩ | ((fail_if_success (refine ⟨_, ?_, ?_⟩)); refine ⟨AV.any, ?_⟩) | refine ret_frz rfl ?_ (by simp [push_cast]) (by simp [push_cast, h1, h3, h4, h5, hw, hb1, hb2]) (by simp [push_cast, h1, h3, h4, h5, hw, hb1, hb2]) | refine end_frz rfl ?_ (by simp [push_cast]) (by simp [push_cast, h1, h3, h4, h5, hw, hb1, hb2]) (by simp [push_cast, h1, h3, h4, h5, hw, hb1, hb2]) | refine ret_now (by simp [push_cast]) ?_ (by simp [push_cast]) | refine end_now (by simp [push_cast]) ?_ (by simp [push_cast])) <;> (try simp only [push_cast, seval, reduceCtorEq, *, h1, h3, h4, h5, hw, hb1, hb2]))
      | ((first | refine cv_ptE rfl rfl rfl rfl rfl ?_ | refine outQ_frz rfl ?_ (by simp [push_cast]) (by simp [push_cast, h1, h3, h4, h5, hw, hb1, hb2]) | refine dfr_end (by simp) rfl ?_ (by simp [push_cast]) (by simp [push_cast, h1, h3, h4, h5, hw, hb1, hb2])) <;> (try simp only [push_cast, seval, reduceCtorEq, h1, h3, h4, h5, hw, hb1, hb2]))
      | exact cv_slE rfl rfl ⟨rfl, rfl⟩ (by simp) (by simp [take_map_len])
      | refine outQ_pan ?_ (by simp [push_cast])
      | refine outQ_unit ?_
      | refine outQ_unitN ?_
      | refine And.intro ?_ ?_
      | omega)
    all_goals (try simp only [push_cast, seval, reduceCtorEq, h1, h3, h4, h5, hw, hb1, hb2])
    all_goals first
      | (simp only [*, h1, h3, h4, h5, hw, hb1, hb2]; done)
      | (simp [*, h1, h3, h4, h5, hw, hb1, hb2]; done)
      | (simp_all [h1, h3, h4, h5, hw, hb1, hb2]; done)
      | (simp_all [h1, h3, h4, h5, hw, hb1, hb2]; omega)
      | skip
    all_goals (refine outQ_ret rfl ?_ (by simp [push_cast]) (by simp [push_cast]); (apply Wk.renA (fun i => i == 2); (case he => (try simp only [push_cast, Nat.reduceBEq, Nat.reduceLeDiff, Nat.reduceAdd]); (repeat' (first | exact trivial | (refine cv_ptE rfl rfl rfl rfl rfl ?_; simp only [push_cast, Nat.reduceBEq, Nat.reduceLeDiff, Nat.reduceAdd]) | exact cv_slE rfl rfl ⟨rfl, rfl⟩ (by simp) (by simp [take_map_len]) | exact cv_slG rfl rfl ⟨rfl, rfl⟩ (by simp) (by first | rfl | (simp; done)) (by first | rfl | (simp; done) | (simp; omega)) (by simp [push_cast]) | exact cv_ros_self (by simp [push_cast]) | exact bel_ros_cl (by simp [push_cast]) | exact cellsCv_eq (by simp [take_map_len]) (by simp [push_cast]) | refine And.intro ?_ ?_ | rfl | omega | (simp; done) | (simp; omega)))); (case hr => (try simp only [push_cast, Nat.reduceBEq, Nat.reduceLeDiff, Nat.reduceAdd]); (repeat' (first | exact trivial | (refine cv_ptE rfl rfl rfl rfl rfl ?_; simp only [push_cast, Nat.reduceBEq, Nat.reduceLeDiff, Nat.reduceAdd]) | exact cv_slE rfl rfl ⟨rfl, rfl⟩ (by simp) (by simp [take_map_len]) | exact cv_slG rfl rfl ⟨rfl, rfl⟩ (by simp) (by first | rfl | (simp; done)) (by first | rfl | (simp; done) | (simp; omega)) (by simp [push_cast]) | exact cv_ros_self (by simp [push_cast]) | exact bel_ros_cl (by simp [push_cast]) | exact cellsCv_eq (by simp [take_map_len]) (by simp [push_cast]) | refine And.intro ?_ ?_ | rfl | omega | (simp; done) | (simp; omega)))); (case hinj => simp [rhoA_0, rhoA_1, rhoA_2]); all_goals exact 0))
  · subst hO; subst hQ
    simp only [clV, clR] at hk
    simp only [List.length_cons, List.map_cons, push_cast] at *
    simp only [subB, List.length_cons, List.map_cons, push_cast]
    refine SCall.r ?_ (look_lt (by first | rfl | simp [accR, List.all_append, all_accR]))
    obtain ⟨c, hb, hl⟩ := l28
    refine scall_of mixed e28 hb rfl hl r28 (by rw [n28]; simp) ?_
    clear hb hl c
    (try simp only [push_cast, seval, reduceCtorEq, h1, h3, h4, h5, hw, hb1, hb2])
    repeat' (first
      | ((first | ((first | refine brX_split ?_ ?_ | refine gX_split ?_ ?_ | refine hX_split ?_ ?_ | refine outK_split ?_ ?_) <;> (intro xc; (try simp only [Bool.not_eq_true', Bool.not_eq_false'] at xc); have xp := xc; (try simp only [decide_eq_true_eq, decide_eq_false_iff_not, Int.not_lt, Int.not_le, ge_iff_le, gt_iff_lt, Bool.and_eq_true, Bool.or_eq_false_iff] at xp); have xq := xp; (first | simp only [← Int.not_le] at xq | simp only [← Int.not_lt] at xq | clear xq))) | refine ⟨.ret _, _, PCall.s (by first | assumption) (by simp [push_cast, h1, h3, h4, h5, hw, hb1, hb2]), ?_⟩ | refine ⟨.ret _, _, RCall.s (RCall.sh (by first | assumption)) (by simp [push_cast, h1, h3, h4, h5, hw, hb1, hb2]), ?_⟩ | refine ⟨_, _, SCall.lift (by first | assumption) (outR_cl (by simp [push_cast]) (by simp [push_cast])) (by simp [push_cast, h1, h3, h4, h5, hw, hb1, hb2]), ?_⟩ | refine ⟨_, (by first | assumption), ?_⟩ | refine ⟨0, [], _, PCall.r (by first | assumption), ?_⟩ | refine ⟨_, _, (by first | assumption), ?_⟩ | refine ⟨_, _, _, RCall.sh (by first | assumption), ?_⟩ | refine ⟨_, _, _, (by first | assumption), ?_⟩ | refine ⟨_, _, PCall.frz (by first | exact hs) (by (try simp only [all2_cons, all2_nil, frzArg, push_cast, Nat.reduceBEq, Nat.reduceLeDiff, Nat.reduceAdd]); repeat' (first | exact trivial | exact cv_slF rfl rfl ⟨rfl, rfl⟩ (by simp) (by first | rfl | (simp; done)) (by first | rfl | (simp; done) | (simp; omega)) | exact cv_closed (by simp [push_cast]) | refine And.intro ?_ ?_ | rfl | (simp [push_cast]; done))) (by simp [push_cast, h1, h3, h4, h5, hw, hb1, hb2]), ?_⟩ | refine ⟨.ret _, _, RCall.frz (RCall.sh (by first | exact hs)) (by (try simp only [all2_cons, all2_nil, frzArg, push_cast, Nat.reduceBEq, Nat.reduceLeDiff, Nat.reduceAdd]); repeat' (first | exact trivial | exact cv_slF rfl rfl ⟨rfl, rfl⟩ (by simp) (by first | rfl | (simp; done)) (by first | rfl | (simp; done) | (simp; omega)) | exact cv_closed (by simp [push_cast]) | refine And.intro ?_ ?_ | rfl | (simp [push_cast]; done))) (by simp [push_cast, h1, h3, h4, h5, hw, hb1, hb2]) (by simp [push_cast, h1, h3, h4, h5, hw, hb1, hb2]), ?_⟩ | ((fail_if_success (refine ⟨_, ?_, ?_⟩)); refine ⟨AV.any, ?_⟩) | refine ret_frz rfl ?_ (by simp [push_cast]) (by simp [push_cast, h1, h3, h4, h5, hw, hb1, hb2]) (by simp [push_cast, h1, h3, h4, h5, hw, hb1, hb2]) | refine end_frz rfl ?_ (by simp [push_cast]) (by simp [push_cast, h1, h3, h4, h5, hw, hb1, hb2]) (by simp [push_cast, h1, h3, h4, h5, hw, hb1, hb2]) | refine ret_now (by simp [push_cast]) ?_ (by simp [push_cast]) | refine end_now (by simp [push_cast]) ?_ (by simp [push_cast])) <;> (try simp only [push_cast, seval, reduceCtorEq, *, h1, h3, h4, h5, hw, hb1, hb2]))
      | ((first | refine cv_ptE rfl rfl rfl rfl rfl ?_ | refine outQ_frz rfl ?_ (by simp [push_cast]) (by simp [push_cast, h1, h3, h4, h5, hw, hb1, hb2]) | refine dfr_end (by simp) rfl ?_ (by simp [push_cast]) (by simp [push_cast, h1, h3, h4, h5, hw, hb1, hb2])) <;> (try simp only [push_cast, seval, reduceCtorEq, h1, h3, h4, h5, hw, hb1, hb2]))
      | exact cv_slE rfl rfl ⟨rfl, rfl⟩ (by simp) (by simp [take_map_len])
      | refine outQ_pan ?_ (by simp [push_cast])
      | refine outQ_unit ?_
      | refine outQ_unitN ?_
      | refine And.intro ?_ ?_
      | omega)
    all_goals (try simp only [push_cast, seval, reduceCtorEq, h1, h3, h4, h5, hw, hb1, hb2])
    all_goals first
      | (simp only [*, h1, h3, h4, h5, hw, hb1, hb2]; done)
      | (simp [*, h1, h3, h4, h5, hw, hb1, hb2]; done)
      | (simp_all [h1, h3, h4, h5, hw, hb1, hb2]; done)
      | (simp_all [h1, h3, h4, h5, hw, hb1, hb2]; omega)
      | skip
    all_goals (refine outQ_ret rfl ?_ (by simp [push_cast]) (by simp [push_cast]); (apply Wk.renA (fun i => i == 2); (case he => (try simp only [push_cast, Nat.reduceBEq, Nat.reduceLeDiff, Nat.reduceAdd]); (repeat' (first | exact trivial | (refine cv_ptE rfl rfl rfl rfl rfl ?_; simp only [push_cast, Nat.reduceBEq, Nat.reduceLeDiff, Nat.reduceAdd]) | exact cv_slE rfl rfl ⟨rfl, rfl⟩ (by simp) (by simp [take_map_len]) | exact cv_slG rfl rfl ⟨rfl, rfl⟩ (by simp) (by first | rfl | (simp; done)) (by first | rfl | (simp; done) | (simp; omega)) (by simp [push_cast]) | exact cv_ros_self (by simp [push_cast]) | exact bel_ros_cl (by simp [push_cast]) | exact cellsCv_eq (by simp [take_map_len]) (by simp [push_cast]) | refine And.intro ?_ ?_ | rfl | omega | (simp; done) | (simp; omega)))); (case hr => (try simp only [push_cast, Nat.reduceBEq, Nat.reduceLeDiff, Nat.reduceAdd]); (repeat' (first | exact trivial | (refine cv_ptE rfl rfl rfl rfl rfl ?_; simp only [push_cast, Nat.reduceBEq, Nat.reduceLeDiff, Nat.reduceAdd]) | exact cv_slE rfl rfl ⟨rfl, rfl⟩ (by simp) (by simp [take_map_len]) | exact cv_slG rfl rfl ⟨rfl, rfl⟩ (by simp) (by first | rfl | (simp; done)) (by first | rfl | (simp; done) | (simp; omega)) (by simp [push_cast]) | exact cv_ros_self (by simp [push_cast]) | exact bel_ros_cl (by simp [push_cast]) | exact cellsCv_eq (by simp [take_map_len]) (by simp [push_cast]) | refine And.intro ?_ ?_ | rfl | omega | (simp; done) | (simp; omega)))); (case hinj => simp [rhoA_0, rhoA_1, rhoA_2]); all_goals exact 0))
end Go.Proofs.Ytffiicopifmmfaa
