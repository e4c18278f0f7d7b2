/- Facts of the program over abstract values. No condition. -/
import Derived.Test.YtffiicopifmmfaaZq
set_option linter.unusedSimpArgs false
set_option maxRecDepth 8000
namespace Go.Proofs.Ytffiicopifmmfaa
set_option linter.unusedSimpArgs false
set_option linter.unusedVariables false
set_option linter.unnecessarySimpa false
set_option linter.unusedSectionVars false
open Go.Proofs.Try
open Go.Proofs.Ytffiicopifmmfaa.Ai
set_option maxHeartbeats 4000000

def okR (m : Tm) (k : Nat) (o : O) : Bool := decide (o.i = (k : Int) + 1) && orderB o.i o.p o.d o.s o.a o.f && decide (o.p < m.p.length) && decide (o.d < m.d.length)
theorem okR_eq (m : Tm) (k : Nat) (o : O) : okR m k o = okO m k o := by
  obtain ⟨i, p, d, s, a, f⟩ := o
  simp only [okR, okO, spotsB, chkE]
  by_cases h : orderB i p d s a f = true
  case neg =>
    have h : orderB i p d s a f = false := by simpa using h
    simp [h]
  · have hh := h
    simp only [orderB, inB, Bool.and_eq_true, decide_eq_true_eq] at hh
    simp only [h, cond_true, decide_true, Bool.and_true]
    rw [Bool.eq_iff_iff]
    simp only [inB, Bool.and_eq_true, decide_eq_true_eq]
    omega
def preB (b : Bk) (m : Tm) : Bool := teamB m && decide ((b.os.length : Int) ≤ 64) && decide ((b.q.length : Int) ≤ m.qu) && decide (cntE b.cw b.cm m.w m.qo = 0)
theorem valid_eq (b : Bk) (m : Tm) : decide (bookE b m = 0) = (preB b m && okU m b.os b.os.length && decide (b.q = qiU b.os b.os.length)) := by
  unfold bookE preB ordsB queB
  cases h : okU m b.os b.os.length
  · cases teamB m <;> simp
  · rw [qiU_nw _ (Nat.le_refl _) h]
    generalize decide ((b.os.length : Int) ≤ 64) = x1
    generalize decide ((b.q.length : Int) ≤ m.qu) = x2
    generalize decide (b.q = nwU isQ b.os b.os.length) = x4
    cases teamB m <;> cases x1 <;> cases x2 <;> cases x4 <;> by_cases h3 : cntE b.cw b.cm m.w m.qo = 0 <;> simp [h3]
theorem refValidBook_p (b : Bk) (m : Tm) (h : Fit b m) : PCall prog 43 [.agg (tmc m), .agg (bkc b)] (.bool (decide (bookE b m = 0))) := by
  rw [valid_eq]
  have f1 := h.q
  obtain ⟨os, q, cw, cm⟩ := b
  simp only at f1
  obtain ⟨c, hb, hl⟩ := l43
  refine pcall_of mixed e43 hb rfl hl r43 (by rw [n43]; simp) ?_
  clear hb hl c
  (try simp only [push_cast, seval, reduceCtorEq])
  repeat' (first
    | ((first | ((first | refine brX_split ?_ ?_ | refine gX_split ?_ ?_ | refine hX_split ?_ ?_ | refine outK_split ?_ ?_) <;> (intro xc; (try simp only [Bool.not_eq_true', Bool.not_eq_false'] at xc); have xp := xc; (try simp only [decide_eq_true_eq, decide_eq_false_iff_not, Int.not_lt, Int.not_le, ge_iff_le, gt_iff_lt, Bool.and_eq_true, Bool.or_eq_false_iff] at xp); have xq := xp; (first | simp only [← Int.not_le] at xq | simp only [← Int.not_lt] at xq | clear xq))) | refine ⟨.ret _, _, PCall.s (by first | exact refNumbers_p _ | exact refCount_p _ _ _ _) (by simp [push_cast]), ?_⟩ | refine ⟨.ret _, _, RCall.s (RCall.sh (by first | exact refNumbers_p _ | exact refCount_p _ _ _ _)) (by simp [push_cast]), ?_⟩ | refine ⟨_, _, SCall.lift (by first | exact refNumbers_p _ | exact refCount_p _ _ _ _) (outR_cl (by simp [push_cast]) (by simp [push_cast])) (by simp [push_cast]), ?_⟩ | refine ⟨_, (by first | exact refNumbers_p _ | exact refCount_p _ _ _ _), ?_⟩ | refine ⟨0, [], _, PCall.r (by first | exact refNumbers_p _ | exact refCount_p _ _ _ _), ?_⟩ | refine ⟨_, _, (by first | exact refNumbers_p _ | exact refCount_p _ _ _ _), ?_⟩ | refine ⟨_, _, _, RCall.sh (by first | exact refNumbers_p _ | exact refCount_p _ _ _ _), ?_⟩ | refine ⟨_, _, _, (by first | exact refNumbers_p _ | exact refCount_p _ _ _ _), ?_⟩ | ((fail_if_success (refine ⟨_, ?_, ?_⟩)); refine ⟨AV.any, ?_⟩) | refine ret_frz rfl ?_ (by simp [push_cast]) (by simp [push_cast]) (by simp [push_cast]) | refine end_frz rfl ?_ (by simp [push_cast]) (by simp [push_cast]) (by simp [push_cast]) | refine ret_now (by simp [push_cast]) ?_ (by simp [push_cast]) | refine end_now (by simp [push_cast]) ?_ (by simp [push_cast])) <;> (try simp only [push_cast, seval, reduceCtorEq, *]))
    | ((first | refine cv_ptE rfl rfl rfl rfl rfl ?_ | refine outQ_frz rfl ?_ (by simp [push_cast]) (by simp [push_cast]) | refine dfr_end (by simp) rfl ?_ (by simp [push_cast]) (by simp [push_cast])) <;> (try simp only [push_cast, seval, reduceCtorEq]))
    | exact cv_slE rfl rfl ⟨rfl, rfl⟩ (by simp) (by simp [take_map_len])
    | refine outQ_pan ?_ (by simp [push_cast])
    | refine outQ_unit ?_
    | refine outQ_unitN ?_
    | refine And.intro ?_ ?_
    | omega)
  all_goals (try simp only [push_cast, seval, reduceCtorEq, preB])
  all_goals first
    | (simp only [*, preB]; done)
    | (simp [*, preB]; done)
    | (simp_all [preB]; done)
    | (simp_all [preB]; omega)
    | skip
  have hlen : os.length ≤ 64 := by omega
  refine w_loopS (fun k : Nat => ([(2, .pt 0 8 0 0), (3, .pt 1 4 0 0), (5, .int .i64 k)], ⟨2, [(0, ⟨8, [tmc m]⟩), (1, ⟨4, [bkc ⟨os, q, cw, cm⟩]⟩)]⟩)) (fun k => k ≤ os.length ∧ okU m os k = true) (fun k => os.length - k) 0 ⟨Nat.zero_le _, rfl⟩ ?_ ?_
  · (apply Wk.renA (fun _ => false); (case he => (try simp only [push_cast, Nat.reduceBEq, Nat.reduceLeDiff, Nat.reduceAdd]); (repeat' (first | exact trivial | (refine cv_ptE rfl rfl rfl rfl rfl ?_; simp only [push_cast, Nat.reduceBEq, Nat.reduceLeDiff, Nat.reduceAdd]) | exact cv_slE rfl rfl ⟨rfl, rfl⟩ (by simp) (by simp [take_map_len]) | exact cv_slG rfl rfl ⟨rfl, rfl⟩ (by simp) (by first | rfl | (simp; done)) (by first | rfl | (simp; done) | (simp; omega)) (by simp [push_cast]) | exact cv_ros_self (by simp [push_cast]) | exact bel_ros_cl (by simp [push_cast]) | exact cellsCv_eq (by simp [take_map_len]) (by simp [push_cast]) | refine And.intro ?_ ?_ | rfl | omega | (simp; done) | (simp; omega)))); (case hr => (try simp only [push_cast, Nat.reduceBEq, Nat.reduceLeDiff, Nat.reduceAdd]); (repeat' (first | exact trivial | (refine cv_ptE rfl rfl rfl rfl rfl ?_; simp only [push_cast, Nat.reduceBEq, Nat.reduceLeDiff, Nat.reduceAdd]) | exact cv_slE rfl rfl ⟨rfl, rfl⟩ (by simp) (by simp [take_map_len]) | exact cv_slG rfl rfl ⟨rfl, rfl⟩ (by simp) (by first | rfl | (simp; done)) (by first | rfl | (simp; done) | (simp; omega)) (by simp [push_cast]) | exact cv_ros_self (by simp [push_cast]) | exact bel_ros_cl (by simp [push_cast]) | exact cellsCv_eq (by simp [take_map_len]) (by simp [push_cast]) | refine And.intro ?_ ?_ | rfl | omega | (simp; done) | (simp; omega)))); (case hinj => simp [rhoA_0, rhoA_1, rhoA_2]); all_goals exact 0)
  rintro k ⟨hk, hok⟩
  replace hk : k ≤ os.length := hk
  rcases Nat.lt_or_ge k os.length with hk' | hk'
  · obtain ⟨⟨i, p, d, s, a, f⟩, hx⟩ := lt_get hk'
    have hg := getD_map (enc := oc) hx
    have hd' := dlt hk'
    have hw := inc64 (k := k) (by omega)
    have hst := okU_step (m := m) hx
    rw [← okR_eq] at hst
    have hbad := fun e : okR m k ⟨i, p, d, s, a, f⟩ = false => okU_bad hx ((okR_eq m k _).symm.trans e)
    (try simp only [push_cast, seval, reduceCtorEq, hg, hd', hw])
    repeat' (first
      | ((first | ((first | refine brX_split ?_ ?_ | refine gX_split ?_ ?_ | refine hX_split ?_ ?_ | refine outK_split ?_ ?_) <;> (intro xc; (try simp only [Bool.not_eq_true', Bool.not_eq_false'] at xc); have xp := xc; (try simp only [decide_eq_true_eq, decide_eq_false_iff_not, Int.not_lt, Int.not_le, ge_iff_le, gt_iff_lt, Bool.and_eq_true, Bool.or_eq_false_iff] at xp); have xq := xp; (first | simp only [← Int.not_le] at xq | simp only [← Int.not_lt] at xq | clear xq))) | refine ⟨.ret _, _, PCall.s (by first | exact refValid_p _ _ _ _ _ _) (by simp [push_cast, hg, hd', hw]), ?_⟩ | refine ⟨.ret _, _, RCall.s (RCall.sh (by first | exact refValid_p _ _ _ _ _ _)) (by simp [push_cast, hg, hd', hw]), ?_⟩ | refine ⟨_, _, SCall.lift (by first | exact refValid_p _ _ _ _ _ _) (outR_cl (by simp [push_cast]) (by simp [push_cast])) (by simp [push_cast, hg, hd', hw]), ?_⟩ | refine ⟨_, (by first | exact refValid_p _ _ _ _ _ _), ?_⟩ | refine ⟨0, [], _, PCall.r (by first | exact refValid_p _ _ _ _ _ _), ?_⟩ | refine ⟨_, _, (by first | exact refValid_p _ _ _ _ _ _), ?_⟩ | refine ⟨_, _, _, RCall.sh (by first | exact refValid_p _ _ _ _ _ _), ?_⟩ | refine ⟨_, _, _, (by first | exact refValid_p _ _ _ _ _ _), ?_⟩ | ((fail_if_success (refine ⟨_, ?_, ?_⟩)); refine ⟨AV.any, ?_⟩) | refine ret_frz rfl ?_ (by simp [push_cast]) (by simp [push_cast, hg, hd', hw]) (by simp [push_cast, hg, hd', hw]) | refine end_frz rfl ?_ (by simp [push_cast]) (by simp [push_cast, hg, hd', hw]) (by simp [push_cast, hg, hd', hw]) | refine ret_now (by simp [push_cast]) ?_ (by simp [push_cast]) | refine end_now (by simp [push_cast]) ?_ (by simp [push_cast])) <;> (try simp only [push_cast, seval, reduceCtorEq, *, hg, hd', hw]))
      | ((first | refine cv_ptE rfl rfl rfl rfl rfl ?_ | refine outQ_frz rfl ?_ (by simp [push_cast]) (by simp [push_cast, hg, hd', hw]) | refine dfr_end (by simp) rfl ?_ (by simp [push_cast]) (by simp [push_cast, hg, hd', hw])) <;> (try simp only [push_cast, seval, reduceCtorEq, hg, hd', hw]))
      | exact cv_slE rfl rfl ⟨rfl, rfl⟩ (by simp) (by simp [take_map_len])
      | refine outQ_pan ?_ (by simp [push_cast])
      | refine outQ_unit ?_
      | refine outQ_unitN ?_
      | refine And.intro ?_ ?_
      | omega)
    all_goals (try simp only [push_cast, seval, reduceCtorEq, hg, hd', hw])
    all_goals first
      | (simp only [*, hg, hd', hw]; done)
      | (simp [*, hg, hd', hw]; done)
      | (simp_all [hg, hd', hw]; done)
      | (simp_all [hg, hd', hw]; omega)
      | (simp [hbad (by simp [okR, *])]; done)
      | skip
    all_goals (refine rnd_to _ _ _ (k + 1) ⟨hk', by rw [hst]; simp [okR, *]⟩ (by first | omega | (dsimp only; omega)) ?_)
    all_goals (apply Wk.renA (fun _ => false); (case he => (try simp only [push_cast, Nat.reduceBEq, Nat.reduceLeDiff, Nat.reduceAdd]); (repeat' (first | exact trivial | (refine cv_ptE rfl rfl rfl rfl rfl ?_; simp only [push_cast, Nat.reduceBEq, Nat.reduceLeDiff, Nat.reduceAdd]) | exact cv_slE rfl rfl ⟨rfl, rfl⟩ (by simp) (by simp [take_map_len]) | exact cv_slG rfl rfl ⟨rfl, rfl⟩ (by simp) (by first | rfl | (simp; done)) (by first | rfl | (simp; done) | (simp; omega)) (by simp [push_cast]) | exact cv_ros_self (by simp [push_cast]) | exact bel_ros_cl (by simp [push_cast]) | exact cellsCv_eq (by simp [take_map_len]) (by simp [push_cast]) | refine And.intro ?_ ?_ | rfl | omega | (simp; done) | (simp; omega)))); (case hr => (try simp only [push_cast, Nat.reduceBEq, Nat.reduceLeDiff, Nat.reduceAdd]); (repeat' (first | exact trivial | (refine cv_ptE rfl rfl rfl rfl rfl ?_; simp only [push_cast, Nat.reduceBEq, Nat.reduceLeDiff, Nat.reduceAdd]) | exact cv_slE rfl rfl ⟨rfl, rfl⟩ (by simp) (by simp [take_map_len]) | exact cv_slG rfl rfl ⟨rfl, rfl⟩ (by simp) (by first | rfl | (simp; done)) (by first | rfl | (simp; done) | (simp; omega)) (by simp [push_cast]) | exact cv_ros_self (by simp [push_cast]) | exact bel_ros_cl (by simp [push_cast]) | exact cellsCv_eq (by simp [take_map_len]) (by simp [push_cast]) | refine And.intro ?_ ?_ | rfl | omega | (simp; done) | (simp; omega)))); (case hinj => simp [rhoA_0, rhoA_1, rhoA_2]); all_goals exact 0)
  · have hd' := dge hk'
    obtain rfl : k = os.length := by omega
    (try simp only [push_cast, seval, reduceCtorEq, hd'])
    repeat' (first
      | ((first | ((first | refine brX_split ?_ ?_ | refine gX_split ?_ ?_ | refine hX_split ?_ ?_ | refine outK_split ?_ ?_) <;> (intro xc; (try simp only [Bool.not_eq_true', Bool.not_eq_false'] at xc); have xp := xc; (try simp only [decide_eq_true_eq, decide_eq_false_iff_not, Int.not_lt, Int.not_le, ge_iff_le, gt_iff_lt, Bool.and_eq_true, Bool.or_eq_false_iff] at xp); have xq := xp; (first | simp only [← Int.not_le] at xq | simp only [← Int.not_lt] at xq | clear xq))) | refine ⟨.ret _, _, PCall.s (by first | exact refQueued_p _ (by omega) | exact sameInts_p _ _ (by omega)) (by simp [push_cast, hd']), ?_⟩ | refine ⟨.ret _, _, RCall.s (RCall.sh (by first | exact refQueued_p _ (by omega) | exact sameInts_p _ _ (by omega))) (by simp [push_cast, hd']), ?_⟩ | refine ⟨_, _, SCall.lift (by first | exact refQueued_p _ (by omega) | exact sameInts_p _ _ (by omega)) (outR_cl (by simp [push_cast]) (by simp [push_cast])) (by simp [push_cast, hd']), ?_⟩ | refine ⟨_, (by first | exact refQueued_p _ (by omega) | exact sameInts_p _ _ (by omega)), ?_⟩ | refine ⟨0, [], _, PCall.r (by first | exact refQueued_p _ (by omega) | exact sameInts_p _ _ (by omega)), ?_⟩ | refine ⟨_, _, (by first | exact refQueued_p _ (by omega) | exact sameInts_p _ _ (by omega)), ?_⟩ | refine ⟨_, _, _, RCall.sh (by first | exact refQueued_p _ (by omega) | exact sameInts_p _ _ (by omega)), ?_⟩ | refine ⟨_, _, _, (by first | exact refQueued_p _ (by omega) | exact sameInts_p _ _ (by omega)), ?_⟩ | ((fail_if_success (refine ⟨_, ?_, ?_⟩)); refine ⟨AV.any, ?_⟩) | refine ret_frz rfl ?_ (by simp [push_cast]) (by simp [push_cast, hd']) (by simp [push_cast, hd']) | refine end_frz rfl ?_ (by simp [push_cast]) (by simp [push_cast, hd']) (by simp [push_cast, hd']) | refine ret_now (by simp [push_cast]) ?_ (by simp [push_cast]) | refine end_now (by simp [push_cast]) ?_ (by simp [push_cast])) <;> (try simp only [push_cast, seval, reduceCtorEq, *, hd']))
      | ((first | refine cv_ptE rfl rfl rfl rfl rfl ?_ | refine outQ_frz rfl ?_ (by simp [push_cast]) (by simp [push_cast, hd']) | refine dfr_end (by simp) rfl ?_ (by simp [push_cast]) (by simp [push_cast, hd'])) <;> (try simp only [push_cast, seval, reduceCtorEq, hd']))
      | exact cv_slE rfl rfl ⟨rfl, rfl⟩ (by simp) (by simp [take_map_len])
      | refine outQ_pan ?_ (by simp [push_cast])
      | refine outQ_unit ?_
      | refine outQ_unitN ?_
      | refine And.intro ?_ ?_
      | omega)
    all_goals (try simp only [push_cast, seval, reduceCtorEq, hd', hok, preB])
    all_goals first
      | (simp only [*, hd', hok, preB]; done)
      | (simp [*, hd', hok, preB]; done)
      | (simp_all [hd', hok, preB]; done)
      | (simp_all [hd', hok, preB]; omega)
      | skip
end Go.Proofs.Ytffiicopifmmfaa
