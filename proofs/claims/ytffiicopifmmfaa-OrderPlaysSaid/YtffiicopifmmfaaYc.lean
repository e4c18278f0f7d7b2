/- Facts of the program over abstract values. No condition. -/
import Derived.Test.YtffiicopifmmfaaYa
import Derived.Test.YtffiicopifmmfaaZx
set_option linter.unusedSimpArgs false
set_option linter.unusedVariables false
set_option maxRecDepth 8000
namespace Go.Proofs.Ytffiicopifmmfaa
set_option linter.unusedSimpArgs false
set_option linter.unusedVariables false
set_option linter.unnecessarySimpa false
set_option linter.unusedSectionVars false
open Go.Proofs.Try
open Go.Proofs.Ytffiicopifmmfaa.Ai
set_option maxHeartbeats 4000000

/-! The reference's books -/
theorem refGet_p {b : Bk} {m : Tm} (h : Fit b m) (id : Int) : PCall prog 66 [.agg (tmc m), .agg (bkc b), .int .i64 id] (.tup [.agg (oc (gtO b m id)), .int .i64 (ordE b m id)]) := by
  have hc := refCheckBook_p b m h
  by_cases h0 : bookE b m = 0
  case neg =>
    have e : ordE b m id = bookE b m := by simp [ordE, h0]
    have e2 : gtO b m id = zO := by simp [gtO, e, h0]
    rw [e, e2]
    obtain ⟨c, hb, hl⟩ := l66
    refine pcall_of mixed e66 hb rfl hl r66 (by rw [n66]; simp) ?_
    clear hb hl c
    (try simp only [push_cast, seval, reduceCtorEq, h0])
    repeat' (first
      | ((first | ((first | refine brX_split ?_ ?_ | refine gX_split ?_ ?_ | refine hX_split ?_ ?_ | refine outK_split ?_ ?_) <;> (intro xc; (try simp only [Bool.not_eq_true', Bool.not_eq_false'] at xc); have xp := xc; (try simp only [decide_eq_true_eq, decide_eq_false_iff_not, Int.not_lt, Int.not_le, ge_iff_le, gt_iff_lt, Bool.and_eq_true, Bool.or_eq_false_iff] at xp); have xq := xp; (first | simp only [← Int.not_le] at xq | simp only [← Int.not_lt] at xq | clear xq))) | refine ⟨.ret _, _, PCall.s (by first | assumption) (by simp [push_cast, h0]), ?_⟩ | refine ⟨.ret _, _, RCall.s (RCall.sh (by first | assumption)) (by simp [push_cast, h0]), ?_⟩ | refine ⟨_, _, SCall.lift (by first | assumption) (outR_cl (by simp [push_cast]) (by simp [push_cast])) (by simp [push_cast, h0]), ?_⟩ | refine ⟨_, (by first | assumption), ?_⟩ | refine ⟨0, [], _, PCall.r (by first | assumption), ?_⟩ | refine ⟨_, _, (by first | assumption), ?_⟩ | refine ⟨_, _, _, RCall.sh (by first | assumption), ?_⟩ | refine ⟨_, _, _, (by first | assumption), ?_⟩ | ((fail_if_success (refine ⟨_, ?_, ?_⟩)); refine ⟨AV.any, ?_⟩) | refine ret_frz rfl ?_ (by simp [push_cast]) (by simp [push_cast, h0]) (by simp [push_cast, h0]) | refine end_frz rfl ?_ (by simp [push_cast]) (by simp [push_cast, h0]) (by simp [push_cast, h0]) | refine ret_now (by simp [push_cast]) ?_ (by simp [push_cast]) | refine end_now (by simp [push_cast]) ?_ (by simp [push_cast])) <;> (try simp only [push_cast, seval, reduceCtorEq, *, h0]))
      | ((first | refine cv_ptE rfl rfl rfl rfl rfl ?_ | refine outQ_frz rfl ?_ (by simp [push_cast]) (by simp [push_cast, h0]) | refine dfr_end (by simp) rfl ?_ (by simp [push_cast]) (by simp [push_cast, h0])) <;> (try simp only [push_cast, seval, reduceCtorEq, h0]))
      | exact cv_slE rfl rfl ⟨rfl, rfl⟩ (by simp) (by simp [take_map_len])
      | refine outQ_pan ?_ (by simp [push_cast])
      | refine outQ_unit ?_
      | refine outQ_unitN ?_
      | refine And.intro ?_ ?_
      | omega)
    all_goals (try simp only [push_cast, seval, reduceCtorEq, h0, zO])
    all_goals first
      | (simp only [*, h0, zO]; done)
      | (simp [*, h0, zO]; done)
      | (simp_all [h0, zO]; done)
      | (simp_all [h0, zO]; omega)
      | skip
  rw [h0] at hc
  have hl := (book0_len h0).1
  cases hi : inB 1 b.os.length id
  · have e : ordE b m id = 6 := by simp [ordE, h0, hi]
    have e2 : gtO b m id = zO := by simp [gtO, e]
    rw [e, e2]
    simp only [inB, Bool.and_eq_false_iff, decide_eq_false_iff_not] at hi
    clear e e2
    obtain ⟨c, hb, hl⟩ := l66
    refine pcall_of mixed e66 hb rfl hl r66 (by rw [n66]; simp) ?_
    clear hb hl c
    (try simp only [push_cast, seval, reduceCtorEq])
    repeat' (first
      | ((first | ((first | refine brX_split ?_ ?_ | refine gX_split ?_ ?_ | refine hX_split ?_ ?_ | refine outK_split ?_ ?_) <;> (intro xc; (try simp only [Bool.not_eq_true', Bool.not_eq_false'] at xc); have xp := xc; (try simp only [decide_eq_true_eq, decide_eq_false_iff_not, Int.not_lt, Int.not_le, ge_iff_le, gt_iff_lt, Bool.and_eq_true, Bool.or_eq_false_iff] at xp); have xq := xp; (first | simp only [← Int.not_le] at xq | simp only [← Int.not_lt] at xq | clear xq))) | refine ⟨.ret _, _, PCall.s (by first | assumption) (by simp [push_cast]), ?_⟩ | refine ⟨.ret _, _, RCall.s (RCall.sh (by first | assumption)) (by simp [push_cast]), ?_⟩ | refine ⟨_, _, SCall.lift (by first | assumption) (outR_cl (by simp [push_cast]) (by simp [push_cast])) (by simp [push_cast]), ?_⟩ | refine ⟨_, (by first | assumption), ?_⟩ | refine ⟨0, [], _, PCall.r (by first | assumption), ?_⟩ | refine ⟨_, _, (by first | assumption), ?_⟩ | refine ⟨_, _, _, RCall.sh (by first | assumption), ?_⟩ | refine ⟨_, _, _, (by first | assumption), ?_⟩ | ((fail_if_success (refine ⟨_, ?_, ?_⟩)); refine ⟨AV.any, ?_⟩) | refine ret_frz rfl ?_ (by simp [push_cast]) (by simp [push_cast]) (by simp [push_cast]) | refine end_frz rfl ?_ (by simp [push_cast]) (by simp [push_cast]) (by simp [push_cast]) | refine ret_now (by simp [push_cast]) ?_ (by simp [push_cast]) | refine end_now (by simp [push_cast]) ?_ (by simp [push_cast])) <;> (try simp only [push_cast, seval, reduceCtorEq, *]))
      | ((first | refine cv_ptE rfl rfl rfl rfl rfl ?_ | refine outQ_frz rfl ?_ (by simp [push_cast]) (by simp [push_cast]) | refine dfr_end (by simp) rfl ?_ (by simp [push_cast]) (by simp [push_cast])) <;> (try simp only [push_cast, seval, reduceCtorEq]))
      | exact cv_slE rfl rfl ⟨rfl, rfl⟩ (by simp) (by simp [take_map_len])
      | refine outQ_pan ?_ (by simp [push_cast])
      | refine outQ_unit ?_
      | refine outQ_unitN ?_
      | refine And.intro ?_ ?_
      | omega)
    all_goals (try simp only [push_cast, seval, reduceCtorEq, zO])
    all_goals first
      | (simp only [*, zO]; done)
      | (simp [*, zO]; done)
      | (simp_all [zO]; done)
      | (simp_all [zO]; omega)
      | skip
  · have e : ordE b m id = 0 := by simp [ordE, h0, hi]
    obtain ⟨_, k, rfl, hk⟩ := ord0 e
    have e2 : gtO b m ((k : Int) + 1) = ordAt b ((k : Int) + 1) := by simp [gtO, e]
    rw [e, e2]
    have hg := getD_map (enc := oc) hk
    have hlt : k < b.os.length := (List.getElem?_eq_some_iff.1 hk).1
    have hw : IntKind.i64.wrap ((k : Int) + 1 - 1) = k := by rw [IntWalk.i64_in _ (by omega)]; omega
    generalize ordAt b ((k : Int) + 1) = o at *
    clear e e2 hk hi
    obtain ⟨c, hb, hl⟩ := l66
    refine pcall_of mixed e66 hb rfl hl r66 (by rw [n66]; simp) ?_
    clear hb hl c
    (try simp only [push_cast, seval, reduceCtorEq, hg, hw])
    repeat' (first
      | ((first | ((first | refine brX_split ?_ ?_ | refine gX_split ?_ ?_ | refine hX_split ?_ ?_ | refine outK_split ?_ ?_) <;> (intro xc; (try simp only [Bool.not_eq_true', Bool.not_eq_false'] at xc); have xp := xc; (try simp only [decide_eq_true_eq, decide_eq_false_iff_not, Int.not_lt, Int.not_le, ge_iff_le, gt_iff_lt, Bool.and_eq_true, Bool.or_eq_false_iff] at xp); have xq := xp; (first | simp only [← Int.not_le] at xq | simp only [← Int.not_lt] at xq | clear xq))) | refine ⟨.ret _, _, PCall.s (by first | assumption) (by simp [push_cast, hg, hw]), ?_⟩ | refine ⟨.ret _, _, RCall.s (RCall.sh (by first | assumption)) (by simp [push_cast, hg, hw]), ?_⟩ | refine ⟨_, _, SCall.lift (by first | assumption) (outR_cl (by simp [push_cast]) (by simp [push_cast])) (by simp [push_cast, hg, hw]), ?_⟩ | refine ⟨_, (by first | assumption), ?_⟩ | refine ⟨0, [], _, PCall.r (by first | assumption), ?_⟩ | refine ⟨_, _, (by first | assumption), ?_⟩ | refine ⟨_, _, _, RCall.sh (by first | assumption), ?_⟩ | refine ⟨_, _, _, (by first | assumption), ?_⟩ | ((fail_if_success (refine ⟨_, ?_, ?_⟩)); refine ⟨AV.any, ?_⟩) | refine ret_frz rfl ?_ (by simp [push_cast]) (by simp [push_cast, hg, hw]) (by simp [push_cast, hg, hw]) | refine end_frz rfl ?_ (by simp [push_cast]) (by simp [push_cast, hg, hw]) (by simp [push_cast, hg, hw]) | refine ret_now (by simp [push_cast]) ?_ (by simp [push_cast]) | refine end_now (by simp [push_cast]) ?_ (by simp [push_cast])) <;> (try simp only [push_cast, seval, reduceCtorEq, *, hg, hw]))
      | ((first | refine cv_ptE rfl rfl rfl rfl rfl ?_ | refine outQ_frz rfl ?_ (by simp [push_cast]) (by simp [push_cast, hg, hw]) | refine dfr_end (by simp) rfl ?_ (by simp [push_cast]) (by simp [push_cast, hg, hw])) <;> (try simp only [push_cast, seval, reduceCtorEq, hg, hw]))
      | exact cv_slE rfl rfl ⟨rfl, rfl⟩ (by simp) (by simp [take_map_len])
      | refine outQ_pan ?_ (by simp [push_cast])
      | refine outQ_unit ?_
      | refine outQ_unitN ?_
      | refine And.intro ?_ ?_
      | omega)
    all_goals (try simp only [push_cast, seval, reduceCtorEq, hg, hw])
    all_goals first
      | (simp only [*, hg, hw]; done)
      | (simp [*, hg, hw]; done)
      | (simp_all [hg, hw]; done)
      | (simp_all [hg, hw]; omega)
      | skip
theorem twin_r {b : Bk} (h : b.os ≠ []) (hl : b.os.length * 48 ≤ 140737488355328) (hq : b.q.length * 8 ≤ 140737488355328) : RCall prog 37 [.agg (bkc b)] 0 2 (ownR b) (ownV b) := by
  obtain ⟨os, q, cw, cm⟩ := b
  rcases os with _ | ⟨o, os⟩
  · exact absurd rfl h
  rcases q with _ | ⟨x, q⟩
  all_goals
  simp only [ownV, ownR, List.map_nil, List.map_cons, accV, accR] at *
  simp only [List.length_cons] at hl hq
  refine SCall.r ?_ (look_lt (by first | rfl | simp [accR, List.all_append, all_accR]))
  obtain ⟨c, hb, hl⟩ := l37
  refine scall_of mixed e37 hb rfl hl r37 (by rw [n37]; simp) ?_
  clear hb hl c
  (try simp only [push_cast, seval, reduceCtorEq])
  repeat' (first
    | ((first | ((first | refine brX_split ?_ ?_ | refine gX_split ?_ ?_ | refine hX_split ?_ ?_ | refine outK_split ?_ ?_) <;> (intro xc; (try simp only [Bool.not_eq_true', Bool.not_eq_false'] at xc); have xp := xc; (try simp only [decide_eq_true_eq, decide_eq_false_iff_not, Int.not_lt, Int.not_le, ge_iff_le, gt_iff_lt, Bool.and_eq_true, Bool.or_eq_false_iff] at xp); have xq := xp; (first | simp only [← Int.not_le] at xq | simp only [← Int.not_lt] at xq | clear xq))) | ((fail_if_success (refine ⟨_, ?_, ?_⟩)); refine ⟨AV.any, ?_⟩) | refine ret_frz rfl ?_ (by simp [push_cast]) (by simp [push_cast]) (by simp [push_cast]) | refine end_frz rfl ?_ (by simp [push_cast]) (by simp [push_cast]) (by simp [push_cast]) | refine ret_now (by simp [push_cast]) ?_ (by simp [push_cast]) | refine end_now (by simp [push_cast]) ?_ (by simp [push_cast])) <;> (try simp only [push_cast, seval, reduceCtorEq, *]))
    | ((first | refine cv_ptE rfl rfl rfl rfl rfl ?_ | refine outQ_frz rfl ?_ (by simp [push_cast]) (by simp [push_cast]) | refine dfr_end (by simp) rfl ?_ (by simp [push_cast]) (by simp [push_cast])) <;> (try simp only [push_cast, seval, reduceCtorEq]))
    | exact cv_slE rfl rfl ⟨rfl, rfl⟩ (by simp) (by simp [take_map_len])
    | refine outQ_pan ?_ (by simp [push_cast])
    | refine outQ_unit ?_
    | refine outQ_unitN ?_
    | refine And.intro ?_ ?_
    | omega)
  all_goals (try simp only [push_cast, seval, reduceCtorEq])
  all_goals first
    | (simp only [*]; done)
    | (simp [*]; done)
    | (simp_all []; done)
    | (simp_all []; omega)
    | skip
  all_goals first
    | omega
    | (refine outQ_ret rfl ?_ (by simp [push_cast]) (by simp [push_cast]); (apply Wk.renA (fun i => i == 1); (case he => (try simp only [push_cast, Nat.reduceBEq, Nat.reduceLeDiff, Nat.reduceAdd]); (repeat' (first | exact trivial | (refine cv_ptE rfl rfl rfl rfl rfl ?_; simp only [push_cast, Nat.reduceBEq, Nat.reduceLeDiff, Nat.reduceAdd]) | exact cv_slE rfl rfl ⟨rfl, rfl⟩ (by simp) (by simp [take_map_len]) | exact cv_slG rfl rfl ⟨rfl, rfl⟩ (by simp) (by first | rfl | (simp; done)) (by first | rfl | (simp; done) | (simp; omega)) (by simp [push_cast]) | exact cv_ros_self (by simp [push_cast]) | exact bel_ros_cl (by simp [push_cast]) | exact cellsCv_eq (by simp [take_map_len]) (by simp [push_cast]) | refine And.intro ?_ ?_ | rfl | omega | (simp; done) | (simp; omega)))); (case hr => (try simp only [push_cast, Nat.reduceBEq, Nat.reduceLeDiff, Nat.reduceAdd]); (repeat' (first | exact trivial | (refine cv_ptE rfl rfl rfl rfl rfl ?_; simp only [push_cast, Nat.reduceBEq, Nat.reduceLeDiff, Nat.reduceAdd]) | exact cv_slE rfl rfl ⟨rfl, rfl⟩ (by simp) (by simp [take_map_len]) | exact cv_slG rfl rfl ⟨rfl, rfl⟩ (by simp) (by first | rfl | (simp; done)) (by first | rfl | (simp; done) | (simp; omega)) (by simp [push_cast]) | exact cv_ros_self (by simp [push_cast]) | exact bel_ros_cl (by simp [push_cast]) | exact cellsCv_eq (by simp [take_map_len]) (by simp [push_cast]) | refine And.intro ?_ ?_ | rfl | omega | (simp; done) | (simp; omega)))); (case hinj => simp [rhoA_0, rhoA_1, rhoA_2]); all_goals exact 0))
theorem twin_p {b : Bk} (hl : b.os.length * 48 ≤ 140737488355328) (hq : b.q.length * 8 ≤ 140737488355328) : PCall prog 37 [.agg (bkc b)] (.agg (bkc b)) := by
  by_cases h : b.os = []
  · obtain ⟨os, q, cw, cm⟩ := b
    simp only at h
    subst h
    simp only [List.length_cons] at hq
    rcases q with _ | ⟨x, q⟩
    · obtain ⟨c, hb, hl⟩ := l37
      refine pcall_of mixed e37 hb rfl hl r37 (by rw [n37]; simp) ?_
      clear hb hl c
      (try simp only [push_cast, seval, reduceCtorEq])
      repeat' (first
        | ((first | ((first | refine brX_split ?_ ?_ | refine gX_split ?_ ?_ | refine hX_split ?_ ?_ | refine outK_split ?_ ?_) <;> (intro xc; (try simp only [Bool.not_eq_true', Bool.not_eq_false'] at xc); have xp := xc; (try simp only [decide_eq_true_eq, decide_eq_false_iff_not, Int.not_lt, Int.not_le, ge_iff_le, gt_iff_lt, Bool.and_eq_true, Bool.or_eq_false_iff] at xp); have xq := xp; (first | simp only [← Int.not_le] at xq | simp only [← Int.not_lt] at xq | clear xq))) | ((fail_if_success (refine ⟨_, ?_, ?_⟩)); refine ⟨AV.any, ?_⟩) | refine ret_frz rfl ?_ (by simp [push_cast]) (by simp [push_cast]) (by simp [push_cast]) | refine end_frz rfl ?_ (by simp [push_cast]) (by simp [push_cast]) (by simp [push_cast]) | refine ret_now (by simp [push_cast]) ?_ (by simp [push_cast]) | refine end_now (by simp [push_cast]) ?_ (by simp [push_cast])) <;> (try simp only [push_cast, seval, reduceCtorEq, *]))
        | ((first | refine cv_ptE rfl rfl rfl rfl rfl ?_ | refine outQ_frz rfl ?_ (by simp [push_cast]) (by simp [push_cast]) | refine dfr_end (by simp) rfl ?_ (by simp [push_cast]) (by simp [push_cast])) <;> (try simp only [push_cast, seval, reduceCtorEq]))
        | exact cv_slE rfl rfl ⟨rfl, rfl⟩ (by simp) (by simp [take_map_len])
        | refine outQ_pan ?_ (by simp [push_cast])
        | refine outQ_unit ?_
        | refine outQ_unitN ?_
        | refine And.intro ?_ ?_
        | omega)
      all_goals (try simp only [push_cast, seval, reduceCtorEq])
      all_goals first
        | (simp only [*]; done)
        | (simp [*]; done)
        | (simp_all []; done)
        | (simp_all []; omega)
        | skip
    · obtain ⟨c, hb, hl⟩ := l37
      refine pcall_of mixed e37 hb rfl hl r37 (by rw [n37]; simp) ?_
      clear hb hl c
      (try simp only [push_cast, seval, reduceCtorEq])
      repeat' (first
        | ((first | ((first | refine brX_split ?_ ?_ | refine gX_split ?_ ?_ | refine hX_split ?_ ?_ | refine outK_split ?_ ?_) <;> (intro xc; (try simp only [Bool.not_eq_true', Bool.not_eq_false'] at xc); have xp := xc; (try simp only [decide_eq_true_eq, decide_eq_false_iff_not, Int.not_lt, Int.not_le, ge_iff_le, gt_iff_lt, Bool.and_eq_true, Bool.or_eq_false_iff] at xp); have xq := xp; (first | simp only [← Int.not_le] at xq | simp only [← Int.not_lt] at xq | clear xq))) | ((fail_if_success (refine ⟨_, ?_, ?_⟩)); refine ⟨AV.any, ?_⟩) | refine ret_frz rfl ?_ (by simp [push_cast]) (by simp [push_cast]) (by simp [push_cast]) | refine end_frz rfl ?_ (by simp [push_cast]) (by simp [push_cast]) (by simp [push_cast]) | refine ret_now (by simp [push_cast]) ?_ (by simp [push_cast]) | refine end_now (by simp [push_cast]) ?_ (by simp [push_cast])) <;> (try simp only [push_cast, seval, reduceCtorEq, *]))
        | ((first | refine cv_ptE rfl rfl rfl rfl rfl ?_ | refine outQ_frz rfl ?_ (by simp [push_cast]) (by simp [push_cast]) | refine dfr_end (by simp) rfl ?_ (by simp [push_cast]) (by simp [push_cast])) <;> (try simp only [push_cast, seval, reduceCtorEq]))
        | exact cv_slE rfl rfl ⟨rfl, rfl⟩ (by simp) (by simp [take_map_len])
        | refine outQ_pan ?_ (by simp [push_cast])
        | refine outQ_unit ?_
        | refine outQ_unitN ?_
        | refine And.intro ?_ ?_
        | omega)
      all_goals (try simp only [push_cast, seval, reduceCtorEq])
      all_goals first
        | (simp only [*]; done)
        | (simp [*]; done)
        | (simp_all []; done)
        | (simp_all []; omega)
        | skip
      all_goals trace_state
      all_goals sorry
  · exact (twin_r h hl hq).still (cv_own b) (cl_bk b)
theorem with_p {b : Bk} {m : Tm} {k : Nat} {o : O} (hk : k < b.os.length) (ho : o.i = (k : Int) + 1) (hl : b.os.length ≤ 64) (hq : b.q.length ≤ 8) :
    PCall prog 84 [.agg (bkc b), .agg (oc o)] (.agg (bkc ⟨b.os.set k o, qiU (b.os.set k o) b.os.length, b.cw, b.cm⟩)) := by
  have hn : b.os ≠ [] := by intro h; simp [h] at hk
  have ht := twin_r hn (by omega) (by omega)
  have hr := refQueued_r (b.os.set k o) (by rw [List.length_set]; omega)
  have hw : IntKind.i64.wrap (o.i - 1) = k := by rw [ho, IntWalk.i64_in _ (by omega)]; omega
  obtain ⟨x, hx⟩ := lt_get hk
  have hg := getD_map (enc := oc) hx
  have hset : (b.os.map oc).set k (oc o) = (b.os.set k o).map oc := by rw [List.map_set]
  have hbl : b.os.length = (b.os.set k o).length := by rw [List.length_set]
  rw [← hbl] at hr
  generalize qiU (b.os.set k o) b.os.length = Q at *
  generalize b.os.set k o = os' at *
  obtain ⟨os, q, cw, cm⟩ := b
  simp only at *
  clear ho
  rcases q with _ | ⟨y, q⟩
  all_goals
  rcases Q with _ | ⟨y, Q⟩
  all_goals
  simp only [ownV, ownR, List.map_nil, List.map_cons, accV, accR] at *
  obtain ⟨c, hb, hl⟩ := l84
  refine pcall_of mixed e84 hb rfl hl r84 (by rw [n84]; simp) ?_
  clear hb hl c
  (try simp only [push_cast, seval, reduceCtorEq, hw, hg, hset, hbl])
  repeat' (first
    | ((first | ((first | refine brX_split ?_ ?_ | refine gX_split ?_ ?_ | refine hX_split ?_ ?_ | refine outK_split ?_ ?_) <;> (intro xc; (try simp only [Bool.not_eq_true', Bool.not_eq_false'] at xc); have xp := xc; (try simp only [decide_eq_true_eq, decide_eq_false_iff_not, Int.not_lt, Int.not_le, ge_iff_le, gt_iff_lt, Bool.and_eq_true, Bool.or_eq_false_iff] at xp); have xq := xp; (first | simp only [← Int.not_le] at xq | simp only [← Int.not_lt] at xq | clear xq))) | refine ⟨.ret _, _, PCall.s (by first | assumption) (by simp [push_cast, hw, hg, hset, hbl]), ?_⟩ | refine ⟨.ret _, _, RCall.s (RCall.sh (by first | assumption)) (by simp [push_cast, hw, hg, hset, hbl]), ?_⟩ | refine ⟨_, _, SCall.lift (by first | assumption) (outR_cl (by simp [push_cast]) (by simp [push_cast])) (by simp [push_cast, hw, hg, hset, hbl]), ?_⟩ | refine ⟨_, (by first | assumption), ?_⟩ | refine ⟨0, [], _, PCall.r (by first | assumption), ?_⟩ | refine ⟨_, _, (by first | assumption), ?_⟩ | refine ⟨_, _, _, RCall.sh (by first | assumption), ?_⟩ | refine ⟨_, _, _, (by first | assumption), ?_⟩ | refine ⟨_, _, PCall.frz (by first | exact hr) (by (try simp only [all2_cons, all2_nil, frzArg, push_cast, Nat.reduceBEq, Nat.reduceLeDiff, Nat.reduceAdd]); repeat' (first | exact trivial | exact cv_slF rfl rfl ⟨rfl, rfl⟩ (by simp) (by first | rfl | (simp; done)) (by first | rfl | (simp; done) | (simp; omega)) | exact cv_closed (by simp [push_cast]) | refine And.intro ?_ ?_ | rfl | (simp [push_cast]; done))) (by simp [push_cast, hw, hg, hset, hbl]), ?_⟩ | refine ⟨.ret _, _, RCall.frz (RCall.sh (by first | exact hr)) (by (try simp only [all2_cons, all2_nil, frzArg, push_cast, Nat.reduceBEq, Nat.reduceLeDiff, Nat.reduceAdd]); repeat' (first | exact trivial | exact cv_slF rfl rfl ⟨rfl, rfl⟩ (by simp) (by first | rfl | (simp; done)) (by first | rfl | (simp; done) | (simp; omega)) | exact cv_closed (by simp [push_cast]) | refine And.intro ?_ ?_ | rfl | (simp [push_cast]; done))) (by simp [push_cast, hw, hg, hset, hbl]) (by simp [push_cast, hw, hg, hset, hbl]), ?_⟩ | ((fail_if_success (refine ⟨_, ?_, ?_⟩)); refine ⟨AV.any, ?_⟩) | refine ret_frz rfl ?_ (by simp [push_cast]) (by simp [push_cast, hw, hg, hset, hbl]) (by simp [push_cast, hw, hg, hset, hbl]) | refine end_frz rfl ?_ (by simp [push_cast]) (by simp [push_cast, hw, hg, hset, hbl]) (by simp [push_cast, hw, hg, hset, hbl]) | refine ret_now (by simp [push_cast]) ?_ (by simp [push_cast]) | refine end_now (by simp [push_cast]) ?_ (by simp [push_cast])) <;> (try simp only [push_cast, seval, reduceCtorEq, *, hw, hg, hset, hbl]))
    | ((first | refine cv_ptE rfl rfl rfl rfl rfl ?_ | refine outQ_frz rfl ?_ (by simp [push_cast]) (by simp [push_cast, hw, hg, hset, hbl]) | refine dfr_end (by simp) rfl ?_ (by simp [push_cast]) (by simp [push_cast, hw, hg, hset, hbl])) <;> (try simp only [push_cast, seval, reduceCtorEq, hw, hg, hset, hbl]))
    | exact cv_slE rfl rfl ⟨rfl, rfl⟩ (by simp) (by simp [take_map_len])
    | refine outQ_pan ?_ (by simp [push_cast])
    | refine outQ_unit ?_
    | refine outQ_unitN ?_
    | refine And.intro ?_ ?_
    | omega)
  all_goals (try simp only [push_cast, seval, reduceCtorEq, hw, hg, hset, hbl])
  all_goals first
    | (simp only [*, hw, hg, hset, hbl]; done)
    | (simp [*, hw, hg, hset, hbl]; done)
    | (simp_all [hw, hg, hset, hbl]; done)
    | (simp_all [hw, hg, hset, hbl]; omega)
    | skip
end Go.Proofs.Ytffiicopifmmfaa
