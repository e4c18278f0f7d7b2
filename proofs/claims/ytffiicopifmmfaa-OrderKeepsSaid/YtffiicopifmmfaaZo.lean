/- Facts of the program over abstract values. No condition. -/
import Derived.Test.YtffiicopifmmfaaZn
set_option linter.unusedSimpArgs false
set_option maxRecDepth 8000
namespace Go.Proofs.Ytffiicopifmmfaa
set_option linter.unusedSimpArgs false
set_option linter.unusedVariables false
set_option linter.unnecessarySimpa false
set_option linter.unusedSectionVars false
open Go.Proofs.Try
open Go.Proofs.Ytffiicopifmmfaa.Ai
set_option maxHeartbeats 4000000

def asE (b : Bk) (m : Tm) : Int := bif decide (bookE b m = 0) then (match b.q with | [] => 6 | i :: _ => avE b m i 2 0) else bookE b m
theorem assign_n {b : Bk} {m : Tm} (h : Fit b m) (ha : ¬ asE b m = 0) : PCall prog 44 [.agg (tmc m), .agg (bkc b)] (.tup [.agg zbk, .int .i64 0, .int .i64 (asE b m)]) := by
  have hk := checkBook_r h
  by_cases h0 : bookE b m = 0
  case neg =>
    have he : asE b m = bookE b m := by simp [asE, h0]
    rw [he]
    obtain ⟨c, hb, hl⟩ := l44
    refine pcall_of mixed e44 hb rfl hl r44 (by rw [n44]; simp) ?_
    clear hb hl c
    (try simp only [push_cast, seval, reduceCtorEq, h0])
    repeat' (first
      | ((first | ((first | refine brX_split ?_ ?_ | refine gX_split ?_ ?_ | refine hX_split ?_ ?_ | refine outK_split ?_ ?_) <;> (intro xc; (try simp only [Bool.not_eq_true', Bool.not_eq_false'] at xc); have xp := xc; (try simp only [decide_eq_true_eq, decide_eq_false_iff_not, Int.not_lt, Int.not_le, ge_iff_le, gt_iff_lt, Bool.and_eq_true, Bool.or_eq_false_iff] at xp); have xq := xp; (first | simp only [← Int.not_le] at xq | simp only [← Int.not_lt] at xq | clear xq))) | refine ⟨.ret _, _, PCall.s (by first | assumption) (by simp [push_cast, h0]), ?_⟩ | refine ⟨.ret _, _, RCall.s (RCall.sh (by first | assumption)) (by simp [push_cast, h0]), ?_⟩ | refine ⟨_, _, SCall.lift (by first | assumption) (outR_cl (by simp [push_cast]) (by simp [push_cast])) (by simp [push_cast, h0]), ?_⟩ | refine ⟨_, (by first | assumption), ?_⟩ | refine ⟨0, [], _, PCall.r (by first | assumption), ?_⟩ | refine ⟨_, _, (by first | assumption), ?_⟩ | refine ⟨_, _, _, RCall.sh (by first | assumption), ?_⟩ | refine ⟨_, _, _, (by first | assumption), ?_⟩ | ((fail_if_success (refine ⟨_, ?_, ?_⟩)); refine ⟨AV.any, ?_⟩) | refine ret_frz rfl ?_ (by simp [push_cast]) (by simp [push_cast, h0]) (by simp [push_cast, h0]) | refine end_frz rfl ?_ (by simp [push_cast]) (by simp [push_cast, h0]) (by simp [push_cast, h0]) | refine ret_now (by simp [push_cast]) ?_ (by simp [push_cast]) | refine end_now (by simp [push_cast]) ?_ (by simp [push_cast])) <;> (try simp only [push_cast, seval, reduceCtorEq, *, h0]))
      | ((first | refine cv_ptE rfl rfl rfl rfl rfl ?_ | refine outQ_frz rfl ?_ (by simp [push_cast]) (by simp [push_cast, h0]) | refine dfr_end (by simp) rfl ?_ (by simp [push_cast]) (by simp [push_cast, h0])) <;> (try simp only [push_cast, seval, reduceCtorEq, h0]))
      | exact cv_slE rfl rfl ⟨rfl, rfl⟩ (by simp) (by simp [take_map_len])
      | refine outQ_pan ?_ (by simp [push_cast])
      | refine outQ_unit ?_
      | refine outQ_unitN ?_
      | refine And.intro ?_ ?_
      | omega)
    all_goals (try simp only [push_cast, seval, reduceCtorEq, h0])
    all_goals first
      | (simp only [*, h0]; done)
      | (simp [*, h0]; done)
      | (simp_all [h0]; done)
      | (simp_all [h0]; omega)
      | skip
  obtain ⟨os, q, cw, cm⟩ := b
  rcases q with _ | ⟨i, j⟩
  · have he : asE ⟨os, [], cw, cm⟩ m = 6 := by simp [asE, h0]
    rw [he]
    obtain ⟨c, hb, hl⟩ := l44
    refine pcall_of mixed e44 hb rfl hl r44 (by rw [n44]; simp) ?_
    clear hb hl c
    (try simp only [push_cast, seval, reduceCtorEq, h0])
    repeat' (first
      | ((first | ((first | refine brX_split ?_ ?_ | refine gX_split ?_ ?_ | refine hX_split ?_ ?_ | refine outK_split ?_ ?_) <;> (intro xc; (try simp only [Bool.not_eq_true', Bool.not_eq_false'] at xc); have xp := xc; (try simp only [decide_eq_true_eq, decide_eq_false_iff_not, Int.not_lt, Int.not_le, ge_iff_le, gt_iff_lt, Bool.and_eq_true, Bool.or_eq_false_iff] at xp); have xq := xp; (first | simp only [← Int.not_le] at xq | simp only [← Int.not_lt] at xq | clear xq))) | refine ⟨.ret _, _, PCall.s (by first | assumption) (by simp [push_cast, h0]), ?_⟩ | refine ⟨.ret _, _, RCall.s (RCall.sh (by first | assumption)) (by simp [push_cast, h0]), ?_⟩ | refine ⟨_, _, SCall.lift (by first | assumption) (outR_cl (by simp [push_cast]) (by simp [push_cast])) (by simp [push_cast, h0]), ?_⟩ | refine ⟨_, (by first | assumption), ?_⟩ | refine ⟨0, [], _, PCall.r (by first | assumption), ?_⟩ | refine ⟨_, _, (by first | assumption), ?_⟩ | refine ⟨_, _, _, RCall.sh (by first | assumption), ?_⟩ | refine ⟨_, _, _, (by first | assumption), ?_⟩ | ((fail_if_success (refine ⟨_, ?_, ?_⟩)); refine ⟨AV.any, ?_⟩) | refine ret_frz rfl ?_ (by simp [push_cast]) (by simp [push_cast, h0]) (by simp [push_cast, h0]) | refine end_frz rfl ?_ (by simp [push_cast]) (by simp [push_cast, h0]) (by simp [push_cast, h0]) | refine ret_now (by simp [push_cast]) ?_ (by simp [push_cast]) | refine end_now (by simp [push_cast]) ?_ (by simp [push_cast])) <;> (try simp only [push_cast, seval, reduceCtorEq, *, h0]))
      | ((first | refine cv_ptE rfl rfl rfl rfl rfl ?_ | refine outQ_frz rfl ?_ (by simp [push_cast]) (by simp [push_cast, h0]) | refine dfr_end (by simp) rfl ?_ (by simp [push_cast]) (by simp [push_cast, h0])) <;> (try simp only [push_cast, seval, reduceCtorEq, h0]))
      | exact cv_slE rfl rfl ⟨rfl, rfl⟩ (by simp) (by simp [take_map_len])
      | refine outQ_pan ?_ (by simp [push_cast])
      | refine outQ_unit ?_
      | refine outQ_unitN ?_
      | refine And.intro ?_ ?_
      | omega)
    all_goals (try simp only [push_cast, seval, reduceCtorEq, h0])
    all_goals first
      | (simp only [*, h0]; done)
      | (simp [*, h0]; done)
      | (simp_all [h0]; done)
      | (simp_all [h0]; omega)
      | skip
  · have he : asE ⟨os, i :: j, cw, cm⟩ m = avE ⟨os, i :: j, cw, cm⟩ m i 2 0 := by simp [asE, h0]
    rw [he] at ha ⊢
    have hn := adv_n h i 2 0 ha
    generalize avE ⟨os, i :: j, cw, cm⟩ m i 2 0 = E at *
    obtain ⟨c, hb, hl⟩ := l44
    refine pcall_of mixed e44 hb rfl hl r44 (by rw [n44]; simp) ?_
    clear hb hl c
    (try simp only [push_cast, seval, reduceCtorEq, h0, ha])
    repeat' (first
      | ((first | ((first | refine brX_split ?_ ?_ | refine gX_split ?_ ?_ | refine hX_split ?_ ?_ | refine outK_split ?_ ?_) <;> (intro xc; (try simp only [Bool.not_eq_true', Bool.not_eq_false'] at xc); have xp := xc; (try simp only [decide_eq_true_eq, decide_eq_false_iff_not, Int.not_lt, Int.not_le, ge_iff_le, gt_iff_lt, Bool.and_eq_true, Bool.or_eq_false_iff] at xp); have xq := xp; (first | simp only [← Int.not_le] at xq | simp only [← Int.not_lt] at xq | clear xq))) | refine ⟨.ret _, _, PCall.s (by first | assumption) (by simp [push_cast, h0, ha]), ?_⟩ | refine ⟨.ret _, _, RCall.s (RCall.sh (by first | assumption)) (by simp [push_cast, h0, ha]), ?_⟩ | refine ⟨_, _, SCall.lift (by first | assumption) (outR_cl (by simp [push_cast]) (by simp [push_cast])) (by simp [push_cast, h0, ha]), ?_⟩ | refine ⟨_, (by first | assumption), ?_⟩ | refine ⟨0, [], _, PCall.r (by first | assumption), ?_⟩ | refine ⟨_, _, (by first | assumption), ?_⟩ | refine ⟨_, _, _, RCall.sh (by first | assumption), ?_⟩ | refine ⟨_, _, _, (by first | assumption), ?_⟩ | ((fail_if_success (refine ⟨_, ?_, ?_⟩)); refine ⟨AV.any, ?_⟩) | refine ret_frz rfl ?_ (by simp [push_cast]) (by simp [push_cast, h0, ha]) (by simp [push_cast, h0, ha]) | refine end_frz rfl ?_ (by simp [push_cast]) (by simp [push_cast, h0, ha]) (by simp [push_cast, h0, ha]) | refine ret_now (by simp [push_cast]) ?_ (by simp [push_cast]) | refine end_now (by simp [push_cast]) ?_ (by simp [push_cast])) <;> (try simp only [push_cast, seval, reduceCtorEq, *, h0, ha]))
      | ((first | refine cv_ptE rfl rfl rfl rfl rfl ?_ | refine outQ_frz rfl ?_ (by simp [push_cast]) (by simp [push_cast, h0, ha]) | refine dfr_end (by simp) rfl ?_ (by simp [push_cast]) (by simp [push_cast, h0, ha])) <;> (try simp only [push_cast, seval, reduceCtorEq, h0, ha]))
      | exact cv_slE rfl rfl ⟨rfl, rfl⟩ (by simp) (by simp [take_map_len])
      | refine outQ_pan ?_ (by simp [push_cast])
      | refine outQ_unit ?_
      | refine outQ_unitN ?_
      | refine And.intro ?_ ?_
      | omega)
    all_goals (try simp only [push_cast, seval, reduceCtorEq, h0, ha])
    all_goals first
      | (simp only [*, h0, ha]; done)
      | (simp [*, h0, ha]; done)
      | (simp_all [h0, ha]; done)
      | (simp_all [h0, ha]; omega)
      | skip
theorem assign_r {b : Bk} {m : Tm} (h : Fit b m) (k : Nat) (j : List Int) (hq : b.q = ((k : Int) + 1) :: j) (h0 : bookE b m = 0) (ha : avE b m ((k : Int) + 1) 2 0 = 0) :
    RCall prog 44 [.agg (tmc m), .agg (bkc b)] 0 2 (ownR (avB b k (ordAt b ((k : Int) + 1)) 2 0)) (.tup [ownV (avB b k (ordAt b ((k : Int) + 1)) 2 0), .int .i64 ((k : Int) + 1), .int .i64 0]) := by
  have hk := adv_r h k 2 0 ha
  have hc := checkBook_r h
  generalize avB b k (ordAt b ((k : Int) + 1)) 2 0 = B at *
  obtain ⟨os, q, cw, cm⟩ := B
  obtain ⟨os', q', cw', cm'⟩ := b
  simp only at hq
  subst hq
  refine SCall.r ?_ (look_lt (by simp [List.all_cons, all_accR]))
  rcases q with _ | ⟨i, j⟩
  all_goals
  simp only [ownV, ownR, List.map_nil, List.map_cons, accV, accR] at *
  obtain ⟨c, hb, hl⟩ := l44
  refine scall_of mixed e44 hb rfl hl r44 (by rw [n44]; simp) ?_
  clear hb hl c
  (try simp only [push_cast, seval, reduceCtorEq, h0])
  repeat' (first
    | ((first | ((first | refine brX_split ?_ ?_ | refine gX_split ?_ ?_ | refine hX_split ?_ ?_ | refine outK_split ?_ ?_) <;> (intro xc; (try simp only [Bool.not_eq_true', Bool.not_eq_false'] at xc); have xp := xc; (try simp only [decide_eq_true_eq, decide_eq_false_iff_not, Int.not_lt, Int.not_le, ge_iff_le, gt_iff_lt, Bool.and_eq_true, Bool.or_eq_false_iff] at xp); have xq := xp; (first | simp only [← Int.not_le] at xq | simp only [← Int.not_lt] at xq | clear xq))) | refine ⟨.ret _, _, PCall.s (by first | assumption) (by simp [push_cast, h0]), ?_⟩ | refine ⟨.ret _, _, RCall.s (RCall.sh (by first | assumption)) (by simp [push_cast, h0]), ?_⟩ | refine ⟨_, _, SCall.lift (by first | assumption) (outR_cl (by simp [push_cast]) (by simp [push_cast])) (by simp [push_cast, h0]), ?_⟩ | refine ⟨_, (by first | assumption), ?_⟩ | refine ⟨0, [], _, PCall.r (by first | assumption), ?_⟩ | refine ⟨_, _, (by first | assumption), ?_⟩ | refine ⟨_, _, _, RCall.sh (by first | assumption), ?_⟩ | refine ⟨_, _, _, (by first | assumption), ?_⟩ | ((fail_if_success (refine ⟨_, ?_, ?_⟩)); refine ⟨AV.any, ?_⟩) | refine ret_frz rfl ?_ (by simp [push_cast]) (by simp [push_cast, h0]) (by simp [push_cast, h0]) | refine end_frz rfl ?_ (by simp [push_cast]) (by simp [push_cast, h0]) (by simp [push_cast, h0]) | refine ret_now (by simp [push_cast]) ?_ (by simp [push_cast]) | refine end_now (by simp [push_cast]) ?_ (by simp [push_cast])) <;> (try simp only [push_cast, seval, reduceCtorEq, *, h0]))
    | ((first | refine cv_ptE rfl rfl rfl rfl rfl ?_ | refine outQ_frz rfl ?_ (by simp [push_cast]) (by simp [push_cast, h0]) | refine dfr_end (by simp) rfl ?_ (by simp [push_cast]) (by simp [push_cast, h0])) <;> (try simp only [push_cast, seval, reduceCtorEq, h0]))
    | exact cv_slE rfl rfl ⟨rfl, rfl⟩ (by simp) (by simp [take_map_len])
    | refine outQ_pan ?_ (by simp [push_cast])
    | refine outQ_unit ?_
    | refine outQ_unitN ?_
    | refine And.intro ?_ ?_
    | omega)
  all_goals (try simp only [push_cast, seval, reduceCtorEq, h0])
  all_goals first
    | (simp only [*, h0]; done)
    | (simp [*, h0]; done)
    | (simp_all [h0]; done)
    | (simp_all [h0]; omega)
    | skip
  all_goals (refine outQ_ret rfl ?_ (by simp [push_cast]) (by simp [push_cast]); (apply Wk.renA (fun i => i == 2); (case he => (try simp only [push_cast, Nat.reduceBEq, Nat.reduceLeDiff, Nat.reduceAdd]); (repeat' (first | exact trivial | (refine cv_ptE rfl rfl rfl rfl rfl ?_; simp only [push_cast, Nat.reduceBEq, Nat.reduceLeDiff, Nat.reduceAdd]) | exact cv_slE rfl rfl ⟨rfl, rfl⟩ (by simp) (by simp [take_map_len]) | exact cv_slG rfl rfl ⟨rfl, rfl⟩ (by simp) (by first | rfl | (simp; done)) (by first | rfl | (simp; done) | (simp; omega)) (by simp [push_cast]) | exact cv_ros_self (by simp [push_cast]) | exact bel_ros_cl (by simp [push_cast]) | exact cellsCv_eq (by simp [take_map_len]) (by simp [push_cast]) | refine And.intro ?_ ?_ | rfl | omega | (simp; done) | (simp; omega)))); (case hr => (try simp only [push_cast, Nat.reduceBEq, Nat.reduceLeDiff, Nat.reduceAdd]); (repeat' (first | exact trivial | (refine cv_ptE rfl rfl rfl rfl rfl ?_; simp only [push_cast, Nat.reduceBEq, Nat.reduceLeDiff, Nat.reduceAdd]) | exact cv_slE rfl rfl ⟨rfl, rfl⟩ (by simp) (by simp [take_map_len]) | exact cv_slG rfl rfl ⟨rfl, rfl⟩ (by simp) (by first | rfl | (simp; done)) (by first | rfl | (simp; done) | (simp; omega)) (by simp [push_cast]) | exact cv_ros_self (by simp [push_cast]) | exact bel_ros_cl (by simp [push_cast]) | exact cellsCv_eq (by simp [take_map_len]) (by simp [push_cast]) | refine And.intro ?_ ?_ | rfl | omega | (simp; done) | (simp; omega)))); (case hinj => simp [rhoA_0, rhoA_1, rhoA_2]); all_goals exact 0))
theorem get_v {oV qV : AV} {b : Bk} {m : Tm} (hO : isSl 6 oV (b.os.map oc)) (hQ : isSl 1 qV (b.q.map intc)) (h : Fit b m) (id : Int) :
    PCall prog 45 [.agg (tmc m), .agg (bkv oV qV b), .int .i64 id] (.tup [.agg (bif decide (ordE b m id = 0) then oc (ordAt b id) else zoc), .int .i64 (ordE b m id)]) := by
  have o1 : oV.one = True := eq_true (isSl_one hO)
  have o2 : qV.one = True := eq_true (isSl_one hQ)
  have c1 := isSl_cl hO (cl_os _)
  have c2 := isSl_cl hQ (cl_is _)
  by_cases h0 : bookE b m = 0
  case neg =>
    have hk := ledgerOf_bad hO hQ h h0
    have he : ordE b m id = bookE b m := by simp [ordE, h0]
    clear hO hQ
    simp only [he, h0, decide_false, cond_false]
    obtain ⟨c, hb, hl⟩ := l45
    refine pcall_of mixed e45 hb rfl hl r45 (by rw [n45]; simp) ?_
    clear hb hl c
    (try simp only [push_cast, seval, reduceCtorEq, c1, c2, o1, o2, h0])
    repeat' (first
      | ((first | ((first | refine brX_split ?_ ?_ | refine gX_split ?_ ?_ | refine hX_split ?_ ?_ | refine outK_split ?_ ?_) <;> (intro xc; (try simp only [Bool.not_eq_true', Bool.not_eq_false'] at xc); have xp := xc; (try simp only [decide_eq_true_eq, decide_eq_false_iff_not, Int.not_lt, Int.not_le, ge_iff_le, gt_iff_lt, Bool.and_eq_true, Bool.or_eq_false_iff] at xp); have xq := xp; (first | simp only [← Int.not_le] at xq | simp only [← Int.not_lt] at xq | clear xq))) | refine ⟨.ret _, _, PCall.s (by first | assumption) (by simp [push_cast, c1, c2, o1, o2, h0]), ?_⟩ | refine ⟨.ret _, _, RCall.s (RCall.sh (by first | assumption)) (by simp [push_cast, c1, c2, o1, o2, h0]), ?_⟩ | refine ⟨_, _, SCall.lift (by first | assumption) (outR_cl (by simp [push_cast]) (by simp [push_cast])) (by simp [push_cast, c1, c2, o1, o2, h0]), ?_⟩ | refine ⟨_, (by first | assumption), ?_⟩ | refine ⟨0, [], _, PCall.r (by first | assumption), ?_⟩ | refine ⟨_, _, (by first | assumption), ?_⟩ | refine ⟨_, _, _, RCall.sh (by first | assumption), ?_⟩ | refine ⟨_, _, _, (by first | assumption), ?_⟩ | ((fail_if_success (refine ⟨_, ?_, ?_⟩)); refine ⟨AV.any, ?_⟩) | refine ret_frz rfl ?_ (by simp [push_cast]) (by simp [push_cast, c1, c2, o1, o2, h0]) (by simp [push_cast, c1, c2, o1, o2, h0]) | refine end_frz rfl ?_ (by simp [push_cast]) (by simp [push_cast, c1, c2, o1, o2, h0]) (by simp [push_cast, c1, c2, o1, o2, h0]) | refine ret_now (by simp [push_cast]) ?_ (by simp [push_cast]) | refine end_now (by simp [push_cast]) ?_ (by simp [push_cast])) <;> (try simp only [push_cast, seval, reduceCtorEq, *, c1, c2, o1, o2, h0]))
      | ((first | refine cv_ptE rfl rfl rfl rfl rfl ?_ | refine outQ_frz rfl ?_ (by simp [push_cast]) (by simp [push_cast, c1, c2, o1, o2, h0]) | refine dfr_end (by simp) rfl ?_ (by simp [push_cast]) (by simp [push_cast, c1, c2, o1, o2, h0])) <;> (try simp only [push_cast, seval, reduceCtorEq, c1, c2, o1, o2, h0]))
      | exact cv_slE rfl rfl ⟨rfl, rfl⟩ (by simp) (by simp [take_map_len])
      | refine outQ_pan ?_ (by simp [push_cast])
      | refine outQ_unit ?_
      | refine outQ_unitN ?_
      | refine And.intro ?_ ?_
      | omega)
    all_goals (try simp only [push_cast, seval, reduceCtorEq, c1, c2, o1, o2, h0])
    all_goals first
      | (simp only [*, c1, c2, o1, o2, h0]; done)
      | (simp [*, c1, c2, o1, o2, h0]; done)
      | (simp_all [c1, c2, o1, o2, h0]; done)
      | (simp_all [c1, c2, o1, o2, h0]; omega)
      | skip
  have hl := ledgerOf_ok hO hQ h h0
  have hlen := book0_len h0
  have hfin : ∃ oo, PCall prog 72 [.agg (ldc b m), .int .i64 id] (.tup [.agg (oc oo), .int .i64 (ordE b m id)]) ∧ (bif decide (ordE b m id = 0) then oc (ordAt b id) else zoc) = oc oo := by
    by_cases h2 : ordE b m id = 0
    · obtain ⟨_, k, rfl, hk⟩ := ord0 h2
      exact ⟨_, by rw [h2]; exact order_ok b m k _ hk (by omega), by simp [h2]⟩
    · rcases ordN h2 with ⟨h3, _⟩ | ⟨_, h3, h4⟩
      · exact absurd h0 h3
      · exact ⟨⟨0, 0, 0, 0, 0, 0⟩, by rw [h4]; exact order_bad b m id h3, by simp [h2]⟩
  obtain ⟨⟨a1, a2, a3, a4, a5, a6⟩, ho, heq⟩ := hfin
  rw [heq]
  generalize ordE b m id = E at *
  obtain ⟨os, q, cw, cm⟩ := b
  rcases os with _ | ⟨o, l⟩ <;> rcases q with _ | ⟨i, j⟩
  all_goals simp only [List.map_nil, List.map_cons, isSl] at hO hQ
  · rcases hO with rfl | rfl <;> rcases hQ with rfl | rfl
    all_goals
    simp only [clV, clR] at hl
    obtain ⟨c, hb, hl⟩ := l45
    refine pcall_of mixed e45 hb rfl hl r45 (by rw [n45]; simp) ?_
    clear hb hl c
    (try simp only [push_cast, seval, reduceCtorEq])
    repeat' (first
      | ((first | ((first | refine brX_split ?_ ?_ | refine gX_split ?_ ?_ | refine hX_split ?_ ?_ | refine outK_split ?_ ?_) <;> (intro xc; (try simp only [Bool.not_eq_true', Bool.not_eq_false'] at xc); have xp := xc; (try simp only [decide_eq_true_eq, decide_eq_false_iff_not, Int.not_lt, Int.not_le, ge_iff_le, gt_iff_lt, Bool.and_eq_true, Bool.or_eq_false_iff] at xp); have xq := xp; (first | simp only [← Int.not_le] at xq | simp only [← Int.not_lt] at xq | clear xq))) | refine ⟨.ret _, _, PCall.s (by first | assumption) (by simp [push_cast]), ?_⟩ | refine ⟨.ret _, _, RCall.s (RCall.sh (by first | assumption)) (by simp [push_cast]), ?_⟩ | refine ⟨_, _, SCall.lift (by first | assumption) (outR_cl (by simp [push_cast]) (by simp [push_cast])) (by simp [push_cast]), ?_⟩ | refine ⟨_, (by first | assumption), ?_⟩ | refine ⟨0, [], _, PCall.r (by first | assumption), ?_⟩ | refine ⟨_, _, (by first | assumption), ?_⟩ | refine ⟨_, _, _, RCall.sh (by first | assumption), ?_⟩ | refine ⟨_, _, _, (by first | assumption), ?_⟩ | refine ⟨_, _, PCall.frz (by first | exact ho) (by (try simp only [all2_cons, all2_nil, frzArg, push_cast, Nat.reduceBEq, Nat.reduceLeDiff, Nat.reduceAdd]); repeat' (first | exact trivial | exact cv_slF rfl rfl ⟨rfl, rfl⟩ (by simp) (by first | rfl | (simp; done)) (by first | rfl | (simp; done) | (simp; omega)) | exact cv_closed (by simp [push_cast]) | refine And.intro ?_ ?_ | rfl | (simp [push_cast]; done))) (by simp [push_cast]), ?_⟩ | refine ⟨.ret _, _, RCall.frz (RCall.sh (by first | exact ho)) (by (try simp only [all2_cons, all2_nil, frzArg, push_cast, Nat.reduceBEq, Nat.reduceLeDiff, Nat.reduceAdd]); repeat' (first | exact trivial | exact cv_slF rfl rfl ⟨rfl, rfl⟩ (by simp) (by first | rfl | (simp; done)) (by first | rfl | (simp; done) | (simp; omega)) | exact cv_closed (by simp [push_cast]) | refine And.intro ?_ ?_ | rfl | (simp [push_cast]; done))) (by simp [push_cast]) (by simp [push_cast]), ?_⟩ | ((fail_if_success (refine ⟨_, ?_, ?_⟩)); refine ⟨AV.any, ?_⟩) | refine ret_frz rfl ?_ (by simp [push_cast]) (by simp [push_cast]) (by simp [push_cast]) | refine end_frz rfl ?_ (by simp [push_cast]) (by simp [push_cast]) (by simp [push_cast]) | refine ret_now (by simp [push_cast]) ?_ (by simp [push_cast]) | refine end_now (by simp [push_cast]) ?_ (by simp [push_cast])) <;> (try simp only [push_cast, seval, reduceCtorEq, *]))
      | ((first | refine cv_ptE rfl rfl rfl rfl rfl ?_ | refine outQ_frz rfl ?_ (by simp [push_cast]) (by simp [push_cast]) | refine dfr_end (by simp) rfl ?_ (by simp [push_cast]) (by simp [push_cast])) <;> (try simp only [push_cast, seval, reduceCtorEq]))
      | exact cv_slE rfl rfl ⟨rfl, rfl⟩ (by simp) (by simp [take_map_len])
      | refine outQ_pan ?_ (by simp [push_cast])
      | refine outQ_unit ?_
      | refine outQ_unitN ?_
      | refine And.intro ?_ ?_
      | omega)
    all_goals (try simp only [push_cast, seval, reduceCtorEq])
    all_goals first
      | (simp only [*]; done)
      | (simp [*]; done)
      | (simp_all []; done)
      | (simp_all []; omega)
      | skip
  · exfalso
    obtain ⟨_, _, g, _⟩ := book0 h0
    simp [queB, nwU] at g
  · rcases hQ with rfl | rfl <;> subst hO
    all_goals
    simp only [clV, clR] at hl
    obtain ⟨c, hb, hl⟩ := l45
    refine pcall_of mixed e45 hb rfl hl r45 (by rw [n45]; simp) ?_
    clear hb hl c
    (try simp only [push_cast, seval, reduceCtorEq])
    repeat' (first
      | ((first | ((first | refine brX_split ?_ ?_ | refine gX_split ?_ ?_ | refine hX_split ?_ ?_ | refine outK_split ?_ ?_) <;> (intro xc; (try simp only [Bool.not_eq_true', Bool.not_eq_false'] at xc); have xp := xc; (try simp only [decide_eq_true_eq, decide_eq_false_iff_not, Int.not_lt, Int.not_le, ge_iff_le, gt_iff_lt, Bool.and_eq_true, Bool.or_eq_false_iff] at xp); have xq := xp; (first | simp only [← Int.not_le] at xq | simp only [← Int.not_lt] at xq | clear xq))) | refine ⟨.ret _, _, PCall.s (by first | assumption) (by simp [push_cast]), ?_⟩ | refine ⟨.ret _, _, RCall.s (RCall.sh (by first | assumption)) (by simp [push_cast]), ?_⟩ | refine ⟨_, _, SCall.lift (by first | assumption) (outR_cl (by simp [push_cast]) (by simp [push_cast])) (by simp [push_cast]), ?_⟩ | refine ⟨_, (by first | assumption), ?_⟩ | refine ⟨0, [], _, PCall.r (by first | assumption), ?_⟩ | refine ⟨_, _, (by first | assumption), ?_⟩ | refine ⟨_, _, _, RCall.sh (by first | assumption), ?_⟩ | refine ⟨_, _, _, (by first | assumption), ?_⟩ | refine ⟨_, _, PCall.frz (by first | exact ho) (by (try simp only [all2_cons, all2_nil, frzArg, push_cast, Nat.reduceBEq, Nat.reduceLeDiff, Nat.reduceAdd]); repeat' (first | exact trivial | exact cv_slF rfl rfl ⟨rfl, rfl⟩ (by simp) (by first | rfl | (simp; done)) (by first | rfl | (simp; done) | (simp; omega)) | exact cv_closed (by simp [push_cast]) | refine And.intro ?_ ?_ | rfl | (simp [push_cast]; done))) (by simp [push_cast]), ?_⟩ | refine ⟨.ret _, _, RCall.frz (RCall.sh (by first | exact ho)) (by (try simp only [all2_cons, all2_nil, frzArg, push_cast, Nat.reduceBEq, Nat.reduceLeDiff, Nat.reduceAdd]); repeat' (first | exact trivial | exact cv_slF rfl rfl ⟨rfl, rfl⟩ (by simp) (by first | rfl | (simp; done)) (by first | rfl | (simp; done) | (simp; omega)) | exact cv_closed (by simp [push_cast]) | refine And.intro ?_ ?_ | rfl | (simp [push_cast]; done))) (by simp [push_cast]) (by simp [push_cast]), ?_⟩ | ((fail_if_success (refine ⟨_, ?_, ?_⟩)); refine ⟨AV.any, ?_⟩) | refine ret_frz rfl ?_ (by simp [push_cast]) (by simp [push_cast]) (by simp [push_cast]) | refine end_frz rfl ?_ (by simp [push_cast]) (by simp [push_cast]) (by simp [push_cast]) | refine ret_now (by simp [push_cast]) ?_ (by simp [push_cast]) | refine end_now (by simp [push_cast]) ?_ (by simp [push_cast])) <;> (try simp only [push_cast, seval, reduceCtorEq, *]))
      | ((first | refine cv_ptE rfl rfl rfl rfl rfl ?_ | refine outQ_frz rfl ?_ (by simp [push_cast]) (by simp [push_cast]) | refine dfr_end (by simp) rfl ?_ (by simp [push_cast]) (by simp [push_cast])) <;> (try simp only [push_cast, seval, reduceCtorEq]))
      | exact cv_slE rfl rfl ⟨rfl, rfl⟩ (by simp) (by simp [take_map_len])
      | refine outQ_pan ?_ (by simp [push_cast])
      | refine outQ_unit ?_
      | refine outQ_unitN ?_
      | refine And.intro ?_ ?_
      | omega)
    all_goals (try simp only [push_cast, seval, reduceCtorEq])
    all_goals first
      | (simp only [*]; done)
      | (simp [*]; done)
      | (simp_all []; done)
      | (simp_all []; omega)
      | skip
  · subst hO; subst hQ
    simp only [clV, clR] at hl
    obtain ⟨c, hb, hl⟩ := l45
    refine pcall_of mixed e45 hb rfl hl r45 (by rw [n45]; simp) ?_
    clear hb hl c
    (try simp only [push_cast, seval, reduceCtorEq])
    repeat' (first
      | ((first | ((first | refine brX_split ?_ ?_ | refine gX_split ?_ ?_ | refine hX_split ?_ ?_ | refine outK_split ?_ ?_) <;> (intro xc; (try simp only [Bool.not_eq_true', Bool.not_eq_false'] at xc); have xp := xc; (try simp only [decide_eq_true_eq, decide_eq_false_iff_not, Int.not_lt, Int.not_le, ge_iff_le, gt_iff_lt, Bool.and_eq_true, Bool.or_eq_false_iff] at xp); have xq := xp; (first | simp only [← Int.not_le] at xq | simp only [← Int.not_lt] at xq | clear xq))) | refine ⟨.ret _, _, PCall.s (by first | assumption) (by simp [push_cast]), ?_⟩ | refine ⟨.ret _, _, RCall.s (RCall.sh (by first | assumption)) (by simp [push_cast]), ?_⟩ | refine ⟨_, _, SCall.lift (by first | assumption) (outR_cl (by simp [push_cast]) (by simp [push_cast])) (by simp [push_cast]), ?_⟩ | refine ⟨_, (by first | assumption), ?_⟩ | refine ⟨0, [], _, PCall.r (by first | assumption), ?_⟩ | refine ⟨_, _, (by first | assumption), ?_⟩ | refine ⟨_, _, _, RCall.sh (by first | assumption), ?_⟩ | refine ⟨_, _, _, (by first | assumption), ?_⟩ | refine ⟨_, _, PCall.frz (by first | exact ho) (by (try simp only [all2_cons, all2_nil, frzArg, push_cast, Nat.reduceBEq, Nat.reduceLeDiff, Nat.reduceAdd]); repeat' (first | exact trivial | exact cv_slF rfl rfl ⟨rfl, rfl⟩ (by simp) (by first | rfl | (simp; done)) (by first | rfl | (simp; done) | (simp; omega)) | exact cv_closed (by simp [push_cast]) | refine And.intro ?_ ?_ | rfl | (simp [push_cast]; done))) (by simp [push_cast]), ?_⟩ | refine ⟨.ret _, _, RCall.frz (RCall.sh (by first | exact ho)) (by (try simp only [all2_cons, all2_nil, frzArg, push_cast, Nat.reduceBEq, Nat.reduceLeDiff, Nat.reduceAdd]); repeat' (first | exact trivial | exact cv_slF rfl rfl ⟨rfl, rfl⟩ (by simp) (by first | rfl | (simp; done)) (by first | rfl | (simp; done) | (simp; omega)) | exact cv_closed (by simp [push_cast]) | refine And.intro ?_ ?_ | rfl | (simp [push_cast]; done))) (by simp [push_cast]) (by simp [push_cast]), ?_⟩ | ((fail_if_success (refine ⟨_, ?_, ?_⟩)); refine ⟨AV.any, ?_⟩) | refine ret_frz rfl ?_ (by simp [push_cast]) (by simp [push_cast]) (by simp [push_cast]) | refine end_frz rfl ?_ (by simp [push_cast]) (by simp [push_cast]) (by simp [push_cast]) | refine ret_now (by simp [push_cast]) ?_ (by simp [push_cast]) | refine end_now (by simp [push_cast]) ?_ (by simp [push_cast])) <;> (try simp only [push_cast, seval, reduceCtorEq, *]))
      | ((first | refine cv_ptE rfl rfl rfl rfl rfl ?_ | refine outQ_frz rfl ?_ (by simp [push_cast]) (by simp [push_cast]) | refine dfr_end (by simp) rfl ?_ (by simp [push_cast]) (by simp [push_cast])) <;> (try simp only [push_cast, seval, reduceCtorEq]))
      | exact cv_slE rfl rfl ⟨rfl, rfl⟩ (by simp) (by simp [take_map_len])
      | refine outQ_pan ?_ (by simp [push_cast])
      | refine outQ_unit ?_
      | refine outQ_unitN ?_
      | refine And.intro ?_ ?_
      | omega)
    all_goals (try simp only [push_cast, seval, reduceCtorEq])
    all_goals first
      | (simp only [*]; done)
      | (simp [*]; done)
      | (simp_all []; done)
      | (simp_all []; omega)
      | skip
theorem get_r {b : Bk} {m : Tm} (h : Fit b m) (id : Int) :
    PCall prog 45 [.agg (tmc m), .agg (bkc b), .int .i64 id] (.tup [.agg (bif decide (ordE b m id = 0) then oc (ordAt b id) else zoc), .int .i64 (ordE b m id)]) :=
  PCall.emp2 fun _ _ h1 h2 => get_v h1 h2 h id
end Go.Proofs.Ytffiicopifmmfaa
