/- Facts of the program over abstract values. No condition. -/
import Derived.Test.YtffiicopifmmfaaZm
set_option linter.unusedSimpArgs false
set_option maxRecDepth 8000
namespace Go.Proofs.Ytffiicopifmmfaa
set_option linter.unusedSimpArgs false
set_option linter.unusedVariables false
set_option linter.unnecessarySimpa false
set_option linter.unusedSectionVars false
open Go.Proofs.Try
open Go.Proofs.Ytffiicopifmmfaa.Ai
set_option maxHeartbeats 4000000

/-! The program's calls, for books as they come. -/
theorem submit_r {b : Bk} {m : Tm} (h : Fit b m) (p d now : Int) (hb : subE b m p d now = 0) :
    RCall prog 28 [.agg (tmc m), .agg (bkc b), .int .i64 p, .int .i64 d, .int .u64 now] 0 2 [(0, ⟨6, (subB b m p d now).os.map oc⟩), (1, ⟨1, (subB b m p d now).q.map intc⟩)]
      (.tup [.agg [.sl 0 6 0 (b.os.length + 1) none, .sl 1 1 0 (b.q.length + 1) none, .int .u64 (subB b m p d now).cw, .int .i64 (subB b m p d now).cm], .int .i64 ((b.os.length : Int) + 1), .int .i64 0]) :=
  RCall.emp2 fun _ _ h1 h2 => submit_ok h1 h2 h p d now hb
theorem submit_n {b : Bk} {m : Tm} (h : Fit b m) (p d now : Int) (hb : ¬ subE b m p d now = 0) :
    PCall prog 28 [.agg (tmc m), .agg (bkc b), .int .i64 p, .int .i64 d, .int .u64 now] (.tup [.agg zbk, .int .i64 0, .int .i64 (subE b m p d now)]) :=
  PCall.emp2 fun _ _ h1 h2 => submit_bad h1 h2 h p d now hb
theorem checkBook_r {b : Bk} {m : Tm} (h : Fit b m) : PCall prog 29 [.agg (tmc m), .agg (bkc b)] (.int .i64 (bookE b m)) := PCall.emp2 fun _ _ h1 h2 => checkBook_v h1 h2 h
/-- Rows and value of a book in memory of its own. -/
abbrev ownR (b : Bk) : Ai.Rows := (0, ⟨6, b.os.map oc⟩) :: accR 1 1 (b.q.map intc)
abbrev ownV (b : Bk) : AV := .agg [.sl 0 6 0 b.os.length none, accV 1 1 (b.q.map intc), .int .u64 b.cw, .int .i64 b.cm]
theorem avB_len {b : Bk} {k : Nat} {o : O} {st now : Int} : (avB b k o st now).os.length = b.os.length := by simp [avB]
theorem adv_r {b : Bk} {m : Tm} (h : Fit b m) (k : Nat) (st now : Int) (ha : avE b m ((k : Int) + 1) st now = 0) :
    RCall prog 71 [.agg (tmc m), .agg (bkc b), .int .i64 ((k : Int) + 1), .int .u8 st, .int .u64 now] 0 2 (ownR (avB b k (ordAt b ((k : Int) + 1)) st now)) (.tup [ownV (avB b k (ordAt b ((k : Int) + 1)) st now), .int .i64 0]) := by
  have h1 : ordE b m ((k : Int) + 1) = 0 := by
    unfold avE at ha
    by_cases h1 : ordE b m ((k : Int) + 1) = 0
    · exact h1
    · simp [h1] at ha
  obtain ⟨h0, k', hk', hk⟩ := ord0 h1
  obtain rfl : k' = k := by omega
  have ha' : advE (ordAt b ((k' : Int) + 1)) st now = 0 := by simpa [avE, h1] using ha
  refine RCall.emp2 fun _ _ g1 g2 => ?_
  have := advanceIn_ok g1 g2 h k' _ hk st now h0 ha'
  simp only [ownR, ownV, avB_len]
  exact this
theorem adv_n {b : Bk} {m : Tm} (h : Fit b m) (id st now : Int) (ha : ¬ avE b m id st now = 0) : PCall prog 71 [.agg (tmc m), .agg (bkc b), .int .i64 id, .int .u8 st, .int .u64 now] (.tup [.agg zbk, .int .i64 (avE b m id st now)]) :=
  PCall.emp2 fun _ _ h1 h2 => advanceIn_bad h1 h2 h id st now ha
theorem cancel_n {b : Bk} {m : Tm} (h : Fit b m) (id : Int) (ha : ¬ avE b m id 5 0 = 0) : PCall prog 46 [.agg (tmc m), .agg (bkc b), .int .i64 id] (.tup [.agg zbk, .int .i64 (avE b m id 5 0)]) := by
  have hk := adv_n h id 5 0 ha
  generalize avE b m id 5 0 = E at *
  obtain ⟨c, hb, hl⟩ := l46
  refine pcall_of mixed e46 hb rfl hl r46 (by rw [n46]; simp) ?_
  clear hb hl c
  (try simp only [push_cast, seval, reduceCtorEq])
  repeat' (first
    | ((first | ((first | refine brX_split ?_ ?_ | refine gX_split ?_ ?_ | refine hX_split ?_ ?_ | refine outK_split ?_ ?_) <;> (intro xc; (try simp only [Bool.not_eq_true', Bool.not_eq_false'] at xc); have xp := xc; (try simp only [decide_eq_true_eq, decide_eq_false_iff_not, Int.not_lt, Int.not_le, ge_iff_le, gt_iff_lt, Bool.and_eq_true, Bool.or_eq_false_iff] at xp); have xq := xp; (first | simp only [← Int.not_le] at xq | simp only [← Int.not_lt] at xq | clear xq))) | refine ⟨.ret _, _, PCall.s (by first | assumption) (by simp [push_cast]), ?_⟩ | refine ⟨.ret _, _, RCall.s (RCall.sh (by first | assumption)) (by simp [push_cast]), ?_⟩ | refine ⟨_, _, SCall.lift (by first | assumption) (outR_cl (by simp [push_cast]) (by simp [push_cast])) (by simp [push_cast]), ?_⟩ | refine ⟨_, (by first | assumption), ?_⟩ | refine ⟨0, [], _, PCall.r (by first | assumption), ?_⟩ | refine ⟨_, _, (by first | assumption), ?_⟩ | refine ⟨_, _, _, RCall.sh (by first | assumption), ?_⟩ | refine ⟨_, _, _, (by first | assumption), ?_⟩ | ((fail_if_success (refine ⟨_, ?_, ?_⟩)); refine ⟨AV.any, ?_⟩) | refine ret_frz rfl ?_ (by simp [push_cast]) (by simp [push_cast]) (by simp [push_cast]) | refine end_frz rfl ?_ (by simp [push_cast]) (by simp [push_cast]) (by simp [push_cast]) | refine ret_now (by simp [push_cast]) ?_ (by simp [push_cast]) | refine end_now (by simp [push_cast]) ?_ (by simp [push_cast])) <;> (try simp only [push_cast, seval, reduceCtorEq, *]))
    | ((first | refine cv_ptE rfl rfl rfl rfl rfl ?_ | refine outQ_frz rfl ?_ (by simp [push_cast]) (by simp [push_cast]) | refine dfr_end (by simp) rfl ?_ (by simp [push_cast]) (by simp [push_cast])) <;> (try simp only [push_cast, seval, reduceCtorEq]))
    | exact cv_slE rfl rfl ⟨rfl, rfl⟩ (by simp) (by simp [take_map_len])
    | refine outQ_pan ?_ (by simp [push_cast])
    | refine outQ_unit ?_
    | refine outQ_unitN ?_
    | refine And.intro ?_ ?_
    | omega)
  all_goals (try simp only [push_cast, seval, reduceCtorEq])
  all_goals first
    | (simp only [*]; done)
    | (simp [*]; done)
    | (simp_all []; done)
    | (simp_all []; omega)
    | skip
theorem carry_n {b : Bk} {m : Tm} (h : Fit b m) (id : Int) (ha : ¬ avE b m id 3 0 = 0) : PCall prog 51 [.agg (tmc m), .agg (bkc b), .int .i64 id] (.tup [.agg zbk, .int .i64 (avE b m id 3 0)]) := by
  have hk := adv_n h id 3 0 ha
  generalize avE b m id 3 0 = E at *
  obtain ⟨c, hb, hl⟩ := l51
  refine pcall_of mixed e51 hb rfl hl r51 (by rw [n51]; simp) ?_
  clear hb hl c
  (try simp only [push_cast, seval, reduceCtorEq])
  repeat' (first
    | ((first | ((first | refine brX_split ?_ ?_ | refine gX_split ?_ ?_ | refine hX_split ?_ ?_ | refine outK_split ?_ ?_) <;> (intro xc; (try simp only [Bool.not_eq_true', Bool.not_eq_false'] at xc); have xp := xc; (try simp only [decide_eq_true_eq, decide_eq_false_iff_not, Int.not_lt, Int.not_le, ge_iff_le, gt_iff_lt, Bool.and_eq_true, Bool.or_eq_false_iff] at xp); have xq := xp; (first | simp only [← Int.not_le] at xq | simp only [← Int.not_lt] at xq | clear xq))) | refine ⟨.ret _, _, PCall.s (by first | assumption) (by simp [push_cast]), ?_⟩ | refine ⟨.ret _, _, RCall.s (RCall.sh (by first | assumption)) (by simp [push_cast]), ?_⟩ | refine ⟨_, _, SCall.lift (by first | assumption) (outR_cl (by simp [push_cast]) (by simp [push_cast])) (by simp [push_cast]), ?_⟩ | refine ⟨_, (by first | assumption), ?_⟩ | refine ⟨0, [], _, PCall.r (by first | assumption), ?_⟩ | refine ⟨_, _, (by first | assumption), ?_⟩ | refine ⟨_, _, _, RCall.sh (by first | assumption), ?_⟩ | refine ⟨_, _, _, (by first | assumption), ?_⟩ | ((fail_if_success (refine ⟨_, ?_, ?_⟩)); refine ⟨AV.any, ?_⟩) | refine ret_frz rfl ?_ (by simp [push_cast]) (by simp [push_cast]) (by simp [push_cast]) | refine end_frz rfl ?_ (by simp [push_cast]) (by simp [push_cast]) (by simp [push_cast]) | refine ret_now (by simp [push_cast]) ?_ (by simp [push_cast]) | refine end_now (by simp [push_cast]) ?_ (by simp [push_cast])) <;> (try simp only [push_cast, seval, reduceCtorEq, *]))
    | ((first | refine cv_ptE rfl rfl rfl rfl rfl ?_ | refine outQ_frz rfl ?_ (by simp [push_cast]) (by simp [push_cast]) | refine dfr_end (by simp) rfl ?_ (by simp [push_cast]) (by simp [push_cast])) <;> (try simp only [push_cast, seval, reduceCtorEq]))
    | exact cv_slE rfl rfl ⟨rfl, rfl⟩ (by simp) (by simp [take_map_len])
    | refine outQ_pan ?_ (by simp [push_cast])
    | refine outQ_unit ?_
    | refine outQ_unitN ?_
    | refine And.intro ?_ ?_
    | omega)
  all_goals (try simp only [push_cast, seval, reduceCtorEq])
  all_goals first
    | (simp only [*]; done)
    | (simp [*]; done)
    | (simp_all []; done)
    | (simp_all []; omega)
    | skip
theorem done_n {b : Bk} {m : Tm} (h : Fit b m) (id now : Int) (ha : ¬ avE b m id 4 now = 0) : PCall prog 52 [.agg (tmc m), .agg (bkc b), .int .i64 id, .int .u64 now] (.tup [.agg zbk, .int .i64 (avE b m id 4 now)]) := by
  have hk := adv_n h id 4 now ha
  generalize avE b m id 4 now = E at *
  obtain ⟨c, hb, hl⟩ := l52
  refine pcall_of mixed e52 hb rfl hl r52 (by rw [n52]; simp) ?_
  clear hb hl c
  (try simp only [push_cast, seval, reduceCtorEq])
  repeat' (first
    | ((first | ((first | refine brX_split ?_ ?_ | refine gX_split ?_ ?_ | refine hX_split ?_ ?_ | refine outK_split ?_ ?_) <;> (intro xc; (try simp only [Bool.not_eq_true', Bool.not_eq_false'] at xc); have xp := xc; (try simp only [decide_eq_true_eq, decide_eq_false_iff_not, Int.not_lt, Int.not_le, ge_iff_le, gt_iff_lt, Bool.and_eq_true, Bool.or_eq_false_iff] at xp); have xq := xp; (first | simp only [← Int.not_le] at xq | simp only [← Int.not_lt] at xq | clear xq))) | refine ⟨.ret _, _, PCall.s (by first | assumption) (by simp [push_cast]), ?_⟩ | refine ⟨.ret _, _, RCall.s (RCall.sh (by first | assumption)) (by simp [push_cast]), ?_⟩ | refine ⟨_, _, SCall.lift (by first | assumption) (outR_cl (by simp [push_cast]) (by simp [push_cast])) (by simp [push_cast]), ?_⟩ | refine ⟨_, (by first | assumption), ?_⟩ | refine ⟨0, [], _, PCall.r (by first | assumption), ?_⟩ | refine ⟨_, _, (by first | assumption), ?_⟩ | refine ⟨_, _, _, RCall.sh (by first | assumption), ?_⟩ | refine ⟨_, _, _, (by first | assumption), ?_⟩ | ((fail_if_success (refine ⟨_, ?_, ?_⟩)); refine ⟨AV.any, ?_⟩) | refine ret_frz rfl ?_ (by simp [push_cast]) (by simp [push_cast]) (by simp [push_cast]) | refine end_frz rfl ?_ (by simp [push_cast]) (by simp [push_cast]) (by simp [push_cast]) | refine ret_now (by simp [push_cast]) ?_ (by simp [push_cast]) | refine end_now (by simp [push_cast]) ?_ (by simp [push_cast])) <;> (try simp only [push_cast, seval, reduceCtorEq, *]))
    | ((first | refine cv_ptE rfl rfl rfl rfl rfl ?_ | refine outQ_frz rfl ?_ (by simp [push_cast]) (by simp [push_cast]) | refine dfr_end (by simp) rfl ?_ (by simp [push_cast]) (by simp [push_cast])) <;> (try simp only [push_cast, seval, reduceCtorEq]))
    | exact cv_slE rfl rfl ⟨rfl, rfl⟩ (by simp) (by simp [take_map_len])
    | refine outQ_pan ?_ (by simp [push_cast])
    | refine outQ_unit ?_
    | refine outQ_unitN ?_
    | refine And.intro ?_ ?_
    | omega)
  all_goals (try simp only [push_cast, seval, reduceCtorEq])
  all_goals first
    | (simp only [*]; done)
    | (simp [*]; done)
    | (simp_all []; done)
    | (simp_all []; omega)
    | skip
theorem cancel_r {b : Bk} {m : Tm} (h : Fit b m) (k : Nat) (ha : avE b m ((k : Int) + 1) 5 0 = 0) :
    RCall prog 46 [.agg (tmc m), .agg (bkc b), .int .i64 ((k : Int) + 1)] 0 2 (ownR (avB b k (ordAt b ((k : Int) + 1)) 5 0)) (.tup [ownV (avB b k (ordAt b ((k : Int) + 1)) 5 0), .int .i64 0]) := by
  have hk := adv_r h k 5 0 ha
  generalize avB b k (ordAt b ((k : Int) + 1)) 5 0 = B at *
  obtain ⟨os, q, cw, cm⟩ := B
  refine SCall.r ?_ (look_lt (by simp [List.all_cons, all_accR]))
  rcases q with _ | ⟨i, j⟩
  all_goals
  simp only [ownV, ownR, List.map_nil, List.map_cons, accV, accR] at *
  obtain ⟨c, hb, hl⟩ := l46
  refine scall_of mixed e46 hb rfl hl r46 (by rw [n46]; simp) ?_
  clear hb hl c
  (try simp only [push_cast, seval, reduceCtorEq])
  repeat' (first
    | ((first | ((first | refine brX_split ?_ ?_ | refine gX_split ?_ ?_ | refine hX_split ?_ ?_ | refine outK_split ?_ ?_) <;> (intro xc; (try simp only [Bool.not_eq_true', Bool.not_eq_false'] at xc); have xp := xc; (try simp only [decide_eq_true_eq, decide_eq_false_iff_not, Int.not_lt, Int.not_le, ge_iff_le, gt_iff_lt, Bool.and_eq_true, Bool.or_eq_false_iff] at xp); have xq := xp; (first | simp only [← Int.not_le] at xq | simp only [← Int.not_lt] at xq | clear xq))) | refine ⟨.ret _, _, PCall.s (by first | assumption) (by simp [push_cast]), ?_⟩ | refine ⟨.ret _, _, RCall.s (RCall.sh (by first | assumption)) (by simp [push_cast]), ?_⟩ | refine ⟨_, _, SCall.lift (by first | assumption) (outR_cl (by simp [push_cast]) (by simp [push_cast])) (by simp [push_cast]), ?_⟩ | refine ⟨_, (by first | assumption), ?_⟩ | refine ⟨0, [], _, PCall.r (by first | assumption), ?_⟩ | refine ⟨_, _, (by first | assumption), ?_⟩ | refine ⟨_, _, _, RCall.sh (by first | assumption), ?_⟩ | refine ⟨_, _, _, (by first | assumption), ?_⟩ | ((fail_if_success (refine ⟨_, ?_, ?_⟩)); refine ⟨AV.any, ?_⟩) | refine ret_frz rfl ?_ (by simp [push_cast]) (by simp [push_cast]) (by simp [push_cast]) | refine end_frz rfl ?_ (by simp [push_cast]) (by simp [push_cast]) (by simp [push_cast]) | refine ret_now (by simp [push_cast]) ?_ (by simp [push_cast]) | refine end_now (by simp [push_cast]) ?_ (by simp [push_cast])) <;> (try simp only [push_cast, seval, reduceCtorEq, *]))
    | ((first | refine cv_ptE rfl rfl rfl rfl rfl ?_ | refine outQ_frz rfl ?_ (by simp [push_cast]) (by simp [push_cast]) | refine dfr_end (by simp) rfl ?_ (by simp [push_cast]) (by simp [push_cast])) <;> (try simp only [push_cast, seval, reduceCtorEq]))
    | exact cv_slE rfl rfl ⟨rfl, rfl⟩ (by simp) (by simp [take_map_len])
    | refine outQ_pan ?_ (by simp [push_cast])
    | refine outQ_unit ?_
    | refine outQ_unitN ?_
    | refine And.intro ?_ ?_
    | omega)
  all_goals (try simp only [push_cast, seval, reduceCtorEq])
  all_goals first
    | (simp only [*]; done)
    | (simp [*]; done)
    | (simp_all []; done)
    | (simp_all []; omega)
    | skip
  all_goals (refine outQ_ret rfl ?_ (by simp [push_cast]) (by simp [push_cast]); (apply Wk.renA (fun i => i == 2); (case he => (try simp only [push_cast, Nat.reduceBEq, Nat.reduceLeDiff, Nat.reduceAdd]); (repeat' (first | exact trivial | (refine cv_ptE rfl rfl rfl rfl rfl ?_; simp only [push_cast, Nat.reduceBEq, Nat.reduceLeDiff, Nat.reduceAdd]) | exact cv_slE rfl rfl ⟨rfl, rfl⟩ (by simp) (by simp [take_map_len]) | exact cv_slG rfl rfl ⟨rfl, rfl⟩ (by simp) (by first | rfl | (simp; done)) (by first | rfl | (simp; done) | (simp; omega)) (by simp [push_cast]) | exact cv_ros_self (by simp [push_cast]) | exact bel_ros_cl (by simp [push_cast]) | exact cellsCv_eq (by simp [take_map_len]) (by simp [push_cast]) | refine And.intro ?_ ?_ | rfl | omega | (simp; done) | (simp; omega)))); (case hr => (try simp only [push_cast, Nat.reduceBEq, Nat.reduceLeDiff, Nat.reduceAdd]); (repeat' (first | exact trivial | (refine cv_ptE rfl rfl rfl rfl rfl ?_; simp only [push_cast, Nat.reduceBEq, Nat.reduceLeDiff, Nat.reduceAdd]) | exact cv_slE rfl rfl ⟨rfl, rfl⟩ (by simp) (by simp [take_map_len]) | exact cv_slG rfl rfl ⟨rfl, rfl⟩ (by simp) (by first | rfl | (simp; done)) (by first | rfl | (simp; done) | (simp; omega)) (by simp [push_cast]) | exact cv_ros_self (by simp [push_cast]) | exact bel_ros_cl (by simp [push_cast]) | exact cellsCv_eq (by simp [take_map_len]) (by simp [push_cast]) | refine And.intro ?_ ?_ | rfl | omega | (simp; done) | (simp; omega)))); (case hinj => simp [rhoA_0, rhoA_1, rhoA_2]); all_goals exact 0))
theorem carry_r {b : Bk} {m : Tm} (h : Fit b m) (k : Nat) (ha : avE b m ((k : Int) + 1) 3 0 = 0) :
    RCall prog 51 [.agg (tmc m), .agg (bkc b), .int .i64 ((k : Int) + 1)] 0 2 (ownR (avB b k (ordAt b ((k : Int) + 1)) 3 0)) (.tup [ownV (avB b k (ordAt b ((k : Int) + 1)) 3 0), .int .i64 0]) := by
  have hk := adv_r h k 3 0 ha
  generalize avB b k (ordAt b ((k : Int) + 1)) 3 0 = B at *
  obtain ⟨os, q, cw, cm⟩ := B
  refine SCall.r ?_ (look_lt (by simp [List.all_cons, all_accR]))
  rcases q with _ | ⟨i, j⟩
  all_goals
  simp only [ownV, ownR, List.map_nil, List.map_cons, accV, accR] at *
  obtain ⟨c, hb, hl⟩ := l51
  refine scall_of mixed e51 hb rfl hl r51 (by rw [n51]; simp) ?_
  clear hb hl c
  (try simp only [push_cast, seval, reduceCtorEq])
  repeat' (first
    | ((first | ((first | refine brX_split ?_ ?_ | refine gX_split ?_ ?_ | refine hX_split ?_ ?_ | refine outK_split ?_ ?_) <;> (intro xc; (try simp only [Bool.not_eq_true', Bool.not_eq_false'] at xc); have xp := xc; (try simp only [decide_eq_true_eq, decide_eq_false_iff_not, Int.not_lt, Int.not_le, ge_iff_le, gt_iff_lt, Bool.and_eq_true, Bool.or_eq_false_iff] at xp); have xq := xp; (first | simp only [← Int.not_le] at xq | simp only [← Int.not_lt] at xq | clear xq))) | refine ⟨.ret _, _, PCall.s (by first | assumption) (by simp [push_cast]), ?_⟩ | refine ⟨.ret _, _, RCall.s (RCall.sh (by first | assumption)) (by simp [push_cast]), ?_⟩ | refine ⟨_, _, SCall.lift (by first | assumption) (outR_cl (by simp [push_cast]) (by simp [push_cast])) (by simp [push_cast]), ?_⟩ | refine ⟨_, (by first | assumption), ?_⟩ | refine ⟨0, [], _, PCall.r (by first | assumption), ?_⟩ | refine ⟨_, _, (by first | assumption), ?_⟩ | refine ⟨_, _, _, RCall.sh (by first | assumption), ?_⟩ | refine ⟨_, _, _, (by first | assumption), ?_⟩ | ((fail_if_success (refine ⟨_, ?_, ?_⟩)); refine ⟨AV.any, ?_⟩) | refine ret_frz rfl ?_ (by simp [push_cast]) (by simp [push_cast]) (by simp [push_cast]) | refine end_frz rfl ?_ (by simp [push_cast]) (by simp [push_cast]) (by simp [push_cast]) | refine ret_now (by simp [push_cast]) ?_ (by simp [push_cast]) | refine end_now (by simp [push_cast]) ?_ (by simp [push_cast])) <;> (try simp only [push_cast, seval, reduceCtorEq, *]))
    | ((first | refine cv_ptE rfl rfl rfl rfl rfl ?_ | refine outQ_frz rfl ?_ (by simp [push_cast]) (by simp [push_cast]) | refine dfr_end (by simp) rfl ?_ (by simp [push_cast]) (by simp [push_cast])) <;> (try simp only [push_cast, seval, reduceCtorEq]))
    | exact cv_slE rfl rfl ⟨rfl, rfl⟩ (by simp) (by simp [take_map_len])
    | refine outQ_pan ?_ (by simp [push_cast])
    | refine outQ_unit ?_
    | refine outQ_unitN ?_
    | refine And.intro ?_ ?_
    | omega)
  all_goals (try simp only [push_cast, seval, reduceCtorEq])
  all_goals first
    | (simp only [*]; done)
    | (simp [*]; done)
    | (simp_all []; done)
    | (simp_all []; omega)
    | skip
  all_goals (refine outQ_ret rfl ?_ (by simp [push_cast]) (by simp [push_cast]); (apply Wk.renA (fun i => i == 2); (case he => (try simp only [push_cast, Nat.reduceBEq, Nat.reduceLeDiff, Nat.reduceAdd]); (repeat' (first | exact trivial | (refine cv_ptE rfl rfl rfl rfl rfl ?_; simp only [push_cast, Nat.reduceBEq, Nat.reduceLeDiff, Nat.reduceAdd]) | exact cv_slE rfl rfl ⟨rfl, rfl⟩ (by simp) (by simp [take_map_len]) | exact cv_slG rfl rfl ⟨rfl, rfl⟩ (by simp) (by first | rfl | (simp; done)) (by first | rfl | (simp; done) | (simp; omega)) (by simp [push_cast]) | exact cv_ros_self (by simp [push_cast]) | exact bel_ros_cl (by simp [push_cast]) | exact cellsCv_eq (by simp [take_map_len]) (by simp [push_cast]) | refine And.intro ?_ ?_ | rfl | omega | (simp; done) | (simp; omega)))); (case hr => (try simp only [push_cast, Nat.reduceBEq, Nat.reduceLeDiff, Nat.reduceAdd]); (repeat' (first | exact trivial | (refine cv_ptE rfl rfl rfl rfl rfl ?_; simp only [push_cast, Nat.reduceBEq, Nat.reduceLeDiff, Nat.reduceAdd]) | exact cv_slE rfl rfl ⟨rfl, rfl⟩ (by simp) (by simp [take_map_len]) | exact cv_slG rfl rfl ⟨rfl, rfl⟩ (by simp) (by first | rfl | (simp; done)) (by first | rfl | (simp; done) | (simp; omega)) (by simp [push_cast]) | exact cv_ros_self (by simp [push_cast]) | exact bel_ros_cl (by simp [push_cast]) | exact cellsCv_eq (by simp [take_map_len]) (by simp [push_cast]) | refine And.intro ?_ ?_ | rfl | omega | (simp; done) | (simp; omega)))); (case hinj => simp [rhoA_0, rhoA_1, rhoA_2]); all_goals exact 0))
theorem done_r {b : Bk} {m : Tm} (h : Fit b m) (k : Nat) (now : Int) (ha : avE b m ((k : Int) + 1) 4 now = 0) :
    RCall prog 52 [.agg (tmc m), .agg (bkc b), .int .i64 ((k : Int) + 1), .int .u64 now] 0 2 (ownR (avB b k (ordAt b ((k : Int) + 1)) 4 now)) (.tup [ownV (avB b k (ordAt b ((k : Int) + 1)) 4 now), .int .i64 0]) := by
  have hk := adv_r h k 4 now ha
  generalize avB b k (ordAt b ((k : Int) + 1)) 4 now = B at *
  obtain ⟨os, q, cw, cm⟩ := B
  refine SCall.r ?_ (look_lt (by simp [List.all_cons, all_accR]))
  rcases q with _ | ⟨i, j⟩
  all_goals
  simp only [ownV, ownR, List.map_nil, List.map_cons, accV, accR] at *
  obtain ⟨c, hb, hl⟩ := l52
  refine scall_of mixed e52 hb rfl hl r52 (by rw [n52]; simp) ?_
  clear hb hl c
  (try simp only [push_cast, seval, reduceCtorEq])
  repeat' (first
    | ((first | ((first | refine brX_split ?_ ?_ | refine gX_split ?_ ?_ | refine hX_split ?_ ?_ | refine outK_split ?_ ?_) <;> (intro xc; (try simp only [Bool.not_eq_true', Bool.not_eq_false'] at xc); have xp := xc; (try simp only [decide_eq_true_eq, decide_eq_false_iff_not, Int.not_lt, Int.not_le, ge_iff_le, gt_iff_lt, Bool.and_eq_true, Bool.or_eq_false_iff] at xp); have xq := xp; (first | simp only [← Int.not_le] at xq | simp only [← Int.not_lt] at xq | clear xq))) | refine ⟨.ret _, _, PCall.s (by first | assumption) (by simp [push_cast]), ?_⟩ | refine ⟨.ret _, _, RCall.s (RCall.sh (by first | assumption)) (by simp [push_cast]), ?_⟩ | refine ⟨_, _, SCall.lift (by first | assumption) (outR_cl (by simp [push_cast]) (by simp [push_cast])) (by simp [push_cast]), ?_⟩ | refine ⟨_, (by first | assumption), ?_⟩ | refine ⟨0, [], _, PCall.r (by first | assumption), ?_⟩ | refine ⟨_, _, (by first | assumption), ?_⟩ | refine ⟨_, _, _, RCall.sh (by first | assumption), ?_⟩ | refine ⟨_, _, _, (by first | assumption), ?_⟩ | ((fail_if_success (refine ⟨_, ?_, ?_⟩)); refine ⟨AV.any, ?_⟩) | refine ret_frz rfl ?_ (by simp [push_cast]) (by simp [push_cast]) (by simp [push_cast]) | refine end_frz rfl ?_ (by simp [push_cast]) (by simp [push_cast]) (by simp [push_cast]) | refine ret_now (by simp [push_cast]) ?_ (by simp [push_cast]) | refine end_now (by simp [push_cast]) ?_ (by simp [push_cast])) <;> (try simp only [push_cast, seval, reduceCtorEq, *]))
    | ((first | refine cv_ptE rfl rfl rfl rfl rfl ?_ | refine outQ_frz rfl ?_ (by simp [push_cast]) (by simp [push_cast]) | refine dfr_end (by simp) rfl ?_ (by simp [push_cast]) (by simp [push_cast])) <;> (try simp only [push_cast, seval, reduceCtorEq]))
    | exact cv_slE rfl rfl ⟨rfl, rfl⟩ (by simp) (by simp [take_map_len])
    | refine outQ_pan ?_ (by simp [push_cast])
    | refine outQ_unit ?_
    | refine outQ_unitN ?_
    | refine And.intro ?_ ?_
    | omega)
  all_goals (try simp only [push_cast, seval, reduceCtorEq])
  all_goals first
    | (simp only [*]; done)
    | (simp [*]; done)
    | (simp_all []; done)
    | (simp_all []; omega)
    | skip
  all_goals (refine outQ_ret rfl ?_ (by simp [push_cast]) (by simp [push_cast]); (apply Wk.renA (fun i => i == 2); (case he => (try simp only [push_cast, Nat.reduceBEq, Nat.reduceLeDiff, Nat.reduceAdd]); (repeat' (first | exact trivial | (refine cv_ptE rfl rfl rfl rfl rfl ?_; simp only [push_cast, Nat.reduceBEq, Nat.reduceLeDiff, Nat.reduceAdd]) | exact cv_slE rfl rfl ⟨rfl, rfl⟩ (by simp) (by simp [take_map_len]) | exact cv_slG rfl rfl ⟨rfl, rfl⟩ (by simp) (by first | rfl | (simp; done)) (by first | rfl | (simp; done) | (simp; omega)) (by simp [push_cast]) | exact cv_ros_self (by simp [push_cast]) | exact bel_ros_cl (by simp [push_cast]) | exact cellsCv_eq (by simp [take_map_len]) (by simp [push_cast]) | refine And.intro ?_ ?_ | rfl | omega | (simp; done) | (simp; omega)))); (case hr => (try simp only [push_cast, Nat.reduceBEq, Nat.reduceLeDiff, Nat.reduceAdd]); (repeat' (first | exact trivial | (refine cv_ptE rfl rfl rfl rfl rfl ?_; simp only [push_cast, Nat.reduceBEq, Nat.reduceLeDiff, Nat.reduceAdd]) | exact cv_slE rfl rfl ⟨rfl, rfl⟩ (by simp) (by simp [take_map_len]) | exact cv_slG rfl rfl ⟨rfl, rfl⟩ (by simp) (by first | rfl | (simp; done)) (by first | rfl | (simp; done) | (simp; omega)) (by simp [push_cast]) | exact cv_ros_self (by simp [push_cast]) | exact bel_ros_cl (by simp [push_cast]) | exact cellsCv_eq (by simp [take_map_len]) (by simp [push_cast]) | refine And.intro ?_ ?_ | rfl | omega | (simp; done) | (simp; omega)))); (case hinj => simp [rhoA_0, rhoA_1, rhoA_2]); all_goals exact 0))
end Go.Proofs.Ytffiicopifmmfaa
