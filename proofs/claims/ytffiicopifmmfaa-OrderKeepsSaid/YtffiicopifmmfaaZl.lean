/- Facts of the program over abstract values. No condition. -/
import Derived.Test.YtffiicopifmmfaaZk
set_option linter.unusedSimpArgs false
set_option maxRecDepth 8000
namespace Go.Proofs.Ytffiicopifmmfaa
set_option linter.unusedSimpArgs false
set_option linter.unusedVariables false
set_option linter.unnecessarySimpa false
set_option linter.unusedSectionVars false
open Go.Proofs.Try
open Go.Proofs.Ytffiicopifmmfaa.Ai
set_option maxHeartbeats 4000000

theorem isSl_ne {sz : Nat} {v : AV} {es : List (List AV)} (h : isSl sz v es) (hne : es ≠ []) : v = .ros sz es := by
  cases es with
  | nil => exact absurd rfl hne
  | cons x l => exact h
def avB (b : Bk) (k : Nat) (o : O) (st now : Int) : Bk := ⟨b.os.set k (advO o st now), nwU isQ (b.os.set k (advO o st now)) b.os.length, b.cw, b.cm⟩
theorem advanceIn_ok {oV qV : AV} {b : Bk} {m : Tm} (hO : isSl 6 oV (b.os.map oc)) (hQ : isSl 1 qV (b.q.map intc)) (h : Fit b m) (k : Nat) (o : O) (hk : b.os[k]? = some o) (st now : Int) (h0 : bookE b m = 0) (ha : advE o st now = 0) :
    RCall prog 71 [.agg (tmc m), .agg (bkv oV qV b), .int .i64 ((k : Int) + 1), .int .u8 st, .int .u64 now] 0 2 ((0, ⟨6, (avB b k o st now).os.map oc⟩) :: accR 1 1 ((avB b k o st now).q.map intc))
      (.tup [.agg [.sl 0 6 0 b.os.length none, accV 1 1 ((avB b k o st now).q.map intc), .int .u64 b.cw, .int .i64 b.cm], .int .i64 0]) := by
  have hl := ledgerOf_ok hO hQ h h0
  have hlen := book0_len h0
  have hkl : k < b.os.length := (List.getElem?_eq_some_iff.1 hk).1
  have hrc : RCall prog 81 [.agg (ldc ⟨(avB b k o st now).os, b.q, b.cw, b.cm⟩ m)] 0 1 _ _ := queued_r ⟨(avB b k o st now).os, b.q, b.cw, b.cm⟩ m (by simp [avB]; omega)
  have ho := order_ok b m k o hk (by omega)
  have hg := getD_map (enc := oc) hk
  have hw : IntKind.i64.wrap ((k : Int) + 1 - 1) = k := by rw [IntWalk.i64_in _ (by omega)]; omega
  have hset : (b.os.map oc).set k (oc (advO o st now)) = (avB b k o st now).os.map oc := by simp [avB, List.map_set]
  have hav := adv_ok o st now ha
  have hq9 : (avB b k o st now).q = nwU isQ (avB b k o st now).os (avB b k o st now).os.length := by simp [avB]
  have hbl : (avB b k o st now).os.length = b.os.length := by simp [avB]
  rw [← hq9] at hrc
  have hoV := isSl_ne hO (by intro e; simp at e; rw [e] at hkl; simp at hkl)
  subst hoV
  clear hO
  generalize hos' : (avB b k o st now).os = os' at *
  generalize (avB b k o st now).q = acc at *
  generalize advO o st now = o' at *
  obtain ⟨os, q, cw, cm⟩ := b
  simp only at hk hkl hrc ho hg hset hl hQ hlen hbl
  refine SCall.r ?_ (look_lt (by simp [List.all_cons, all_accR]))
  rcases q with _ | ⟨i, j⟩
  · simp only [List.map_nil, isSl] at hQ
    rcases hQ with rfl | rfl <;> rcases acc with _ | ⟨a, l⟩
    all_goals
    simp only [clV, clR] at hl
    simp only [List.map_nil, List.map_cons, accV, accR] at *
    obtain ⟨c, hb, hl⟩ := l71
    refine scall_of mixed e71 hb rfl hl r71 (by rw [n71]; simp) ?_
    clear hb hl c
    (try simp only [push_cast, seval, reduceCtorEq, hw, hg, hset, hbl])
    repeat' (first
      | ((first | ((first | refine brX_split ?_ ?_ | refine gX_split ?_ ?_ | refine hX_split ?_ ?_ | refine outK_split ?_ ?_) <;> (intro xc; (try simp only [Bool.not_eq_true', Bool.not_eq_false'] at xc); have xp := xc; (try simp only [decide_eq_true_eq, decide_eq_false_iff_not, Int.not_lt, Int.not_le, ge_iff_le, gt_iff_lt, Bool.and_eq_true, Bool.or_eq_false_iff] at xp); have xq := xp; (first | simp only [← Int.not_le] at xq | simp only [← Int.not_lt] at xq | clear xq))) | refine ⟨.ret _, _, PCall.s (by first | assumption) (by simp [push_cast, hw, hg, hset, hbl]), ?_⟩ | refine ⟨.ret _, _, RCall.s (RCall.sh (by first | assumption)) (by simp [push_cast, hw, hg, hset, hbl]), ?_⟩ | refine ⟨_, _, SCall.lift (by first | assumption) (outR_cl (by simp [push_cast]) (by simp [push_cast])) (by simp [push_cast, hw, hg, hset, hbl]), ?_⟩ | refine ⟨_, (by first | assumption), ?_⟩ | refine ⟨0, [], _, PCall.r (by first | assumption), ?_⟩ | refine ⟨_, _, (by first | assumption), ?_⟩ | refine ⟨_, _, _, RCall.sh (by first | assumption), ?_⟩ | refine ⟨_, _, _, (by first | assumption), ?_⟩ | refine ⟨_, _, PCall.frz (by first | exact ho | exact hrc) (by (try simp only [all2_cons, all2_nil, frzArg, push_cast, Nat.reduceBEq, Nat.reduceLeDiff, Nat.reduceAdd]); repeat' (first | exact trivial | exact cv_slF rfl rfl ⟨rfl, rfl⟩ (by simp) (by first | rfl | (simp; done)) (by first | rfl | (simp; done) | (simp; omega)) | exact cv_closed (by simp [push_cast]) | refine And.intro ?_ ?_ | rfl | (simp [push_cast]; done))) (by simp [push_cast, hw, hg, hset, hbl]), ?_⟩ | refine ⟨.ret _, _, RCall.frz (RCall.sh (by first | exact ho | exact hrc)) (by (try simp only [all2_cons, all2_nil, frzArg, push_cast, Nat.reduceBEq, Nat.reduceLeDiff, Nat.reduceAdd]); repeat' (first | exact trivial | exact cv_slF rfl rfl ⟨rfl, rfl⟩ (by simp) (by first | rfl | (simp; done)) (by first | rfl | (simp; done) | (simp; omega)) | exact cv_closed (by simp [push_cast]) | refine And.intro ?_ ?_ | rfl | (simp [push_cast]; done))) (by simp [push_cast, hw, hg, hset, hbl]) (by simp [push_cast, hw, hg, hset, hbl]), ?_⟩ | ((fail_if_success (refine ⟨_, ?_, ?_⟩)); refine ⟨AV.any, ?_⟩) | refine ret_frz rfl ?_ (by simp [push_cast]) (by simp [push_cast, hw, hg, hset, hbl]) (by simp [push_cast, hw, hg, hset, hbl]) | refine end_frz rfl ?_ (by simp [push_cast]) (by simp [push_cast, hw, hg, hset, hbl]) (by simp [push_cast, hw, hg, hset, hbl]) | refine ret_now (by simp [push_cast]) ?_ (by simp [push_cast]) | refine end_now (by simp [push_cast]) ?_ (by simp [push_cast])) <;> (try simp only [push_cast, seval, reduceCtorEq, *, hw, hg, hset, hbl]))
      | ((first | refine cv_ptE rfl rfl rfl rfl rfl ?_ | refine outQ_frz rfl ?_ (by simp [push_cast]) (by simp [push_cast, hw, hg, hset, hbl]) | refine dfr_end (by simp) rfl ?_ (by simp [push_cast]) (by simp [push_cast, hw, hg, hset, hbl])) <;> (try simp only [push_cast, seval, reduceCtorEq, hw, hg, hset, hbl]))
      | exact cv_slE rfl rfl ⟨rfl, rfl⟩ (by simp) (by simp [take_map_len])
      | refine outQ_pan ?_ (by simp [push_cast])
      | refine outQ_unit ?_
      | refine outQ_unitN ?_
      | refine And.intro ?_ ?_
      | omega)
    all_goals (try simp only [push_cast, seval, reduceCtorEq, hw, hg, hset, hbl])
    all_goals first
      | (simp only [*, hw, hg, hset, hbl]; done)
      | (simp [*, hw, hg, hset, hbl]; done)
      | (simp_all [hw, hg, hset, hbl]; done)
      | (simp_all [hw, hg, hset, hbl]; omega)
      | skip
    all_goals (refine outQ_ret rfl ?_ (by simp [push_cast]) (by simp [push_cast]); (apply Wk.renA (fun i => i == 2); (case he => (try simp only [push_cast, Nat.reduceBEq, Nat.reduceLeDiff, Nat.reduceAdd]); (repeat' (first | exact trivial | (refine cv_ptE rfl rfl rfl rfl rfl ?_; simp only [push_cast, Nat.reduceBEq, Nat.reduceLeDiff, Nat.reduceAdd]) | exact cv_slE rfl rfl ⟨rfl, rfl⟩ (by simp) (by simp [take_map_len]) | exact cv_slG rfl rfl ⟨rfl, rfl⟩ (by simp) (by first | rfl | (simp; done)) (by first | rfl | (simp; done) | (simp; omega)) (by simp [push_cast]) | exact cv_ros_self (by simp [push_cast]) | exact bel_ros_cl (by simp [push_cast]) | exact cellsCv_eq (by simp [take_map_len]) (by simp [push_cast]) | refine And.intro ?_ ?_ | rfl | omega | (simp; done) | (simp; omega)))); (case hr => (try simp only [push_cast, Nat.reduceBEq, Nat.reduceLeDiff, Nat.reduceAdd]); (repeat' (first | exact trivial | (refine cv_ptE rfl rfl rfl rfl rfl ?_; simp only [push_cast, Nat.reduceBEq, Nat.reduceLeDiff, Nat.reduceAdd]) | exact cv_slE rfl rfl ⟨rfl, rfl⟩ (by simp) (by simp [take_map_len]) | exact cv_slG rfl rfl ⟨rfl, rfl⟩ (by simp) (by first | rfl | (simp; done)) (by first | rfl | (simp; done) | (simp; omega)) (by simp [push_cast]) | exact cv_ros_self (by simp [push_cast]) | exact bel_ros_cl (by simp [push_cast]) | exact cellsCv_eq (by simp [take_map_len]) (by simp [push_cast]) | refine And.intro ?_ ?_ | rfl | omega | (simp; done) | (simp; omega)))); (case hinj => simp [rhoA_0, rhoA_1, rhoA_2]); all_goals exact 0))
  · simp only [List.map_cons, isSl] at hQ
    subst hQ
    rcases acc with _ | ⟨a, l⟩
    all_goals
    simp only [clV, clR] at hl
    simp only [List.map_nil, List.map_cons, accV, accR] at *
    obtain ⟨c, hb, hl⟩ := l71
    refine scall_of mixed e71 hb rfl hl r71 (by rw [n71]; simp) ?_
    clear hb hl c
    (try simp only [push_cast, seval, reduceCtorEq, hw, hg, hset, hbl])
    repeat' (first
      | ((first | ((first | refine brX_split ?_ ?_ | refine gX_split ?_ ?_ | refine hX_split ?_ ?_ | refine outK_split ?_ ?_) <;> (intro xc; (try simp only [Bool.not_eq_true', Bool.not_eq_false'] at xc); have xp := xc; (try simp only [decide_eq_true_eq, decide_eq_false_iff_not, Int.not_lt, Int.not_le, ge_iff_le, gt_iff_lt, Bool.and_eq_true, Bool.or_eq_false_iff] at xp); have xq := xp; (first | simp only [← Int.not_le] at xq | simp only [← Int.not_lt] at xq | clear xq))) | refine ⟨.ret _, _, PCall.s (by first | assumption) (by simp [push_cast, hw, hg, hset, hbl]), ?_⟩ | refine ⟨.ret _, _, RCall.s (RCall.sh (by first | assumption)) (by simp [push_cast, hw, hg, hset, hbl]), ?_⟩ | refine ⟨_, _, SCall.lift (by first | assumption) (outR_cl (by simp [push_cast]) (by simp [push_cast])) (by simp [push_cast, hw, hg, hset, hbl]), ?_⟩ | refine ⟨_, (by first | assumption), ?_⟩ | refine ⟨0, [], _, PCall.r (by first | assumption), ?_⟩ | refine ⟨_, _, (by first | assumption), ?_⟩ | refine ⟨_, _, _, RCall.sh (by first | assumption), ?_⟩ | refine ⟨_, _, _, (by first | assumption), ?_⟩ | refine ⟨_, _, PCall.frz (by first | exact ho | exact hrc) (by (try simp only [all2_cons, all2_nil, frzArg, push_cast, Nat.reduceBEq, Nat.reduceLeDiff, Nat.reduceAdd]); repeat' (first | exact trivial | exact cv_slF rfl rfl ⟨rfl, rfl⟩ (by simp) (by first | rfl | (simp; done)) (by first | rfl | (simp; done) | (simp; omega)) | exact cv_closed (by simp [push_cast]) | refine And.intro ?_ ?_ | rfl | (simp [push_cast]; done))) (by simp [push_cast, hw, hg, hset, hbl]), ?_⟩ | refine ⟨.ret _, _, RCall.frz (RCall.sh (by first | exact ho | exact hrc)) (by (try simp only [all2_cons, all2_nil, frzArg, push_cast, Nat.reduceBEq, Nat.reduceLeDiff, Nat.reduceAdd]); repeat' (first | exact trivial | exact cv_slF rfl rfl ⟨rfl, rfl⟩ (by simp) (by first | rfl | (simp; done)) (by first | rfl | (simp; done) | (simp; omega)) | exact cv_closed (by simp [push_cast]) | refine And.intro ?_ ?_ | rfl | (simp [push_cast]; done))) (by simp [push_cast, hw, hg, hset, hbl]) (by simp [push_cast, hw, hg, hset, hbl]), ?_⟩ | ((fail_if_success (refine ⟨_, ?_, ?_⟩)); refine ⟨AV.any, ?_⟩) | refine ret_frz rfl ?_ (by simp [push_cast]) (by simp [push_cast, hw, hg, hset, hbl]) (by simp [push_cast, hw, hg, hset, hbl]) | refine end_frz rfl ?_ (by simp [push_cast]) (by simp [push_cast, hw, hg, hset, hbl]) (by simp [push_cast, hw, hg, hset, hbl]) | refine ret_now (by simp [push_cast]) ?_ (by simp [push_cast]) | refine end_now (by simp [push_cast]) ?_ (by simp [push_cast])) <;> (try simp only [push_cast, seval, reduceCtorEq, *, hw, hg, hset, hbl]))
      | ((first | refine cv_ptE rfl rfl rfl rfl rfl ?_ | refine outQ_frz rfl ?_ (by simp [push_cast]) (by simp [push_cast, hw, hg, hset, hbl]) | refine dfr_end (by simp) rfl ?_ (by simp [push_cast]) (by simp [push_cast, hw, hg, hset, hbl])) <;> (try simp only [push_cast, seval, reduceCtorEq, hw, hg, hset, hbl]))
      | exact cv_slE rfl rfl ⟨rfl, rfl⟩ (by simp) (by simp [take_map_len])
      | refine outQ_pan ?_ (by simp [push_cast])
      | refine outQ_unit ?_
      | refine outQ_unitN ?_
      | refine And.intro ?_ ?_
      | omega)
    all_goals (try simp only [push_cast, seval, reduceCtorEq, hw, hg, hset, hbl])
    all_goals first
      | (simp only [*, hw, hg, hset, hbl]; done)
      | (simp [*, hw, hg, hset, hbl]; done)
      | (simp_all [hw, hg, hset, hbl]; done)
      | (simp_all [hw, hg, hset, hbl]; omega)
      | skip
    all_goals (refine outQ_ret rfl ?_ (by simp [push_cast]) (by simp [push_cast]); (apply Wk.renA (fun i => i == 2); (case he => (try simp only [push_cast, Nat.reduceBEq, Nat.reduceLeDiff, Nat.reduceAdd]); (repeat' (first | exact trivial | (refine cv_ptE rfl rfl rfl rfl rfl ?_; simp only [push_cast, Nat.reduceBEq, Nat.reduceLeDiff, Nat.reduceAdd]) | exact cv_slE rfl rfl ⟨rfl, rfl⟩ (by simp) (by simp [take_map_len]) | exact cv_slG rfl rfl ⟨rfl, rfl⟩ (by simp) (by first | rfl | (simp; done)) (by first | rfl | (simp; done) | (simp; omega)) (by simp [push_cast]) | exact cv_ros_self (by simp [push_cast]) | exact bel_ros_cl (by simp [push_cast]) | exact cellsCv_eq (by simp [take_map_len]) (by simp [push_cast]) | refine And.intro ?_ ?_ | rfl | omega | (simp; done) | (simp; omega)))); (case hr => (try simp only [push_cast, Nat.reduceBEq, Nat.reduceLeDiff, Nat.reduceAdd]); (repeat' (first | exact trivial | (refine cv_ptE rfl rfl rfl rfl rfl ?_; simp only [push_cast, Nat.reduceBEq, Nat.reduceLeDiff, Nat.reduceAdd]) | exact cv_slE rfl rfl ⟨rfl, rfl⟩ (by simp) (by simp [take_map_len]) | exact cv_slG rfl rfl ⟨rfl, rfl⟩ (by simp) (by first | rfl | (simp; done)) (by first | rfl | (simp; done) | (simp; omega)) (by simp [push_cast]) | exact cv_ros_self (by simp [push_cast]) | exact bel_ros_cl (by simp [push_cast]) | exact cellsCv_eq (by simp [take_map_len]) (by simp [push_cast]) | refine And.intro ?_ ?_ | rfl | omega | (simp; done) | (simp; omega)))); (case hinj => simp [rhoA_0, rhoA_1, rhoA_2]); all_goals exact 0))
end Go.Proofs.Ytffiicopifmmfaa
