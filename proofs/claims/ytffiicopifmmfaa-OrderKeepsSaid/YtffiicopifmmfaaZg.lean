/- Facts of the program over abstract values. No condition. -/
import Derived.Test.YtffiicopifmmfaaZf
set_option linter.unusedSimpArgs false
set_option maxRecDepth 8000
namespace Go.Proofs.Ytffiicopifmmfaa
set_option linter.unusedSimpArgs false
set_option linter.unusedVariables false
set_option linter.unnecessarySimpa false
set_option linter.unusedSectionVars false
open Go.Proofs.Try
open Go.Proofs.Ytffiicopifmmfaa.Ai
set_option maxHeartbeats 4000000

theorem book0 {b : Bk} {m : Tm} (h : bookE b m = 0) : teamB m = true ∧ ordsB m b.os = true ∧ queB b m = true ∧ cntE b.cw b.cm m.w m.qo = 0 := by
  unfold bookE at h
  cases h1 : teamB m <;> cases h2 : ordsB m b.os <;> cases h3 : queB b m <;> by_cases h4 : cntE b.cw b.cm m.w m.qo = 0 <;> simp [h1, h2, h3, h4] at h ⊢
theorem book0_len {b : Bk} {m : Tm} (h : bookE b m = 0) : b.os.length ≤ 64 ∧ b.q.length ≤ 8 := by
  obtain ⟨h1, h2, h3, _⟩ := book0 h
  simp only [teamB, inB, Bool.and_eq_true, decide_eq_true_eq] at h1
  simp only [ordsB, Bool.and_eq_true, decide_eq_true_eq] at h2
  simp only [queB, Bool.and_eq_true, decide_eq_true_eq] at h3
  omega
abbrev bkv (oV qV : AV) (b : Bk) : List AV := [oV, qV, .int .u64 b.cw, .int .i64 b.cm]
abbrev ldv (oV qV : AV) (b : Bk) (m : Tm) : List AV := [oV, qV, .int .u64 b.cw, .int .i64 b.cm, intsV m.h, intsV m.p, intsV m.d, .int .i64 m.l, .int .i64 m.u, .int .i64 m.qu, .int .i64 m.qo, .int .i64 m.w]
theorem check_v {oV qV : AV} {b : Bk} {m : Tm} (hO : isSl 6 oV (b.os.map oc)) (hQ : isSl 1 qV (b.q.map intc)) (h : Fit b m) : PCall prog 55 [.agg (ldv oV qV b m)] (.int .i64 (bookE b m)) :=
  (check_led b m h).weak ⟨ge_agg ⟨isSl_ge hO, isSl_ge hQ, .refl _, .refl _, .refl _, .refl _, .refl _, .refl _, .refl _, .refl _, .refl _, .refl _, trivial⟩, trivial⟩
abbrev zbk : List AV := [.nils, .nils, .int .u64 0, .int .i64 0]
abbrev zld : List AV := [.nils, .nils, .int .u64 0, .int .i64 0, .nils, .nils, .nils, .int .i64 0, .int .i64 0, .int .i64 0, .int .i64 0, .int .i64 0]
theorem isSl_cl {sz : Nat} {v : AV} {es : List (List AV)} (h : isSl sz v es) (hc : ∀ x ∈ es, ∀ c ∈ x, Cl c) : Cl v := by
  cases es with
  | nil => rcases h with rfl | rfl; exact .nils; exact .roe _
  | cons x l => rw [h]; exact .ros _ _ hc
theorem isSl_one {sz : Nat} {v : AV} {es : List (List AV)} (h : isSl sz v es) : v.one := by
  cases es with
  | nil => rcases h with rfl | rfl <;> trivial
  | cons x l => rw [h]; trivial
theorem cl_os (os : List O) : ∀ x ∈ os.map oc, ∀ c ∈ x, Cl c := by simp [cl_int]
theorem cl_is (l : List Int) : ∀ x ∈ l.map intc, ∀ c ∈ x, Cl c := by simp [cl_int]
theorem ledgerOf_bad {oV qV : AV} {b : Bk} {m : Tm} (hO : isSl 6 oV (b.os.map oc)) (hQ : isSl 1 qV (b.q.map intc)) (h : Fit b m) (hb : ¬ bookE b m = 0) : PCall prog 53 [.agg (tmc m), .agg (bkv oV qV b)] (.tup [.agg zld, .int .i64 (bookE b m)]) := by
  have c1 := isSl_cl hO (cl_os _)
  have c2 := isSl_cl hQ (cl_is _)
  have hk := check_v hO hQ h
  have o1 : oV.one = True := eq_true (isSl_one hO)
  have o2 : qV.one = True := eq_true (isSl_one hQ)
  clear hO hQ
  obtain ⟨c, hb, hl⟩ := l53
  refine pcall_of mixed e53 hb rfl hl r53 (by rw [n53]; simp) ?_
  clear hb hl c
  (try simp only [push_cast, seval, reduceCtorEq, c1, c2, o1, o2, hb])
  repeat' (first
    | ((first | ((first | refine brX_split ?_ ?_ | refine gX_split ?_ ?_ | refine hX_split ?_ ?_ | refine outK_split ?_ ?_) <;> (intro xc; (try simp only [Bool.not_eq_true', Bool.not_eq_false'] at xc); have xp := xc; (try simp only [decide_eq_true_eq, decide_eq_false_iff_not, Int.not_lt, Int.not_le, ge_iff_le, gt_iff_lt, Bool.and_eq_true, Bool.or_eq_false_iff] at xp); have xq := xp; (first | simp only [← Int.not_le] at xq | simp only [← Int.not_lt] at xq | clear xq))) | refine ⟨.ret _, _, PCall.s (by first | assumption) (by simp [push_cast, c1, c2, o1, o2, hb]), ?_⟩ | refine ⟨.ret _, _, RCall.s (RCall.sh (by first | assumption)) (by simp [push_cast, c1, c2, o1, o2, hb]), ?_⟩ | refine ⟨_, _, SCall.lift (by first | assumption) (outR_cl (by simp [push_cast]) (by simp [push_cast])) (by simp [push_cast, c1, c2, o1, o2, hb]), ?_⟩ | refine ⟨_, (by first | assumption), ?_⟩ | refine ⟨0, [], _, PCall.r (by first | assumption), ?_⟩ | refine ⟨_, _, (by first | assumption), ?_⟩ | refine ⟨_, _, _, RCall.sh (by first | assumption), ?_⟩ | refine ⟨_, _, _, (by first | assumption), ?_⟩ | ((fail_if_success (refine ⟨_, ?_, ?_⟩)); refine ⟨AV.any, ?_⟩) | refine ret_frz rfl ?_ (by simp [push_cast]) (by simp [push_cast, c1, c2, o1, o2, hb]) (by simp [push_cast, c1, c2, o1, o2, hb]) | refine end_frz rfl ?_ (by simp [push_cast]) (by simp [push_cast, c1, c2, o1, o2, hb]) (by simp [push_cast, c1, c2, o1, o2, hb]) | refine ret_now (by simp [push_cast]) ?_ (by simp [push_cast]) | refine end_now (by simp [push_cast]) ?_ (by simp [push_cast])) <;> (try simp only [push_cast, seval, reduceCtorEq, *, c1, c2, o1, o2, hb]))
    | ((first | refine cv_ptE rfl rfl rfl rfl rfl ?_ | refine outQ_frz rfl ?_ (by simp [push_cast]) (by simp [push_cast, c1, c2, o1, o2, hb]) | refine dfr_end (by simp) rfl ?_ (by simp [push_cast]) (by simp [push_cast, c1, c2, o1, o2, hb])) <;> (try simp only [push_cast, seval, reduceCtorEq, c1, c2, o1, o2, hb]))
    | exact cv_slE rfl rfl ⟨rfl, rfl⟩ (by simp) (by simp [take_map_len])
    | refine outQ_pan ?_ (by simp [push_cast])
    | refine outQ_unit ?_
    | refine outQ_unitN ?_
    | refine And.intro ?_ ?_
    | omega)
  all_goals (try simp only [push_cast, seval, reduceCtorEq, c1, c2, o1, o2, hb])
  all_goals first
    | (simp only [*, c1, c2, o1, o2, hb]; done)
    | (simp [*, c1, c2, o1, o2, hb]; done)
    | (simp_all [c1, c2, o1, o2, hb]; done)
    | (simp_all [c1, c2, o1, o2, hb]; omega)
    | skip
def clV (id sz : Nat) : AV → AV
  | .roe _ => .sl id sz 0 0 (some 0)
  | .ros _ es => .sl id sz 0 es.length none
  | v => v
def clR (id sz : Nat) : AV → Ai.Rows
  | .roe _ => [(id, ⟨sz, []⟩)]
  | .ros _ es => [(id, ⟨sz, es⟩)]
  | _ => []
theorem ledgerOf_ok {oV qV : AV} {b : Bk} {m : Tm} (hO : isSl 6 oV (b.os.map oc)) (hQ : isSl 1 qV (b.q.map intc)) (h : Fit b m) (hb : bookE b m = 0) :
    RCall prog 53 [.agg (tmc m), .agg (bkv oV qV b)] 0 2 (clR 0 6 oV ++ clR 1 1 qV) (.tup [.agg (ldv (clV 0 6 oV) (clV 1 1 qV) b m), .int .i64 0]) := by
  obtain ⟨os, q, cw, cm⟩ := b
  have hk := check_v hO hQ h
  have hlen := book0_len hb
  rcases os with _ | ⟨o, l⟩ <;> rcases q with _ | ⟨i, j⟩
  all_goals simp only [List.map_nil, List.map_cons, isSl] at hO hQ
  · rcases hO with rfl | rfl <;> rcases hQ with rfl | rfl <;> simp only [clV, clR]
    all_goals
    refine SCall.r ?_ (look_lt (by first | rfl | simp [accR, List.all_append, all_accR]))
    obtain ⟨c, hb, hl⟩ := l53
    refine scall_of mixed e53 hb rfl hl r53 (by rw [n53]; simp) ?_
    clear hb hl c
    (try simp only [push_cast, seval, reduceCtorEq, hb])
    repeat' (first
      | ((first | ((first | refine brX_split ?_ ?_ | refine gX_split ?_ ?_ | refine hX_split ?_ ?_ | refine outK_split ?_ ?_) <;> (intro xc; (try simp only [Bool.not_eq_true', Bool.not_eq_false'] at xc); have xp := xc; (try simp only [decide_eq_true_eq, decide_eq_false_iff_not, Int.not_lt, Int.not_le, ge_iff_le, gt_iff_lt, Bool.and_eq_true, Bool.or_eq_false_iff] at xp); have xq := xp; (first | simp only [← Int.not_le] at xq | simp only [← Int.not_lt] at xq | clear xq))) | refine ⟨.ret _, _, PCall.s (by first | assumption | exact clone6_nil | exact clone1_nil | exact clone6_roe | exact clone1_roe) (by simp [push_cast, hb]), ?_⟩ | refine ⟨.ret _, _, RCall.s (RCall.sh (by first | assumption | exact clone6_nil | exact clone1_nil | exact clone6_roe | exact clone1_roe)) (by simp [push_cast, hb]), ?_⟩ | refine ⟨_, _, SCall.lift (by first | assumption | exact clone6_nil | exact clone1_nil | exact clone6_roe | exact clone1_roe) (outR_cl (by simp [push_cast]) (by simp [push_cast])) (by simp [push_cast, hb]), ?_⟩ | refine ⟨_, (by first | assumption | exact clone6_nil | exact clone1_nil | exact clone6_roe | exact clone1_roe), ?_⟩ | refine ⟨0, [], _, PCall.r (by first | assumption | exact clone6_nil | exact clone1_nil | exact clone6_roe | exact clone1_roe), ?_⟩ | refine ⟨_, _, (by first | assumption | exact clone6_nil | exact clone1_nil | exact clone6_roe | exact clone1_roe), ?_⟩ | refine ⟨_, _, _, RCall.sh (by first | assumption | exact clone6_nil | exact clone1_nil | exact clone6_roe | exact clone1_roe), ?_⟩ | refine ⟨_, _, _, (by first | assumption | exact clone6_nil | exact clone1_nil | exact clone6_roe | exact clone1_roe), ?_⟩ | ((fail_if_success (refine ⟨_, ?_, ?_⟩)); refine ⟨AV.any, ?_⟩) | refine ret_frz rfl ?_ (by simp [push_cast]) (by simp [push_cast, hb]) (by simp [push_cast, hb]) | refine end_frz rfl ?_ (by simp [push_cast]) (by simp [push_cast, hb]) (by simp [push_cast, hb]) | refine ret_now (by simp [push_cast]) ?_ (by simp [push_cast]) | refine end_now (by simp [push_cast]) ?_ (by simp [push_cast])) <;> (try simp only [push_cast, seval, reduceCtorEq, *, hb]))
      | ((first | refine cv_ptE rfl rfl rfl rfl rfl ?_ | refine outQ_frz rfl ?_ (by simp [push_cast]) (by simp [push_cast, hb]) | refine dfr_end (by simp) rfl ?_ (by simp [push_cast]) (by simp [push_cast, hb])) <;> (try simp only [push_cast, seval, reduceCtorEq, hb]))
      | exact cv_slE rfl rfl ⟨rfl, rfl⟩ (by simp) (by simp [take_map_len])
      | refine outQ_pan ?_ (by simp [push_cast])
      | refine outQ_unit ?_
      | refine outQ_unitN ?_
      | refine And.intro ?_ ?_
      | omega)
    all_goals (try simp only [push_cast, seval, reduceCtorEq, hb])
    all_goals first
      | (simp only [*, hb]; done)
      | (simp [*, hb]; done)
      | (simp_all [hb]; done)
      | (simp_all [hb]; omega)
      | skip
    all_goals (refine outQ_ret rfl ?_ (by simp [push_cast]) (by simp [push_cast]); first | (refine Wk.ren (fun i => i == 2) (fun i => i) (by simp) (by simp) ?_ ?_ (by simp) <;> (try simp only [push_cast, Nat.reduceBEq, Nat.reduceLeDiff, Nat.reduceAdd]) <;> (repeat' (first | exact trivial | (refine cv_ptE rfl rfl rfl rfl rfl ?_; simp only [push_cast, Nat.reduceBEq, Nat.reduceLeDiff, Nat.reduceAdd]) | exact cv_slE rfl rfl ⟨rfl, rfl⟩ (by simp) (by simp [take_map_len]) | exact cv_slG rfl rfl ⟨rfl, rfl⟩ (by simp) (by first | rfl | (simp; done)) (by first | rfl | (simp; done) | (simp; omega)) (by simp [push_cast]) | exact cv_ros_self (by simp [push_cast]) | exact bel_ros_cl (by simp [push_cast]) | exact cellsCv_eq (by simp [take_map_len]) (by simp [push_cast]) | refine And.intro ?_ ?_ | rfl | omega | (simp; done) | (simp; omega))); done) | (refine Wk.ren (fun i => i == 2) (fun i => (bif i == 1 then 19 else i)) (by simp) (by simp) ?_ ?_ (by simp) <;> (try simp only [push_cast, Nat.reduceBEq, Nat.reduceLeDiff, Nat.reduceAdd]) <;> (repeat' (first | exact trivial | (refine cv_ptE rfl rfl rfl rfl rfl ?_; simp only [push_cast, Nat.reduceBEq, Nat.reduceLeDiff, Nat.reduceAdd]) | exact cv_slE rfl rfl ⟨rfl, rfl⟩ (by simp) (by simp [take_map_len]) | exact cv_slG rfl rfl ⟨rfl, rfl⟩ (by simp) (by first | rfl | (simp; done)) (by first | rfl | (simp; done) | (simp; omega)) (by simp [push_cast]) | exact cv_ros_self (by simp [push_cast]) | exact bel_ros_cl (by simp [push_cast]) | exact cellsCv_eq (by simp [take_map_len]) (by simp [push_cast]) | refine And.intro ?_ ?_ | rfl | omega | (simp; done) | (simp; omega))); done) | (refine Wk.ren (fun i => i == 2) (fun i => (bif i == 0 then 16 else i)) (by simp) (by simp) ?_ ?_ (by simp) <;> (try simp only [push_cast, Nat.reduceBEq, Nat.reduceLeDiff, Nat.reduceAdd]) <;> (repeat' (first | exact trivial | (refine cv_ptE rfl rfl rfl rfl rfl ?_; simp only [push_cast, Nat.reduceBEq, Nat.reduceLeDiff, Nat.reduceAdd]) | exact cv_slE rfl rfl ⟨rfl, rfl⟩ (by simp) (by simp [take_map_len]) | exact cv_slG rfl rfl ⟨rfl, rfl⟩ (by simp) (by first | rfl | (simp; done)) (by first | rfl | (simp; done) | (simp; omega)) (by simp [push_cast]) | exact cv_ros_self (by simp [push_cast]) | exact bel_ros_cl (by simp [push_cast]) | exact cellsCv_eq (by simp [take_map_len]) (by simp [push_cast]) | refine And.intro ?_ ?_ | rfl | omega | (simp; done) | (simp; omega))); done) | (refine Wk.ren (fun i => i == 2) (fun i => (bif i == 1 then 20 else (bif i == 0 then 16 else i))) (by simp) (by simp) ?_ ?_ (by simp) <;> (try simp only [push_cast, Nat.reduceBEq, Nat.reduceLeDiff, Nat.reduceAdd]) <;> (repeat' (first | exact trivial | (refine cv_ptE rfl rfl rfl rfl rfl ?_; simp only [push_cast, Nat.reduceBEq, Nat.reduceLeDiff, Nat.reduceAdd]) | exact cv_slE rfl rfl ⟨rfl, rfl⟩ (by simp) (by simp [take_map_len]) | exact cv_slG rfl rfl ⟨rfl, rfl⟩ (by simp) (by first | rfl | (simp; done)) (by first | rfl | (simp; done) | (simp; omega)) (by simp [push_cast]) | exact cv_ros_self (by simp [push_cast]) | exact bel_ros_cl (by simp [push_cast]) | exact cellsCv_eq (by simp [take_map_len]) (by simp [push_cast]) | refine And.intro ?_ ?_ | rfl | omega | (simp; done) | (simp; omega))); done))
  · have k2 := clone1_cons i j (by simp at hlen; omega)
    rcases hO with rfl | rfl <;> subst hQ <;> simp only [clV, clR]
    all_goals
    refine SCall.r ?_ (look_lt (by first | rfl | simp [accR, List.all_append, all_accR]))
    obtain ⟨c, hb, hl⟩ := l53
    refine scall_of mixed e53 hb rfl hl r53 (by rw [n53]; simp) ?_
    clear hb hl c
    (try simp only [push_cast, seval, reduceCtorEq, hb])
    repeat' (first
      | ((first | ((first | refine brX_split ?_ ?_ | refine gX_split ?_ ?_ | refine hX_split ?_ ?_ | refine outK_split ?_ ?_) <;> (intro xc; (try simp only [Bool.not_eq_true', Bool.not_eq_false'] at xc); have xp := xc; (try simp only [decide_eq_true_eq, decide_eq_false_iff_not, Int.not_lt, Int.not_le, ge_iff_le, gt_iff_lt, Bool.and_eq_true, Bool.or_eq_false_iff] at xp); have xq := xp; (first | simp only [← Int.not_le] at xq | simp only [← Int.not_lt] at xq | clear xq))) | refine ⟨.ret _, _, PCall.s (by first | assumption | exact clone6_nil | exact clone6_roe | exact k2) (by simp [push_cast, hb]), ?_⟩ | refine ⟨.ret _, _, RCall.s (RCall.sh (by first | assumption | exact clone6_nil | exact clone6_roe | exact k2)) (by simp [push_cast, hb]), ?_⟩ | refine ⟨_, _, SCall.lift (by first | assumption | exact clone6_nil | exact clone6_roe | exact k2) (outR_cl (by simp [push_cast]) (by simp [push_cast])) (by simp [push_cast, hb]), ?_⟩ | refine ⟨_, (by first | assumption | exact clone6_nil | exact clone6_roe | exact k2), ?_⟩ | refine ⟨0, [], _, PCall.r (by first | assumption | exact clone6_nil | exact clone6_roe | exact k2), ?_⟩ | refine ⟨_, _, (by first | assumption | exact clone6_nil | exact clone6_roe | exact k2), ?_⟩ | refine ⟨_, _, _, RCall.sh (by first | assumption | exact clone6_nil | exact clone6_roe | exact k2), ?_⟩ | refine ⟨_, _, _, (by first | assumption | exact clone6_nil | exact clone6_roe | exact k2), ?_⟩ | ((fail_if_success (refine ⟨_, ?_, ?_⟩)); refine ⟨AV.any, ?_⟩) | refine ret_frz rfl ?_ (by simp [push_cast]) (by simp [push_cast, hb]) (by simp [push_cast, hb]) | refine end_frz rfl ?_ (by simp [push_cast]) (by simp [push_cast, hb]) (by simp [push_cast, hb]) | refine ret_now (by simp [push_cast]) ?_ (by simp [push_cast]) | refine end_now (by simp [push_cast]) ?_ (by simp [push_cast])) <;> (try simp only [push_cast, seval, reduceCtorEq, *, hb]))
      | ((first | refine cv_ptE rfl rfl rfl rfl rfl ?_ | refine outQ_frz rfl ?_ (by simp [push_cast]) (by simp [push_cast, hb]) | refine dfr_end (by simp) rfl ?_ (by simp [push_cast]) (by simp [push_cast, hb])) <;> (try simp only [push_cast, seval, reduceCtorEq, hb]))
      | exact cv_slE rfl rfl ⟨rfl, rfl⟩ (by simp) (by simp [take_map_len])
      | refine outQ_pan ?_ (by simp [push_cast])
      | refine outQ_unit ?_
      | refine outQ_unitN ?_
      | refine And.intro ?_ ?_
      | omega)
    all_goals (try simp only [push_cast, seval, reduceCtorEq, hb])
    all_goals first
      | (simp only [*, hb]; done)
      | (simp [*, hb]; done)
      | (simp_all [hb]; done)
      | (simp_all [hb]; omega)
      | skip
    all_goals (refine outQ_ret rfl ?_ (by simp [push_cast]) (by simp [push_cast]); first | (refine Wk.ren (fun i => i == 2) (fun i => (bif i == 1 then 19 else i)) (by simp) (by simp) ?_ ?_ (by simp) <;> (try simp only [push_cast, Nat.reduceBEq, Nat.reduceLeDiff, Nat.reduceAdd]) <;> (repeat' (first | exact trivial | (refine cv_ptE rfl rfl rfl rfl rfl ?_; simp only [push_cast, Nat.reduceBEq, Nat.reduceLeDiff, Nat.reduceAdd]) | exact cv_slE rfl rfl ⟨rfl, rfl⟩ (by simp) (by simp [take_map_len]) | exact cv_slG rfl rfl ⟨rfl, rfl⟩ (by simp) (by first | rfl | (simp; done)) (by first | rfl | (simp; done) | (simp; omega)) (by simp [push_cast]) | exact cv_ros_self (by simp [push_cast]) | exact bel_ros_cl (by simp [push_cast]) | exact cellsCv_eq (by simp [take_map_len]) (by simp [push_cast]) | refine And.intro ?_ ?_ | rfl | omega | (simp; done) | (simp; omega))); done) | (refine Wk.ren (fun i => i == 2) (fun i => (bif i == 1 then 20 else (bif i == 0 then 16 else i))) (by simp) (by simp) ?_ ?_ (by simp) <;> (try simp only [push_cast, Nat.reduceBEq, Nat.reduceLeDiff, Nat.reduceAdd]) <;> (repeat' (first | exact trivial | (refine cv_ptE rfl rfl rfl rfl rfl ?_; simp only [push_cast, Nat.reduceBEq, Nat.reduceLeDiff, Nat.reduceAdd]) | exact cv_slE rfl rfl ⟨rfl, rfl⟩ (by simp) (by simp [take_map_len]) | exact cv_slG rfl rfl ⟨rfl, rfl⟩ (by simp) (by first | rfl | (simp; done)) (by first | rfl | (simp; done) | (simp; omega)) (by simp [push_cast]) | exact cv_ros_self (by simp [push_cast]) | exact bel_ros_cl (by simp [push_cast]) | exact cellsCv_eq (by simp [take_map_len]) (by simp [push_cast]) | refine And.intro ?_ ?_ | rfl | omega | (simp; done) | (simp; omega))); done))
  · have k1 := clone6_cons o l (by simp at hlen; omega)
    rcases hQ with rfl | rfl <;> subst hO <;> simp only [clV, clR]
    all_goals
    refine SCall.r ?_ (look_lt (by first | rfl | simp [accR, List.all_append, all_accR]))
    obtain ⟨c, hb, hl⟩ := l53
    refine scall_of mixed e53 hb rfl hl r53 (by rw [n53]; simp) ?_
    clear hb hl c
    (try simp only [push_cast, seval, reduceCtorEq, hb])
    repeat' (first
      | ((first | ((first | refine brX_split ?_ ?_ | refine gX_split ?_ ?_ | refine hX_split ?_ ?_ | refine outK_split ?_ ?_) <;> (intro xc; (try simp only [Bool.not_eq_true', Bool.not_eq_false'] at xc); have xp := xc; (try simp only [decide_eq_true_eq, decide_eq_false_iff_not, Int.not_lt, Int.not_le, ge_iff_le, gt_iff_lt, Bool.and_eq_true, Bool.or_eq_false_iff] at xp); have xq := xp; (first | simp only [← Int.not_le] at xq | simp only [← Int.not_lt] at xq | clear xq))) | refine ⟨.ret _, _, PCall.s (by first | assumption | exact clone1_nil | exact clone1_roe | exact k1) (by simp [push_cast, hb]), ?_⟩ | refine ⟨.ret _, _, RCall.s (RCall.sh (by first | assumption | exact clone1_nil | exact clone1_roe | exact k1)) (by simp [push_cast, hb]), ?_⟩ | refine ⟨_, _, SCall.lift (by first | assumption | exact clone1_nil | exact clone1_roe | exact k1) (outR_cl (by simp [push_cast]) (by simp [push_cast])) (by simp [push_cast, hb]), ?_⟩ | refine ⟨_, (by first | assumption | exact clone1_nil | exact clone1_roe | exact k1), ?_⟩ | refine ⟨0, [], _, PCall.r (by first | assumption | exact clone1_nil | exact clone1_roe | exact k1), ?_⟩ | refine ⟨_, _, (by first | assumption | exact clone1_nil | exact clone1_roe | exact k1), ?_⟩ | refine ⟨_, _, _, RCall.sh (by first | assumption | exact clone1_nil | exact clone1_roe | exact k1), ?_⟩ | refine ⟨_, _, _, (by first | assumption | exact clone1_nil | exact clone1_roe | exact k1), ?_⟩ | ((fail_if_success (refine ⟨_, ?_, ?_⟩)); refine ⟨AV.any, ?_⟩) | refine ret_frz rfl ?_ (by simp [push_cast]) (by simp [push_cast, hb]) (by simp [push_cast, hb]) | refine end_frz rfl ?_ (by simp [push_cast]) (by simp [push_cast, hb]) (by simp [push_cast, hb]) | refine ret_now (by simp [push_cast]) ?_ (by simp [push_cast]) | refine end_now (by simp [push_cast]) ?_ (by simp [push_cast])) <;> (try simp only [push_cast, seval, reduceCtorEq, *, hb]))
      | ((first | refine cv_ptE rfl rfl rfl rfl rfl ?_ | refine outQ_frz rfl ?_ (by simp [push_cast]) (by simp [push_cast, hb]) | refine dfr_end (by simp) rfl ?_ (by simp [push_cast]) (by simp [push_cast, hb])) <;> (try simp only [push_cast, seval, reduceCtorEq, hb]))
      | exact cv_slE rfl rfl ⟨rfl, rfl⟩ (by simp) (by simp [take_map_len])
      | refine outQ_pan ?_ (by simp [push_cast])
      | refine outQ_unit ?_
      | refine outQ_unitN ?_
      | refine And.intro ?_ ?_
      | omega)
    all_goals (try simp only [push_cast, seval, reduceCtorEq, hb])
    all_goals first
      | (simp only [*, hb]; done)
      | (simp [*, hb]; done)
      | (simp_all [hb]; done)
      | (simp_all [hb]; omega)
      | skip
    all_goals (refine outQ_ret rfl ?_ (by simp [push_cast]) (by simp [push_cast]); first | (refine Wk.ren (fun i => i == 2) (fun i => (bif i == 0 then 16 else i)) (by simp) (by simp) ?_ ?_ (by simp) <;> (try simp only [push_cast, Nat.reduceBEq, Nat.reduceLeDiff, Nat.reduceAdd]) <;> (repeat' (first | exact trivial | (refine cv_ptE rfl rfl rfl rfl rfl ?_; simp only [push_cast, Nat.reduceBEq, Nat.reduceLeDiff, Nat.reduceAdd]) | exact cv_slE rfl rfl ⟨rfl, rfl⟩ (by simp) (by simp [take_map_len]) | exact cv_slG rfl rfl ⟨rfl, rfl⟩ (by simp) (by first | rfl | (simp; done)) (by first | rfl | (simp; done) | (simp; omega)) (by simp [push_cast]) | exact cv_ros_self (by simp [push_cast]) | exact bel_ros_cl (by simp [push_cast]) | exact cellsCv_eq (by simp [take_map_len]) (by simp [push_cast]) | refine And.intro ?_ ?_ | rfl | omega | (simp; done) | (simp; omega))); done) | (refine Wk.ren (fun i => i == 2) (fun i => (bif i == 1 then 20 else (bif i == 0 then 16 else i))) (by simp) (by simp) ?_ ?_ (by simp) <;> (try simp only [push_cast, Nat.reduceBEq, Nat.reduceLeDiff, Nat.reduceAdd]) <;> (repeat' (first | exact trivial | (refine cv_ptE rfl rfl rfl rfl rfl ?_; simp only [push_cast, Nat.reduceBEq, Nat.reduceLeDiff, Nat.reduceAdd]) | exact cv_slE rfl rfl ⟨rfl, rfl⟩ (by simp) (by simp [take_map_len]) | exact cv_slG rfl rfl ⟨rfl, rfl⟩ (by simp) (by first | rfl | (simp; done)) (by first | rfl | (simp; done) | (simp; omega)) (by simp [push_cast]) | exact cv_ros_self (by simp [push_cast]) | exact bel_ros_cl (by simp [push_cast]) | exact cellsCv_eq (by simp [take_map_len]) (by simp [push_cast]) | refine And.intro ?_ ?_ | rfl | omega | (simp; done) | (simp; omega))); done))
  · subst hO; subst hQ
    have k1 := clone6_cons o l (by simp at hlen; omega)
    have k2 := clone1_cons i j (by simp at hlen; omega)
    simp only [clV, clR]
    refine SCall.r ?_ (look_lt (by first | rfl | simp [accR, List.all_append, all_accR]))
    obtain ⟨c, hb, hl⟩ := l53
    refine scall_of mixed e53 hb rfl hl r53 (by rw [n53]; simp) ?_
    clear hb hl c
    (try simp only [push_cast, seval, reduceCtorEq, hb])
    repeat' (first
      | ((first | ((first | refine brX_split ?_ ?_ | refine gX_split ?_ ?_ | refine hX_split ?_ ?_ | refine outK_split ?_ ?_) <;> (intro xc; (try simp only [Bool.not_eq_true', Bool.not_eq_false'] at xc); have xp := xc; (try simp only [decide_eq_true_eq, decide_eq_false_iff_not, Int.not_lt, Int.not_le, ge_iff_le, gt_iff_lt, Bool.and_eq_true, Bool.or_eq_false_iff] at xp); have xq := xp; (first | simp only [← Int.not_le] at xq | simp only [← Int.not_lt] at xq | clear xq))) | refine ⟨.ret _, _, PCall.s (by first | assumption | exact k1 | exact k2) (by simp [push_cast, hb]), ?_⟩ | refine ⟨.ret _, _, RCall.s (RCall.sh (by first | assumption | exact k1 | exact k2)) (by simp [push_cast, hb]), ?_⟩ | refine ⟨_, _, SCall.lift (by first | assumption | exact k1 | exact k2) (outR_cl (by simp [push_cast]) (by simp [push_cast])) (by simp [push_cast, hb]), ?_⟩ | refine ⟨_, (by first | assumption | exact k1 | exact k2), ?_⟩ | refine ⟨0, [], _, PCall.r (by first | assumption | exact k1 | exact k2), ?_⟩ | refine ⟨_, _, (by first | assumption | exact k1 | exact k2), ?_⟩ | refine ⟨_, _, _, RCall.sh (by first | assumption | exact k1 | exact k2), ?_⟩ | refine ⟨_, _, _, (by first | assumption | exact k1 | exact k2), ?_⟩ | ((fail_if_success (refine ⟨_, ?_, ?_⟩)); refine ⟨AV.any, ?_⟩) | refine ret_frz rfl ?_ (by simp [push_cast]) (by simp [push_cast, hb]) (by simp [push_cast, hb]) | refine end_frz rfl ?_ (by simp [push_cast]) (by simp [push_cast, hb]) (by simp [push_cast, hb]) | refine ret_now (by simp [push_cast]) ?_ (by simp [push_cast]) | refine end_now (by simp [push_cast]) ?_ (by simp [push_cast])) <;> (try simp only [push_cast, seval, reduceCtorEq, *, hb]))
      | ((first | refine cv_ptE rfl rfl rfl rfl rfl ?_ | refine outQ_frz rfl ?_ (by simp [push_cast]) (by simp [push_cast, hb]) | refine dfr_end (by simp) rfl ?_ (by simp [push_cast]) (by simp [push_cast, hb])) <;> (try simp only [push_cast, seval, reduceCtorEq, hb]))
      | exact cv_slE rfl rfl ⟨rfl, rfl⟩ (by simp) (by simp [take_map_len])
      | refine outQ_pan ?_ (by simp [push_cast])
      | refine outQ_unit ?_
      | refine outQ_unitN ?_
      | refine And.intro ?_ ?_
      | omega)
    all_goals (try simp only [push_cast, seval, reduceCtorEq, hb])
    all_goals first
      | (simp only [*, hb]; done)
      | (simp [*, hb]; done)
      | (simp_all [hb]; done)
      | (simp_all [hb]; omega)
      | skip
    all_goals (refine outQ_ret rfl ?_ (by simp [push_cast]) (by simp [push_cast]); refine Wk.ren (fun i => i == 2) (fun i => (bif i == 1 then 20 else (bif i == 0 then 16 else i))) (by simp) (by simp) ?_ ?_ (by simp) <;> (try simp only [push_cast, Nat.reduceBEq, Nat.reduceLeDiff, Nat.reduceAdd]) <;> (repeat' (first | exact trivial | (refine cv_ptE rfl rfl rfl rfl rfl ?_; simp only [push_cast, Nat.reduceBEq, Nat.reduceLeDiff, Nat.reduceAdd]) | exact cv_slE rfl rfl ⟨rfl, rfl⟩ (by simp) (by simp [take_map_len]) | exact cv_slG rfl rfl ⟨rfl, rfl⟩ (by simp) (by first | rfl | (simp; done)) (by first | rfl | (simp; done) | (simp; omega)) (by simp [push_cast]) | exact cv_ros_self (by simp [push_cast]) | exact bel_ros_cl (by simp [push_cast]) | exact cellsCv_eq (by simp [take_map_len]) (by simp [push_cast]) | refine And.intro ?_ ?_ | rfl | omega | (simp; done) | (simp; omega))))
end Go.Proofs.Ytffiicopifmmfaa
