/- Facts of the program over abstract values. No condition. -/
import Derived.Test.YtffiicopifmmfaaYi
import Derived.Test.YtffiicopifmmfaaYl
set_option linter.unusedSimpArgs false
set_option linter.unusedVariables false
set_option maxRecDepth 8000
namespace Go.Proofs.Ytffiicopifmmfaa
set_option linter.unusedSimpArgs false
set_option linter.unusedVariables false
set_option linter.unnecessarySimpa false
set_option linter.unusedSectionVars false
open Go.Proofs.Try
open Go.Proofs.Ytffiicopifmmfaa.Ai
set_option maxHeartbeats 4000000

/-! Scripts of calls -/
theorem nilBk {rows : Ai.Rows} {Z : Nat → Bool} {rho : Nat → Nat} {n : Nat} : cellsCv rows Z rho n [[.nils, .nils, .int .u64 0, .int .i64 0]] [bkc zB] := by
  refine ⟨⟨⟨.nilsR 6, .nilsR 1, .int _ _, .int _ _, trivial⟩, trivial⟩, ?_⟩
  intro x hx v hv
  have := cl_bk zB
  rw [cl_agg] at this
  simp only [List.mem_cons, List.not_mem_nil, or_false] at hx
  subst hx
  exact (this v hv).bel
theorem law_plays (m : Tm) (ht : Tfit m) (xs : List Cc) (hx : okCalls xs) (hl : xs.length < 2 ^ 43) : PCall prog 7 [.agg (tmc m), .ros 5 (xs.map clc)] (.bool true) := by
  by_cases h300 : xs.length ≤ 300
  case neg =>
    have hd : decide ((xs.length : Int) > 300) = true := by simp; omega
    obtain ⟨c, hb, hl⟩ := l7
    refine pcall_of mixed e7 hb rfl hl r7 (by rw [n7]; simp) ?_
    clear hb hl c
    (try simp only [push_cast, seval, reduceCtorEq, hd])
    repeat' (first
      | ((first | ((first | refine brX_split ?_ ?_ | refine gX_split ?_ ?_ | refine hX_split ?_ ?_ | refine outK_split ?_ ?_) <;> (intro xc; (try simp only [Bool.not_eq_true', Bool.not_eq_false'] at xc); have xp := xc; (try simp only [decide_eq_true_eq, decide_eq_false_iff_not, Int.not_lt, Int.not_le, ge_iff_le, gt_iff_lt, Bool.and_eq_true, Bool.or_eq_false_iff] at xp); have xq := xp; (first | simp only [← Int.not_le] at xq | simp only [← Int.not_lt] at xq | clear xq))) | ((fail_if_success (refine ⟨_, ?_, ?_⟩)); refine ⟨AV.any, ?_⟩) | refine ret_frz rfl ?_ (by simp [push_cast]) (by simp [push_cast, hd]) (by simp [push_cast, hd]) | refine end_frz rfl ?_ (by simp [push_cast]) (by simp [push_cast, hd]) (by simp [push_cast, hd]) | refine ret_now (by simp [push_cast]) ?_ (by simp [push_cast]) | refine end_now (by simp [push_cast]) ?_ (by simp [push_cast])) <;> (try simp only [push_cast, seval, reduceCtorEq, *, hd]))
      | ((first | refine cv_ptE rfl rfl rfl rfl rfl ?_ | refine outQ_frz rfl ?_ (by simp [push_cast]) (by simp [push_cast, hd]) | refine dfr_end (by simp) rfl ?_ (by simp [push_cast]) (by simp [push_cast, hd])) <;> (try simp only [push_cast, seval, reduceCtorEq, hd]))
      | exact cv_slE rfl rfl ⟨rfl, rfl⟩ (by simp) (by simp [take_map_len])
      | refine outQ_pan ?_ (by simp [push_cast])
      | refine outQ_unit ?_
      | refine outQ_unitN ?_
      | refine And.intro ?_ ?_
      | omega)
    all_goals (try simp only [push_cast, seval, reduceCtorEq, hd])
    all_goals first
      | (simp only [*, hd]; done)
      | (simp [*, hd]; done)
      | (simp_all [hd]; done)
      | (simp_all [hd]; omega)
      | skip
  have hd : decide ((xs.length : Int) > 300) = false := by simp; omega
  have hd2 : decide ((300 : Int) < xs.length) = false := by simp; omega
  obtain ⟨c, hb, hl⟩ := l7
  refine pcall_of mixed e7 hb rfl hl r7 (by rw [n7]; simp) ?_
  clear hb hl c
  (try simp only [push_cast, seval, reduceCtorEq, hd, hd2])
  repeat' (first
    | ((first | ((first | refine brX_split ?_ ?_ | refine gX_split ?_ ?_ | refine hX_split ?_ ?_ | refine outK_split ?_ ?_) <;> (intro xc; (try simp only [Bool.not_eq_true', Bool.not_eq_false'] at xc); have xp := xc; (try simp only [decide_eq_true_eq, decide_eq_false_iff_not, Int.not_lt, Int.not_le, ge_iff_le, gt_iff_lt, Bool.and_eq_true, Bool.or_eq_false_iff] at xp); have xq := xp; (first | simp only [← Int.not_le] at xq | simp only [← Int.not_lt] at xq | clear xq))) | ((fail_if_success (refine ⟨_, ?_, ?_⟩)); refine ⟨AV.any, ?_⟩) | refine ret_frz rfl ?_ (by simp [push_cast]) (by simp [push_cast, hd, hd2]) (by simp [push_cast, hd, hd2]) | refine end_frz rfl ?_ (by simp [push_cast]) (by simp [push_cast, hd, hd2]) (by simp [push_cast, hd, hd2]) | refine ret_now (by simp [push_cast]) ?_ (by simp [push_cast]) | refine end_now (by simp [push_cast]) ?_ (by simp [push_cast])) <;> (try simp only [push_cast, seval, reduceCtorEq, *, hd, hd2]))
    | ((first | refine cv_ptE rfl rfl rfl rfl rfl ?_ | refine outQ_frz rfl ?_ (by simp [push_cast]) (by simp [push_cast, hd, hd2]) | refine dfr_end (by simp) rfl ?_ (by simp [push_cast]) (by simp [push_cast, hd, hd2])) <;> (try simp only [push_cast, seval, reduceCtorEq, hd, hd2]))
    | exact cv_slE rfl rfl ⟨rfl, rfl⟩ (by simp) (by simp [take_map_len])
    | refine outQ_pan ?_ (by simp [push_cast])
    | refine outQ_unit ?_
    | refine outQ_unitN ?_
    | refine And.intro ?_ ?_
    | omega)
  all_goals (try simp only [push_cast, seval, reduceCtorEq, hd, hd2])
  all_goals first
    | (simp only [*, hd, hd2]; done)
    | (simp [*, hd, hd2]; done)
    | (simp_all [hd, hd2]; done)
    | (simp_all [hd, hd2]; omega)
    | skip
  refine w_loopS (fun k : Nat => ([(1, .ros 5 (xs.map clc)), (2, .pt 0 8 0 0), (5, .pt 1 4 0 0), (6, .pt 2 4 0 0), (7, .int .i64 k)], ⟨3, [(0, ⟨8, [tmc m]⟩), (1, ⟨4, [bkc (plB m xs k)]⟩), (2, ⟨4, [bkc (plB m xs k)]⟩)]⟩)) (fun k => k ≤ xs.length) (fun k => xs.length - k) 0 (Nat.zero_le _) ?_ ?_
  · simp only [plB]
    refine Wk.ren (fun _ => false) (fun i => (bif i == 2 then 8 else (bif i == 1 then 7 else i))) (by simp) (by simp) ?_ ?_ (by simp) <;> (try simp only [push_cast, Nat.reduceBEq, Nat.reduceLeDiff, Nat.reduceAdd]) <;> (repeat' (first | exact trivial | (refine cv_ptE rfl rfl rfl rfl rfl ?_; simp only [push_cast, Nat.reduceBEq, Nat.reduceLeDiff, Nat.reduceAdd]) | exact cv_slE rfl rfl ⟨rfl, rfl⟩ (by simp) (by simp [take_map_len]) | exact cv_slG rfl rfl ⟨rfl, rfl⟩ (by simp) (by first | rfl | (simp; done)) (by first | rfl | (simp; done) | (simp; omega)) (by simp [push_cast]) | exact cv_ros_self (by simp [push_cast]) | exact bel_ros_cl (by simp [push_cast]) | exact nilBk | exact cellsCv_eq (by simp [take_map_len]) (by simp [push_cast]) | refine And.intro ?_ ?_ | rfl | omega | (simp; done) | (simp; omega)))
  intro k hk
  obtain ⟨s1, s2⟩ := plB_small (m := m) hx hk
  have hf : Fit (plB m xs k) m := ht.fit (by omega) (by omega)
  rcases Nat.lt_or_ge k xs.length with hk' | hk'
  · obtain ⟨x, hxk⟩ := lt_get hk'
    obtain ⟨n1, n2⟩ := hx.at hxk
    have c1 := program_p hf x n1
    have c2 := specified_p hf x n1 n2
    have hR := prog_small (b := plB m xs k) (m := m) n1 n2
    have c3 := same_p (progR (plB m xs k) m x) (by omega) (by omega)
    have c4 := changes_p x
    have hs := plB_step (m := m) hxk
    have hg := getD_map (enc := clc) hxk
    have hd := dlt hk'
    have hw := inc64 (k := k) (by omega)
    clear hx ht hf
    by_cases a2 : (progR (plB m xs k) m x).e = 0
    · by_cases a1 : x.dv.tmod 7 ≤ 4
      all_goals
        simp only [a1, a2, decide_true, decide_false, Bool.and_true, Bool.and_false, Bool.true_and, Bool.false_and, cond_true, cond_false] at hs c4
        generalize progR (plB m xs k) m x = R at *
        generalize hB : plB m xs k = B at *
        obtain ⟨Rb, Rid, Ro, Rt, Re⟩ := R
        simp only at a2 hs
        subst a2
        (try simp only [push_cast, seval, reduceCtorEq, hg, hd, hw])
        repeat' (first
          | ((first | ((first | refine brX_split ?_ ?_ | refine gX_split ?_ ?_ | refine hX_split ?_ ?_ | refine outK_split ?_ ?_) <;> (intro xc; (try simp only [Bool.not_eq_true', Bool.not_eq_false'] at xc); have xp := xc; (try simp only [decide_eq_true_eq, decide_eq_false_iff_not, Int.not_lt, Int.not_le, ge_iff_le, gt_iff_lt, Bool.and_eq_true, Bool.or_eq_false_iff] at xp); have xq := xp; (first | simp only [← Int.not_le] at xq | simp only [← Int.not_lt] at xq | clear xq))) | refine ⟨.ret _, _, PCall.s (by first | assumption) (by simp [push_cast, hg, hd, hw]), ?_⟩ | refine ⟨.ret _, _, RCall.s (RCall.sh (by first | assumption)) (by simp [push_cast, hg, hd, hw]), ?_⟩ | refine ⟨_, _, SCall.lift (by first | assumption) (outR_cl (by simp [push_cast]) (by simp [push_cast])) (by simp [push_cast, hg, hd, hw]), ?_⟩ | refine ⟨_, (by first | assumption), ?_⟩ | refine ⟨0, [], _, PCall.r (by first | assumption), ?_⟩ | refine ⟨_, _, (by first | assumption), ?_⟩ | refine ⟨_, _, _, RCall.sh (by first | assumption), ?_⟩ | refine ⟨_, _, _, (by first | assumption), ?_⟩ | ((fail_if_success (refine ⟨_, ?_, ?_⟩)); refine ⟨AV.any, ?_⟩) | refine ret_frz rfl ?_ (by simp [push_cast]) (by simp [push_cast, hg, hd, hw]) (by simp [push_cast, hg, hd, hw]) | refine end_frz rfl ?_ (by simp [push_cast]) (by simp [push_cast, hg, hd, hw]) (by simp [push_cast, hg, hd, hw]) | refine ret_now (by simp [push_cast]) ?_ (by simp [push_cast]) | refine end_now (by simp [push_cast]) ?_ (by simp [push_cast])) <;> (try simp only [push_cast, seval, reduceCtorEq, *, hg, hd, hw]))
          | ((first | refine cv_ptE rfl rfl rfl rfl rfl ?_ | refine outQ_frz rfl ?_ (by simp [push_cast]) (by simp [push_cast, hg, hd, hw]) | refine dfr_end (by simp) rfl ?_ (by simp [push_cast]) (by simp [push_cast, hg, hd, hw])) <;> (try simp only [push_cast, seval, reduceCtorEq, hg, hd, hw]))
          | exact cv_slE rfl rfl ⟨rfl, rfl⟩ (by simp) (by simp [take_map_len])
          | refine outQ_pan ?_ (by simp [push_cast])
          | refine outQ_unit ?_
          | refine outQ_unitN ?_
          | refine And.intro ?_ ?_
          | omega)
        all_goals (try simp only [push_cast, seval, reduceCtorEq, hg, hd, hw])
        all_goals first
          | (simp only [*, hg, hd, hw]; done)
          | (simp [*, hg, hd, hw]; done)
          | (simp_all [hg, hd, hw]; done)
          | (simp_all [hg, hd, hw]; omega)
          | skip
        all_goals
          (refine rnd_to _ _ _ (k + 1) hk' (by first | omega | (dsimp only; omega)) ?_; (try simp [hs, hB, List.map_append, accV, accR, accV_snoc, accR_snoc, List.length_append, *]); refine Wk.ren (fun _ => false) (fun i => i) (by simp) (by simp) ?_ ?_ (by simp) <;> (try simp only [push_cast, Nat.reduceBEq, Nat.reduceLeDiff, Nat.reduceAdd]) <;> (repeat' (first | exact trivial | (refine cv_ptE rfl rfl rfl rfl rfl ?_; simp only [push_cast, Nat.reduceBEq, Nat.reduceLeDiff, Nat.reduceAdd]) | exact cv_slE rfl rfl ⟨rfl, rfl⟩ (by simp) (by simp [take_map_len]) | exact cv_slG rfl rfl ⟨rfl, rfl⟩ (by simp) (by first | rfl | (simp; done)) (by first | rfl | (simp; done) | (simp; omega)) (by simp [push_cast]) | exact cv_ros_self (by simp [push_cast]) | exact bel_ros_cl (by simp [push_cast]) | exact nilBk | exact cellsCv_eq (by simp [take_map_len]) (by simp [push_cast]) | refine And.intro ?_ ?_ | rfl | omega | (simp; done) | (simp; omega))))
    · by_cases a1 : x.dv.tmod 7 ≤ 4
      all_goals
        simp only [a1, a2, decide_true, decide_false, Bool.and_true, Bool.and_false, Bool.true_and, Bool.false_and, cond_true, cond_false] at hs c4
        generalize progR (plB m xs k) m x = R at *
        generalize hB : plB m xs k = B at *
        (try simp only [push_cast, seval, reduceCtorEq, hg, hd, hw, a2])
        repeat' (first
          | ((first | ((first | refine brX_split ?_ ?_ | refine gX_split ?_ ?_ | refine hX_split ?_ ?_ | refine outK_split ?_ ?_) <;> (intro xc; (try simp only [Bool.not_eq_true', Bool.not_eq_false'] at xc); have xp := xc; (try simp only [decide_eq_true_eq, decide_eq_false_iff_not, Int.not_lt, Int.not_le, ge_iff_le, gt_iff_lt, Bool.and_eq_true, Bool.or_eq_false_iff] at xp); have xq := xp; (first | simp only [← Int.not_le] at xq | simp only [← Int.not_lt] at xq | clear xq))) | refine ⟨.ret _, _, PCall.s (by first | assumption) (by simp [push_cast, hg, hd, hw, a2]), ?_⟩ | refine ⟨.ret _, _, RCall.s (RCall.sh (by first | assumption)) (by simp [push_cast, hg, hd, hw, a2]), ?_⟩ | refine ⟨_, _, SCall.lift (by first | assumption) (outR_cl (by simp [push_cast]) (by simp [push_cast])) (by simp [push_cast, hg, hd, hw, a2]), ?_⟩ | refine ⟨_, (by first | assumption), ?_⟩ | refine ⟨0, [], _, PCall.r (by first | assumption), ?_⟩ | refine ⟨_, _, (by first | assumption), ?_⟩ | refine ⟨_, _, _, RCall.sh (by first | assumption), ?_⟩ | refine ⟨_, _, _, (by first | assumption), ?_⟩ | ((fail_if_success (refine ⟨_, ?_, ?_⟩)); refine ⟨AV.any, ?_⟩) | refine ret_frz rfl ?_ (by simp [push_cast]) (by simp [push_cast, hg, hd, hw, a2]) (by simp [push_cast, hg, hd, hw, a2]) | refine end_frz rfl ?_ (by simp [push_cast]) (by simp [push_cast, hg, hd, hw, a2]) (by simp [push_cast, hg, hd, hw, a2]) | refine ret_now (by simp [push_cast]) ?_ (by simp [push_cast]) | refine end_now (by simp [push_cast]) ?_ (by simp [push_cast])) <;> (try simp only [push_cast, seval, reduceCtorEq, *, hg, hd, hw, a2]))
          | ((first | refine cv_ptE rfl rfl rfl rfl rfl ?_ | refine outQ_frz rfl ?_ (by simp [push_cast]) (by simp [push_cast, hg, hd, hw, a2]) | refine dfr_end (by simp) rfl ?_ (by simp [push_cast]) (by simp [push_cast, hg, hd, hw, a2])) <;> (try simp only [push_cast, seval, reduceCtorEq, hg, hd, hw, a2]))
          | exact cv_slE rfl rfl ⟨rfl, rfl⟩ (by simp) (by simp [take_map_len])
          | refine outQ_pan ?_ (by simp [push_cast])
          | refine outQ_unit ?_
          | refine outQ_unitN ?_
          | refine And.intro ?_ ?_
          | omega)
        all_goals (try simp only [push_cast, seval, reduceCtorEq, hg, hd, hw, a2])
        all_goals first
          | (simp only [*, hg, hd, hw, a2]; done)
          | (simp [*, hg, hd, hw, a2]; done)
          | (simp_all [hg, hd, hw, a2]; done)
          | (simp_all [hg, hd, hw, a2]; omega)
          | skip
        all_goals
          (refine rnd_to _ _ _ (k + 1) hk' (by first | omega | (dsimp only; omega)) ?_; (try simp [hs, hB, List.map_append, accV, accR, accV_snoc, accR_snoc, List.length_append, *]); refine Wk.ren (fun _ => false) (fun i => i) (by simp) (by simp) ?_ ?_ (by simp) <;> (try simp only [push_cast, Nat.reduceBEq, Nat.reduceLeDiff, Nat.reduceAdd]) <;> (repeat' (first | exact trivial | (refine cv_ptE rfl rfl rfl rfl rfl ?_; simp only [push_cast, Nat.reduceBEq, Nat.reduceLeDiff, Nat.reduceAdd]) | exact cv_slE rfl rfl ⟨rfl, rfl⟩ (by simp) (by simp [take_map_len]) | exact cv_slG rfl rfl ⟨rfl, rfl⟩ (by simp) (by first | rfl | (simp; done)) (by first | rfl | (simp; done) | (simp; omega)) (by simp [push_cast]) | exact cv_ros_self (by simp [push_cast]) | exact bel_ros_cl (by simp [push_cast]) | exact nilBk | exact cellsCv_eq (by simp [take_map_len]) (by simp [push_cast]) | refine And.intro ?_ ?_ | rfl | omega | (simp; done) | (simp; omega))))
  · have hd := dge hk'
    obtain rfl : k = xs.length := by omega
    have c1 := checkBook_r hf
    have c2 := refCheckBook_p _ _ hf
    clear hx ht hf
    generalize plB m xs xs.length = B at *
    (try simp only [push_cast, seval, reduceCtorEq, hd])
    repeat' (first
      | ((first | ((first | refine brX_split ?_ ?_ | refine gX_split ?_ ?_ | refine hX_split ?_ ?_ | refine outK_split ?_ ?_) <;> (intro xc; (try simp only [Bool.not_eq_true', Bool.not_eq_false'] at xc); have xp := xc; (try simp only [decide_eq_true_eq, decide_eq_false_iff_not, Int.not_lt, Int.not_le, ge_iff_le, gt_iff_lt, Bool.and_eq_true, Bool.or_eq_false_iff] at xp); have xq := xp; (first | simp only [← Int.not_le] at xq | simp only [← Int.not_lt] at xq | clear xq))) | refine ⟨.ret _, _, PCall.s (by first | assumption) (by simp [push_cast, hd]), ?_⟩ | refine ⟨.ret _, _, RCall.s (RCall.sh (by first | assumption)) (by simp [push_cast, hd]), ?_⟩ | refine ⟨_, _, SCall.lift (by first | assumption) (outR_cl (by simp [push_cast]) (by simp [push_cast])) (by simp [push_cast, hd]), ?_⟩ | refine ⟨_, (by first | assumption), ?_⟩ | refine ⟨0, [], _, PCall.r (by first | assumption), ?_⟩ | refine ⟨_, _, (by first | assumption), ?_⟩ | refine ⟨_, _, _, RCall.sh (by first | assumption), ?_⟩ | refine ⟨_, _, _, (by first | assumption), ?_⟩ | ((fail_if_success (refine ⟨_, ?_, ?_⟩)); refine ⟨AV.any, ?_⟩) | refine ret_frz rfl ?_ (by simp [push_cast]) (by simp [push_cast, hd]) (by simp [push_cast, hd]) | refine end_frz rfl ?_ (by simp [push_cast]) (by simp [push_cast, hd]) (by simp [push_cast, hd]) | refine ret_now (by simp [push_cast]) ?_ (by simp [push_cast]) | refine end_now (by simp [push_cast]) ?_ (by simp [push_cast])) <;> (try simp only [push_cast, seval, reduceCtorEq, *, hd]))
      | ((first | refine cv_ptE rfl rfl rfl rfl rfl ?_ | refine outQ_frz rfl ?_ (by simp [push_cast]) (by simp [push_cast, hd]) | refine dfr_end (by simp) rfl ?_ (by simp [push_cast]) (by simp [push_cast, hd])) <;> (try simp only [push_cast, seval, reduceCtorEq, hd]))
      | exact cv_slE rfl rfl ⟨rfl, rfl⟩ (by simp) (by simp [take_map_len])
      | refine outQ_pan ?_ (by simp [push_cast])
      | refine outQ_unit ?_
      | refine outQ_unitN ?_
      | refine And.intro ?_ ?_
      | omega)
    all_goals (try simp only [push_cast, seval, reduceCtorEq, hd])
    all_goals first
      | (simp only [*, hd]; done)
      | (simp [*, hd]; done)
      | (simp_all [hd]; done)
      | (simp_all [hd]; omega)
      | skip
end Go.Proofs.Ytffiicopifmmfaa
