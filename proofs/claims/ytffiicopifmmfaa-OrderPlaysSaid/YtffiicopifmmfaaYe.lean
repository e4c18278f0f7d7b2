/- Facts of the program over abstract values. No condition. -/
import Derived.Test.YtffiicopifmmfaaYd
set_option linter.unusedSimpArgs false
set_option linter.unusedVariables false
set_option maxRecDepth 8000
namespace Go.Proofs.Ytffiicopifmmfaa
set_option linter.unusedSimpArgs false
set_option linter.unusedVariables false
set_option linter.unnecessarySimpa false
set_option linter.unusedSectionVars false
open Go.Proofs.Try
open Go.Proofs.Ytffiicopifmmfaa.Ai
set_option maxHeartbeats 4000000

abbrev cntC (os : List O) (k : Nat) : List AV := [.int .i64 k, .int .i64 (cU 1 os k), .int .i64 (cU 2 os k), .int .i64 (cU 3 os k), .int .i64 (cU 4 os k), .int .i64 (cU 5 os k)]
theorem refTotals_p {b : Bk} {m : Tm} (h : Fit b m) : PCall prog 67 [.agg (tmc m), .agg (bkc b)] (.tup [.agg (tsc (ttT b m)), .int .i64 (bookE b m)]) := by
  have hc := refCheckBook_p b m h
  by_cases h0 : bookE b m = 0
  case neg =>
    have e : ttT b m = zT := by simp [ttT, h0]
    rw [e]
    obtain ⟨c, hb, hl⟩ := l67
    refine pcall_of mixed e67 hb rfl hl r67 (by rw [n67]; simp) ?_
    clear hb hl c
    (try simp only [push_cast, seval, reduceCtorEq, h0])
    repeat' (first
      | ((first | ((first | refine brX_split ?_ ?_ | refine gX_split ?_ ?_ | refine hX_split ?_ ?_ | refine outK_split ?_ ?_) <;> (intro xc; (try simp only [Bool.not_eq_true', Bool.not_eq_false'] at xc); have xp := xc; (try simp only [decide_eq_true_eq, decide_eq_false_iff_not, Int.not_lt, Int.not_le, ge_iff_le, gt_iff_lt, Bool.and_eq_true, Bool.or_eq_false_iff] at xp); have xq := xp; (first | simp only [← Int.not_le] at xq | simp only [← Int.not_lt] at xq | clear xq))) | refine ⟨.ret _, _, PCall.s (by first | assumption) (by simp [push_cast, h0]), ?_⟩ | refine ⟨.ret _, _, RCall.s (RCall.sh (by first | assumption)) (by simp [push_cast, h0]), ?_⟩ | refine ⟨_, _, SCall.lift (by first | assumption) (outR_cl (by simp [push_cast]) (by simp [push_cast])) (by simp [push_cast, h0]), ?_⟩ | refine ⟨_, (by first | assumption), ?_⟩ | refine ⟨0, [], _, PCall.r (by first | assumption), ?_⟩ | refine ⟨_, _, (by first | assumption), ?_⟩ | refine ⟨_, _, _, RCall.sh (by first | assumption), ?_⟩ | refine ⟨_, _, _, (by first | assumption), ?_⟩ | ((fail_if_success (refine ⟨_, ?_, ?_⟩)); refine ⟨AV.any, ?_⟩) | refine ret_frz rfl ?_ (by simp [push_cast]) (by simp [push_cast, h0]) (by simp [push_cast, h0]) | refine end_frz rfl ?_ (by simp [push_cast]) (by simp [push_cast, h0]) (by simp [push_cast, h0]) | refine ret_now (by simp [push_cast]) ?_ (by simp [push_cast]) | refine end_now (by simp [push_cast]) ?_ (by simp [push_cast])) <;> (try simp only [push_cast, seval, reduceCtorEq, *, h0]))
      | ((first | refine cv_ptE rfl rfl rfl rfl rfl ?_ | refine outQ_frz rfl ?_ (by simp [push_cast]) (by simp [push_cast, h0]) | refine dfr_end (by simp) rfl ?_ (by simp [push_cast]) (by simp [push_cast, h0])) <;> (try simp only [push_cast, seval, reduceCtorEq, h0]))
      | exact cv_slE rfl rfl ⟨rfl, rfl⟩ (by simp) (by simp [take_map_len])
      | refine outQ_pan ?_ (by simp [push_cast])
      | refine outQ_unit ?_
      | refine outQ_unitN ?_
      | refine And.intro ?_ ?_
      | omega)
    all_goals (try simp only [push_cast, seval, reduceCtorEq, h0, zT])
    all_goals first
      | (simp only [*, h0, zT]; done)
      | (simp [*, h0, zT]; done)
      | (simp_all [h0, zT]; done)
      | (simp_all [h0, zT]; omega)
      | skip
  have e : ttT b m = ⟨b.os.length, cU 1 b.os b.os.length, cU 2 b.os b.os.length, cU 3 b.os b.os.length, cU 4 b.os b.os.length, cU 5 b.os b.os.length⟩ := by simp [ttT, h0]
  rw [e, h0]
  rw [h0] at hc
  have hst := fun k x hx => book0_state h0 (k := k) (x := x) hx
  have hlen := (book0_len h0).1
  clear e h0
  obtain ⟨c, hb, hl⟩ := l67
  refine pcall_of mixed e67 hb rfl hl r67 (by rw [n67]; simp) ?_
  clear hb hl c
  (try simp only [push_cast, seval, reduceCtorEq])
  repeat' (first
    | ((first | ((first | refine brX_split ?_ ?_ | refine gX_split ?_ ?_ | refine hX_split ?_ ?_ | refine outK_split ?_ ?_) <;> (intro xc; (try simp only [Bool.not_eq_true', Bool.not_eq_false'] at xc); have xp := xc; (try simp only [decide_eq_true_eq, decide_eq_false_iff_not, Int.not_lt, Int.not_le, ge_iff_le, gt_iff_lt, Bool.and_eq_true, Bool.or_eq_false_iff] at xp); have xq := xp; (first | simp only [← Int.not_le] at xq | simp only [← Int.not_lt] at xq | clear xq))) | refine ⟨.ret _, _, PCall.s (by first | assumption) (by simp [push_cast]), ?_⟩ | refine ⟨.ret _, _, RCall.s (RCall.sh (by first | assumption)) (by simp [push_cast]), ?_⟩ | refine ⟨_, _, SCall.lift (by first | assumption) (outR_cl (by simp [push_cast]) (by simp [push_cast])) (by simp [push_cast]), ?_⟩ | refine ⟨_, (by first | assumption), ?_⟩ | refine ⟨0, [], _, PCall.r (by first | assumption), ?_⟩ | refine ⟨_, _, (by first | assumption), ?_⟩ | refine ⟨_, _, _, RCall.sh (by first | assumption), ?_⟩ | refine ⟨_, _, _, (by first | assumption), ?_⟩ | ((fail_if_success (refine ⟨_, ?_, ?_⟩)); refine ⟨AV.any, ?_⟩) | refine ret_frz rfl ?_ (by simp [push_cast]) (by simp [push_cast]) (by simp [push_cast]) | refine end_frz rfl ?_ (by simp [push_cast]) (by simp [push_cast]) (by simp [push_cast]) | refine ret_now (by simp [push_cast]) ?_ (by simp [push_cast]) | refine end_now (by simp [push_cast]) ?_ (by simp [push_cast])) <;> (try simp only [push_cast, seval, reduceCtorEq, *]))
    | ((first | refine cv_ptE rfl rfl rfl rfl rfl ?_ | refine outQ_frz rfl ?_ (by simp [push_cast]) (by simp [push_cast]) | refine dfr_end (by simp) rfl ?_ (by simp [push_cast]) (by simp [push_cast])) <;> (try simp only [push_cast, seval, reduceCtorEq]))
    | exact cv_slE rfl rfl ⟨rfl, rfl⟩ (by simp) (by simp [take_map_len])
    | refine outQ_pan ?_ (by simp [push_cast])
    | refine outQ_unit ?_
    | refine outQ_unitN ?_
    | refine And.intro ?_ ?_
    | omega)
  all_goals (try simp only [push_cast, seval, reduceCtorEq])
  all_goals first
    | (simp only [*]; done)
    | (simp [*]; done)
    | (simp_all []; done)
    | (simp_all []; omega)
    | skip
  refine w_loopS (fun k : Nat => ([(3, .pt 0 4 0 0), (4, .pt 1 6 0 0), (7, .pt 2 6 0 0), (8, .int .i64 k)], ⟨3, [(0, ⟨4, [bkc b]⟩), (1, ⟨6, [ztot]⟩), (2, ⟨6, [cntC b.os k]⟩)]⟩)) (fun k => k ≤ b.os.length) (fun k => b.os.length - k) 0 (Nat.zero_le _) ?_ ?_
  · simp only [cntC, cU]
    (apply Wk.renA (fun _ => false); (case he => (try simp only [push_cast, Nat.reduceBEq, Nat.reduceLeDiff, Nat.reduceAdd]); (repeat' (first | exact trivial | (refine cv_ptE rfl rfl rfl rfl rfl ?_; simp only [push_cast, Nat.reduceBEq, Nat.reduceLeDiff, Nat.reduceAdd]) | exact cv_slE rfl rfl ⟨rfl, rfl⟩ (by simp) (by simp [take_map_len]) | exact cv_slG rfl rfl ⟨rfl, rfl⟩ (by simp) (by first | rfl | (simp; done)) (by first | rfl | (simp; done) | (simp; omega)) (by simp [push_cast]) | exact cv_ros_self (by simp [push_cast]) | exact bel_ros_cl (by simp [push_cast]) | exact cellsCv_eq (by simp [take_map_len]) (by simp [push_cast]) | refine And.intro ?_ ?_ | rfl | omega | (simp; done) | (simp; omega)))); (case hr => (try simp only [push_cast, Nat.reduceBEq, Nat.reduceLeDiff, Nat.reduceAdd]); (repeat' (first | exact trivial | (refine cv_ptE rfl rfl rfl rfl rfl ?_; simp only [push_cast, Nat.reduceBEq, Nat.reduceLeDiff, Nat.reduceAdd]) | exact cv_slE rfl rfl ⟨rfl, rfl⟩ (by simp) (by simp [take_map_len]) | exact cv_slG rfl rfl ⟨rfl, rfl⟩ (by simp) (by first | rfl | (simp; done)) (by first | rfl | (simp; done) | (simp; omega)) (by simp [push_cast]) | exact cv_ros_self (by simp [push_cast]) | exact bel_ros_cl (by simp [push_cast]) | exact cellsCv_eq (by simp [take_map_len]) (by simp [push_cast]) | refine And.intro ?_ ?_ | rfl | omega | (simp; done) | (simp; omega)))); (case hinj => simp [rhoA_0, rhoA_1, rhoA_2]); all_goals exact 0)
  intro k hk
  obtain ⟨os, q, cw, cm⟩ := b
  simp only at *
  rcases Nat.lt_or_ge k os.length with hk' | hk'
  · obtain ⟨⟨i, p, d, s, a, f⟩, hx⟩ := lt_get hk'
    have hg := getD_map (enc := oc) hx
    have hd := dlt hk'
    have hw := inc64 (k := k) (by omega)
    have b1 := cU_le (j := 1) (os := os) k
    have b2 := cU_le (j := 2) (os := os) k
    have b3 := cU_le (j := 3) (os := os) k
    have b4 := cU_le (j := 4) (os := os) k
    have b5 := cU_le (j := 5) (os := os) k
    have w1 : IntKind.i64.wrap (cU 1 os k + 1) = cU 1 os k + 1 := IntWalk.i64_in _ (by omega)
    have w2 : IntKind.i64.wrap (cU 2 os k + 1) = cU 2 os k + 1 := IntWalk.i64_in _ (by omega)
    have w3 : IntKind.i64.wrap (cU 3 os k + 1) = cU 3 os k + 1 := IntWalk.i64_in _ (by omega)
    have w4 : IntKind.i64.wrap (cU 4 os k + 1) = cU 4 os k + 1 := IntWalk.i64_in _ (by omega)
    have w5 : IntKind.i64.wrap (cU 5 os k + 1) = cU 5 os k + 1 := IntWalk.i64_in _ (by omega)
    have hs := hst k _ hx
    simp only at hs
    clear hst hc h
    rcases hs with rfl | rfl | rfl | rfl | rfl
    all_goals
    (try simp only [push_cast, seval, reduceCtorEq, hg, hd, hw, w1, w2, w3, w4, w5])
    repeat' (first
      | ((first | ((first | refine brX_split ?_ ?_ | refine gX_split ?_ ?_ | refine hX_split ?_ ?_ | refine outK_split ?_ ?_) <;> (intro xc; (try simp only [Bool.not_eq_true', Bool.not_eq_false'] at xc); have xp := xc; (try simp only [decide_eq_true_eq, decide_eq_false_iff_not, Int.not_lt, Int.not_le, ge_iff_le, gt_iff_lt, Bool.and_eq_true, Bool.or_eq_false_iff] at xp); have xq := xp; (first | simp only [← Int.not_le] at xq | simp only [← Int.not_lt] at xq | clear xq))) | ((fail_if_success (refine ⟨_, ?_, ?_⟩)); refine ⟨AV.any, ?_⟩) | refine ret_frz rfl ?_ (by simp [push_cast]) (by simp [push_cast, hg, hd, hw, w1, w2, w3, w4, w5]) (by simp [push_cast, hg, hd, hw, w1, w2, w3, w4, w5]) | refine end_frz rfl ?_ (by simp [push_cast]) (by simp [push_cast, hg, hd, hw, w1, w2, w3, w4, w5]) (by simp [push_cast, hg, hd, hw, w1, w2, w3, w4, w5]) | refine ret_now (by simp [push_cast]) ?_ (by simp [push_cast]) | refine end_now (by simp [push_cast]) ?_ (by simp [push_cast])) <;> (try simp only [push_cast, seval, reduceCtorEq, *, hg, hd, hw, w1, w2, w3, w4, w5]))
      | ((first | refine cv_ptE rfl rfl rfl rfl rfl ?_ | refine outQ_frz rfl ?_ (by simp [push_cast]) (by simp [push_cast, hg, hd, hw, w1, w2, w3, w4, w5]) | refine dfr_end (by simp) rfl ?_ (by simp [push_cast]) (by simp [push_cast, hg, hd, hw, w1, w2, w3, w4, w5])) <;> (try simp only [push_cast, seval, reduceCtorEq, hg, hd, hw, w1, w2, w3, w4, w5]))
      | exact cv_slE rfl rfl ⟨rfl, rfl⟩ (by simp) (by simp [take_map_len])
      | refine outQ_pan ?_ (by simp [push_cast])
      | refine outQ_unit ?_
      | refine outQ_unitN ?_
      | refine And.intro ?_ ?_
      | omega)
    all_goals (try simp only [push_cast, seval, reduceCtorEq, hg, hd, hw, w1, w2, w3, w4, w5])
    all_goals first
      | (simp only [*, hg, hd, hw, w1, w2, w3, w4, w5]; done)
      | (simp [*, hg, hd, hw, w1, w2, w3, w4, w5]; done)
      | (simp_all [hg, hd, hw, w1, w2, w3, w4, w5]; done)
      | (simp_all [hg, hd, hw, w1, w2, w3, w4, w5]; omega)
      | skip
    all_goals (refine rnd_to _ _ _ (k + 1) hk' (by first | omega | (dsimp only; omega)) ?_; simp only [cntC, cU_step hx])
    all_goals (apply Wk.renA (fun _ => false); (case he => (try simp only [push_cast, Nat.reduceBEq, Nat.reduceLeDiff, Nat.reduceAdd]); (repeat' (first | exact trivial | (refine cv_ptE rfl rfl rfl rfl rfl ?_; simp only [push_cast, Nat.reduceBEq, Nat.reduceLeDiff, Nat.reduceAdd]) | exact cv_slE rfl rfl ⟨rfl, rfl⟩ (by simp) (by simp [take_map_len]) | exact cv_slG rfl rfl ⟨rfl, rfl⟩ (by simp) (by first | rfl | (simp; done)) (by first | rfl | (simp; done) | (simp; omega)) (by simp [push_cast]) | exact cv_ros_self (by simp [push_cast]) | exact bel_ros_cl (by simp [push_cast]) | exact cellsCv_eq (by simp [take_map_len]) (by simp [push_cast]) | refine And.intro ?_ ?_ | rfl | omega | (simp; done) | (simp; omega)))); (case hr => (try simp only [push_cast, Nat.reduceBEq, Nat.reduceLeDiff, Nat.reduceAdd]); (repeat' (first | exact trivial | (refine cv_ptE rfl rfl rfl rfl rfl ?_; simp only [push_cast, Nat.reduceBEq, Nat.reduceLeDiff, Nat.reduceAdd]) | exact cv_slE rfl rfl ⟨rfl, rfl⟩ (by simp) (by simp [take_map_len]) | exact cv_slG rfl rfl ⟨rfl, rfl⟩ (by simp) (by first | rfl | (simp; done)) (by first | rfl | (simp; done) | (simp; omega)) (by simp [push_cast]) | exact cv_ros_self (by simp [push_cast]) | exact bel_ros_cl (by simp [push_cast]) | exact cellsCv_eq (by simp [take_map_len]) (by simp [push_cast]) | refine And.intro ?_ ?_ | rfl | omega | (simp; done) | (simp; omega)))); (case hinj => simp [rhoA_0, rhoA_1, rhoA_2]); all_goals exact 0)
  · have hd := dge hk'
    obtain rfl : k = os.length := by omega
    clear hst hc h
    (try simp only [push_cast, seval, reduceCtorEq, hd])
    repeat' (first
      | ((first | ((first | refine brX_split ?_ ?_ | refine gX_split ?_ ?_ | refine hX_split ?_ ?_ | refine outK_split ?_ ?_) <;> (intro xc; (try simp only [Bool.not_eq_true', Bool.not_eq_false'] at xc); have xp := xc; (try simp only [decide_eq_true_eq, decide_eq_false_iff_not, Int.not_lt, Int.not_le, ge_iff_le, gt_iff_lt, Bool.and_eq_true, Bool.or_eq_false_iff] at xp); have xq := xp; (first | simp only [← Int.not_le] at xq | simp only [← Int.not_lt] at xq | clear xq))) | ((fail_if_success (refine ⟨_, ?_, ?_⟩)); refine ⟨AV.any, ?_⟩) | refine ret_frz rfl ?_ (by simp [push_cast]) (by simp [push_cast, hd]) (by simp [push_cast, hd]) | refine end_frz rfl ?_ (by simp [push_cast]) (by simp [push_cast, hd]) (by simp [push_cast, hd]) | refine ret_now (by simp [push_cast]) ?_ (by simp [push_cast]) | refine end_now (by simp [push_cast]) ?_ (by simp [push_cast])) <;> (try simp only [push_cast, seval, reduceCtorEq, *, hd]))
      | ((first | refine cv_ptE rfl rfl rfl rfl rfl ?_ | refine outQ_frz rfl ?_ (by simp [push_cast]) (by simp [push_cast, hd]) | refine dfr_end (by simp) rfl ?_ (by simp [push_cast]) (by simp [push_cast, hd])) <;> (try simp only [push_cast, seval, reduceCtorEq, hd]))
      | exact cv_slE rfl rfl ⟨rfl, rfl⟩ (by simp) (by simp [take_map_len])
      | refine outQ_pan ?_ (by simp [push_cast])
      | refine outQ_unit ?_
      | refine outQ_unitN ?_
      | refine And.intro ?_ ?_
      | omega)
    all_goals (try simp only [push_cast, seval, reduceCtorEq, hd])
    all_goals first
      | (simp only [*, hd]; done)
      | (simp [*, hd]; done)
      | (simp_all [hd]; done)
      | (simp_all [hd]; omega)
      | skip
end Go.Proofs.Ytffiicopifmmfaa
