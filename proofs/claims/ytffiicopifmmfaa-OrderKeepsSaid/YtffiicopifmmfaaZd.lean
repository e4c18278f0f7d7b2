/- Facts of the program over abstract values. No condition. -/
import Derived.Test.YtffiicopifmmfaaZc
set_option linter.unusedSimpArgs false
set_option maxRecDepth 8000
namespace Go.Proofs.Ytffiicopifmmfaa
set_option linter.unusedSimpArgs false
set_option linter.unusedVariables false
set_option linter.unnecessarySimpa false
set_option linter.unusedSectionVars false
open Go.Proofs.Try
open Go.Proofs.Ytffiicopifmmfaa.Ai
set_option maxHeartbeats 4000000

/-! Counts -/
def okW (w q : Int) : Bool := inB 1 64 w && inB 1 16 q
def okC (cw cm q : Int) : Bool := decide (cw ≤ 4611686018427387904) && inB 0 q cm
def cntE (cw cm w q : Int) : Int := bif okW w q then (bif okC cw cm q then 0 else 8) else 2
theorem count_p (cw cm w q : Int) : PCall prog 21 [.agg [.int .u64 cw, .int .i64 cm], .int .i64 w, .int .i64 q] (.int .i64 (cntE cw cm w q)) := by
  obtain ⟨c, hb, hl⟩ := l21
  refine pcall_of mixed e21 hb rfl hl r21 (by rw [n21]; simp) ?_
  clear hb hl c
  (try simp only [push_cast, seval, reduceCtorEq])
  repeat' (first
    | ((first | ((first | refine brX_split ?_ ?_ | refine gX_split ?_ ?_ | refine hX_split ?_ ?_ | refine outK_split ?_ ?_) <;> (intro xc; (try simp only [Bool.not_eq_true', Bool.not_eq_false'] at xc); have xp := xc; (try simp only [decide_eq_true_eq, decide_eq_false_iff_not, Int.not_lt, Int.not_le, ge_iff_le, gt_iff_lt, Bool.and_eq_true, Bool.or_eq_false_iff] at xp); have xq := xp; (first | simp only [← Int.not_le] at xq | simp only [← Int.not_lt] at xq | clear xq))) | refine ⟨.ret _, _, PCall.s (by first | exact within1 _ _ _) (by simp [push_cast]), ?_⟩ | refine ⟨.ret _, _, RCall.s (RCall.sh (by first | exact within1 _ _ _)) (by simp [push_cast]), ?_⟩ | refine ⟨_, _, SCall.lift (by first | exact within1 _ _ _) (outR_cl (by simp [push_cast]) (by simp [push_cast])) (by simp [push_cast]), ?_⟩ | refine ⟨_, (by first | exact within1 _ _ _), ?_⟩ | refine ⟨0, [], _, PCall.r (by first | exact within1 _ _ _), ?_⟩ | refine ⟨_, _, (by first | exact within1 _ _ _), ?_⟩ | refine ⟨_, _, _, RCall.sh (by first | exact within1 _ _ _), ?_⟩ | refine ⟨_, _, _, (by first | exact within1 _ _ _), ?_⟩ | ((fail_if_success (refine ⟨_, ?_, ?_⟩)); refine ⟨AV.any, ?_⟩) | refine ret_frz rfl ?_ (by simp [push_cast]) (by simp [push_cast]) (by simp [push_cast]) | refine end_frz rfl ?_ (by simp [push_cast]) (by simp [push_cast]) (by simp [push_cast]) | refine ret_now (by simp [push_cast]) ?_ (by simp [push_cast]) | refine end_now (by simp [push_cast]) ?_ (by simp [push_cast])) <;> (try simp only [push_cast, seval, reduceCtorEq, *]))
    | ((first | refine cv_ptE rfl rfl rfl rfl rfl ?_ | refine outQ_frz rfl ?_ (by simp [push_cast]) (by simp [push_cast]) | refine dfr_end (by simp) rfl ?_ (by simp [push_cast]) (by simp [push_cast])) <;> (try simp only [push_cast, seval, reduceCtorEq]))
    | exact cv_slE rfl rfl ⟨rfl, rfl⟩ (by simp) (by simp [take_map_len])
    | refine outQ_pan ?_ (by simp [push_cast])
    | refine outQ_unit ?_
    | refine outQ_unitN ?_
    | refine And.intro ?_ ?_
    | omega)
  all_goals (try simp only [push_cast, seval, reduceCtorEq, cntE, okW, okC])
  all_goals first
    | (simp only [*, cntE, okW, okC]; done)
    | (simp [*, cntE, okW, okC]; done)
    | (simp_all [cntE, okW, okC]; done)
    | (simp_all [cntE, okW, okC]; omega)
    | skip
def winN (now w : Int) : Int := IntKind.u64.wrap (now.tdiv (IntKind.u64.wrap w))
theorem window_p (now w : Int) (h : ¬ IntKind.u64.wrap w = 0) : PCall prog 49 [.int .u64 now, .int .i64 w] (.int .u64 (winN now w)) := by
  obtain ⟨c, hb, hl⟩ := l49
  refine pcall_of mixed e49 hb rfl hl r49 (by rw [n49]; simp) ?_
  clear hb hl c
  (try simp only [push_cast, seval, reduceCtorEq, h])
  repeat' (first
    | ((first | ((first | refine brX_split ?_ ?_ | refine gX_split ?_ ?_ | refine hX_split ?_ ?_ | refine outK_split ?_ ?_) <;> (intro xc; (try simp only [Bool.not_eq_true', Bool.not_eq_false'] at xc); have xp := xc; (try simp only [decide_eq_true_eq, decide_eq_false_iff_not, Int.not_lt, Int.not_le, ge_iff_le, gt_iff_lt, Bool.and_eq_true, Bool.or_eq_false_iff] at xp); have xq := xp; (first | simp only [← Int.not_le] at xq | simp only [← Int.not_lt] at xq | clear xq))) | ((fail_if_success (refine ⟨_, ?_, ?_⟩)); refine ⟨AV.any, ?_⟩) | refine ret_frz rfl ?_ (by simp [push_cast]) (by simp [push_cast, h]) (by simp [push_cast, h]) | refine end_frz rfl ?_ (by simp [push_cast]) (by simp [push_cast, h]) (by simp [push_cast, h]) | refine ret_now (by simp [push_cast]) ?_ (by simp [push_cast]) | refine end_now (by simp [push_cast]) ?_ (by simp [push_cast])) <;> (try simp only [push_cast, seval, reduceCtorEq, *, h]))
    | ((first | refine cv_ptE rfl rfl rfl rfl rfl ?_ | refine outQ_frz rfl ?_ (by simp [push_cast]) (by simp [push_cast, h]) | refine dfr_end (by simp) rfl ?_ (by simp [push_cast]) (by simp [push_cast, h])) <;> (try simp only [push_cast, seval, reduceCtorEq, h]))
    | exact cv_slE rfl rfl ⟨rfl, rfl⟩ (by simp) (by simp [take_map_len])
    | refine outQ_pan ?_ (by simp [push_cast])
    | refine outQ_unit ?_
    | refine outQ_unitN ?_
    | refine And.intro ?_ ?_
    | omega)
  all_goals (try simp only [push_cast, seval, reduceCtorEq, h, winN])
  all_goals first
    | (simp only [*, h, winN]; done)
    | (simp [*, h, winN]; done)
    | (simp_all [h, winN]; done)
    | (simp_all [h, winN]; omega)
    | skip
theorem wrap_small {w : Int} (h : 1 ≤ w) (h2 : w ≤ 64) : IntKind.u64.wrap w = w := IntWalk.u64_in _ (by omega)
theorem okW_of {w q : Int} (h : okW w q = true) : 1 ≤ w ∧ w ≤ 64 ∧ 1 ≤ q ∧ q ≤ 16 := by simpa [okW, inB, and_assoc] using h
theorem okC_of {cw cm q : Int} (h : okC cw cm q = true) : cw ≤ 4611686018427387904 ∧ 0 ≤ cm ∧ cm ≤ q := by simpa [okC, inB, and_assoc] using h
theorem cnt0 {cw cm w q : Int} (h : cntE cw cm w q = 0) : okW w q = true ∧ okC cw cm q = true := by
  unfold cntE at h; cases h1 : okW w q <;> cases h2 : okC cw cm q <;> simp [h1, h2] at h ⊢
def inN (cw cm w now : Int) : Int := bif decide (winN now w = cw) then cm else 0
def askE (cw cm w q now : Int) : Int := bif decide (cntE cw cm w q = 0) then (bif decide (now ≤ 4611686018427387904) then 0 else 2) else cntE cw cm w q
def remN (cw cm w q now : Int) : Int := bif decide (askE cw cm w q now = 0) then q - inN cw cm w now else 0
theorem remaining_p (cw cm w q now : Int) : PCall prog 20 [.agg [.int .u64 cw, .int .i64 cm], .int .i64 w, .int .i64 q, .int .u64 now] (.tup [.int .i64 (remN cw cm w q now), .int .i64 (askE cw cm w q now)]) := by
  by_cases h : cntE cw cm w q = 0
  · obtain ⟨h1, h2⟩ := cnt0 h
    obtain ⟨a1, a2, a3, a4⟩ := okW_of h1
    obtain ⟨b1, b2, b3⟩ := okC_of h2
    have hz : ¬ IntKind.u64.wrap w = 0 := by rw [wrap_small a1 a2]; omega
    have hs : IntKind.i64.wrap (q - cm) = q - cm := IntWalk.i64_in _ (by omega)
    obtain ⟨c, hb, hl⟩ := l20
    refine pcall_of mixed e20 hb rfl hl r20 (by rw [n20]; simp) ?_
    clear hb hl c
    (try simp only [push_cast, seval, reduceCtorEq, hs])
    repeat' (first
      | ((first | ((first | refine brX_split ?_ ?_ | refine gX_split ?_ ?_ | refine hX_split ?_ ?_ | refine outK_split ?_ ?_) <;> (intro xc; (try simp only [Bool.not_eq_true', Bool.not_eq_false'] at xc); have xp := xc; (try simp only [decide_eq_true_eq, decide_eq_false_iff_not, Int.not_lt, Int.not_le, ge_iff_le, gt_iff_lt, Bool.and_eq_true, Bool.or_eq_false_iff] at xp); have xq := xp; (first | simp only [← Int.not_le] at xq | simp only [← Int.not_lt] at xq | clear xq))) | refine ⟨.ret _, _, PCall.s (by first | exact count_p _ _ _ _ | exact window_p _ _ hz) (by simp [push_cast, hs]), ?_⟩ | refine ⟨.ret _, _, RCall.s (RCall.sh (by first | exact count_p _ _ _ _ | exact window_p _ _ hz)) (by simp [push_cast, hs]), ?_⟩ | refine ⟨_, _, SCall.lift (by first | exact count_p _ _ _ _ | exact window_p _ _ hz) (outR_cl (by simp [push_cast]) (by simp [push_cast])) (by simp [push_cast, hs]), ?_⟩ | refine ⟨_, (by first | exact count_p _ _ _ _ | exact window_p _ _ hz), ?_⟩ | refine ⟨0, [], _, PCall.r (by first | exact count_p _ _ _ _ | exact window_p _ _ hz), ?_⟩ | refine ⟨_, _, (by first | exact count_p _ _ _ _ | exact window_p _ _ hz), ?_⟩ | refine ⟨_, _, _, RCall.sh (by first | exact count_p _ _ _ _ | exact window_p _ _ hz), ?_⟩ | refine ⟨_, _, _, (by first | exact count_p _ _ _ _ | exact window_p _ _ hz), ?_⟩ | ((fail_if_success (refine ⟨_, ?_, ?_⟩)); refine ⟨AV.any, ?_⟩) | refine ret_frz rfl ?_ (by simp [push_cast]) (by simp [push_cast, hs]) (by simp [push_cast, hs]) | refine end_frz rfl ?_ (by simp [push_cast]) (by simp [push_cast, hs]) (by simp [push_cast, hs]) | refine ret_now (by simp [push_cast]) ?_ (by simp [push_cast]) | refine end_now (by simp [push_cast]) ?_ (by simp [push_cast])) <;> (try simp only [push_cast, seval, reduceCtorEq, *, hs]))
      | ((first | refine cv_ptE rfl rfl rfl rfl rfl ?_ | refine outQ_frz rfl ?_ (by simp [push_cast]) (by simp [push_cast, hs]) | refine dfr_end (by simp) rfl ?_ (by simp [push_cast]) (by simp [push_cast, hs])) <;> (try simp only [push_cast, seval, reduceCtorEq, hs]))
      | exact cv_slE rfl rfl ⟨rfl, rfl⟩ (by simp) (by simp [take_map_len])
      | refine outQ_pan ?_ (by simp [push_cast])
      | refine outQ_unit ?_
      | refine outQ_unitN ?_
      | refine And.intro ?_ ?_
      | omega)
    all_goals (try simp only [push_cast, seval, reduceCtorEq, hs, askE, remN, inN, h])
    all_goals first
      | (simp only [*, hs, askE, remN, inN, h]; done)
      | (simp [*, hs, askE, remN, inN, h]; done)
      | (simp_all [hs, askE, remN, inN, h]; done)
      | (simp_all [hs, askE, remN, inN, h]; omega)
      | skip
  · obtain ⟨c, hb, hl⟩ := l20
    refine pcall_of mixed e20 hb rfl hl r20 (by rw [n20]; simp) ?_
    clear hb hl c
    (try simp only [push_cast, seval, reduceCtorEq])
    repeat' (first
      | ((first | ((first | refine brX_split ?_ ?_ | refine gX_split ?_ ?_ | refine hX_split ?_ ?_ | refine outK_split ?_ ?_) <;> (intro xc; (try simp only [Bool.not_eq_true', Bool.not_eq_false'] at xc); have xp := xc; (try simp only [decide_eq_true_eq, decide_eq_false_iff_not, Int.not_lt, Int.not_le, ge_iff_le, gt_iff_lt, Bool.and_eq_true, Bool.or_eq_false_iff] at xp); have xq := xp; (first | simp only [← Int.not_le] at xq | simp only [← Int.not_lt] at xq | clear xq))) | refine ⟨.ret _, _, PCall.s (by first | exact count_p _ _ _ _) (by simp [push_cast]), ?_⟩ | refine ⟨.ret _, _, RCall.s (RCall.sh (by first | exact count_p _ _ _ _)) (by simp [push_cast]), ?_⟩ | refine ⟨_, _, SCall.lift (by first | exact count_p _ _ _ _) (outR_cl (by simp [push_cast]) (by simp [push_cast])) (by simp [push_cast]), ?_⟩ | refine ⟨_, (by first | exact count_p _ _ _ _), ?_⟩ | refine ⟨0, [], _, PCall.r (by first | exact count_p _ _ _ _), ?_⟩ | refine ⟨_, _, (by first | exact count_p _ _ _ _), ?_⟩ | refine ⟨_, _, _, RCall.sh (by first | exact count_p _ _ _ _), ?_⟩ | refine ⟨_, _, _, (by first | exact count_p _ _ _ _), ?_⟩ | ((fail_if_success (refine ⟨_, ?_, ?_⟩)); refine ⟨AV.any, ?_⟩) | refine ret_frz rfl ?_ (by simp [push_cast]) (by simp [push_cast]) (by simp [push_cast]) | refine end_frz rfl ?_ (by simp [push_cast]) (by simp [push_cast]) (by simp [push_cast]) | refine ret_now (by simp [push_cast]) ?_ (by simp [push_cast]) | refine end_now (by simp [push_cast]) ?_ (by simp [push_cast])) <;> (try simp only [push_cast, seval, reduceCtorEq, *]))
      | ((first | refine cv_ptE rfl rfl rfl rfl rfl ?_ | refine outQ_frz rfl ?_ (by simp [push_cast]) (by simp [push_cast]) | refine dfr_end (by simp) rfl ?_ (by simp [push_cast]) (by simp [push_cast])) <;> (try simp only [push_cast, seval, reduceCtorEq]))
      | exact cv_slE rfl rfl ⟨rfl, rfl⟩ (by simp) (by simp [take_map_len])
      | refine outQ_pan ?_ (by simp [push_cast])
      | refine outQ_unit ?_
      | refine outQ_unitN ?_
      | refine And.intro ?_ ?_
      | omega)
    all_goals (try simp only [push_cast, seval, reduceCtorEq, askE, remN, inN, h])
    all_goals first
      | (simp only [*, askE, remN, inN, h]; done)
      | (simp [*, askE, remN, inN, h]; done)
      | (simp_all [askE, remN, inN, h]; done)
      | (simp_all [askE, remN, inN, h]; omega)
      | skip
def takE (cw cm w q now : Int) : Int := bif decide (askE cw cm w q now = 0) then (bif decide (remN cw cm w q now = 0) then 160 else 0) else askE cw cm w q now
def takW (cw cm w q now : Int) : Int := bif decide (takE cw cm w q now = 0) then winN now w else 0
def takM (cw cm w q now : Int) : Int := bif decide (takE cw cm w q now = 0) then inN cw cm w now + 1 else 0
theorem ask0 {cw cm w q now : Int} (h : askE cw cm w q now = 0) : cntE cw cm w q = 0 ∧ now ≤ 4611686018427387904 := by
  unfold askE at h
  by_cases h1 : cntE cw cm w q = 0 <;> by_cases h2 : now ≤ 4611686018427387904 <;> simp [h1, h2] at h ⊢
theorem inN_of {cw cm w q now : Int} (h : okC cw cm q = true) (hq : 0 ≤ q) : 0 ≤ inN cw cm w now ∧ inN cw cm w now ≤ q := by
  obtain ⟨_, h1, h2⟩ := okC_of h
  unfold inN; cases decide (winN now w = cw) <;> simp <;> omega
theorem take_p (cw cm w q now : Int) : PCall prog 19 [.agg [.int .u64 cw, .int .i64 cm], .int .i64 w, .int .i64 q, .int .u64 now] (.tup [.agg [.int .u64 (takW cw cm w q now), .int .i64 (takM cw cm w q now)], .int .i64 (takE cw cm w q now)]) := by
  by_cases h : askE cw cm w q now = 0
  · obtain ⟨h0, h3⟩ := ask0 h
    obtain ⟨h1, h2⟩ := cnt0 h0
    obtain ⟨a1, a2, a3, a4⟩ := okW_of h1
    obtain ⟨g1, g2⟩ := inN_of (w := w) (now := now) h2 (by omega)
    have hz : ¬ IntKind.u64.wrap w = 0 := by rw [wrap_small a1 a2]; omega
    have hR : remN cw cm w q now = q - inN cw cm w now := by simp [remN, h]
    have hs : IntKind.i64.wrap (q - (q - inN cw cm w now)) = inN cw cm w now := by rw [IntWalk.i64_in _ (by omega)]; omega
    have ht : IntKind.i64.wrap (inN cw cm w now + 1) = inN cw cm w now + 1 := IntWalk.i64_in _ (by omega)
    obtain ⟨c, hb, hl⟩ := l19
    refine pcall_of mixed e19 hb rfl hl r19 (by rw [n19]; simp) ?_
    clear hb hl c
    (try simp only [push_cast, seval, reduceCtorEq, hs, ht, hR])
    repeat' (first
      | ((first | ((first | refine brX_split ?_ ?_ | refine gX_split ?_ ?_ | refine hX_split ?_ ?_ | refine outK_split ?_ ?_) <;> (intro xc; (try simp only [Bool.not_eq_true', Bool.not_eq_false'] at xc); have xp := xc; (try simp only [decide_eq_true_eq, decide_eq_false_iff_not, Int.not_lt, Int.not_le, ge_iff_le, gt_iff_lt, Bool.and_eq_true, Bool.or_eq_false_iff] at xp); have xq := xp; (first | simp only [← Int.not_le] at xq | simp only [← Int.not_lt] at xq | clear xq))) | refine ⟨.ret _, _, PCall.s (by first | exact remaining_p _ _ _ _ _ | exact window_p _ _ hz) (by simp [push_cast, hs, ht, hR]), ?_⟩ | refine ⟨.ret _, _, RCall.s (RCall.sh (by first | exact remaining_p _ _ _ _ _ | exact window_p _ _ hz)) (by simp [push_cast, hs, ht, hR]), ?_⟩ | refine ⟨_, _, SCall.lift (by first | exact remaining_p _ _ _ _ _ | exact window_p _ _ hz) (outR_cl (by simp [push_cast]) (by simp [push_cast])) (by simp [push_cast, hs, ht, hR]), ?_⟩ | refine ⟨_, (by first | exact remaining_p _ _ _ _ _ | exact window_p _ _ hz), ?_⟩ | refine ⟨0, [], _, PCall.r (by first | exact remaining_p _ _ _ _ _ | exact window_p _ _ hz), ?_⟩ | refine ⟨_, _, (by first | exact remaining_p _ _ _ _ _ | exact window_p _ _ hz), ?_⟩ | refine ⟨_, _, _, RCall.sh (by first | exact remaining_p _ _ _ _ _ | exact window_p _ _ hz), ?_⟩ | refine ⟨_, _, _, (by first | exact remaining_p _ _ _ _ _ | exact window_p _ _ hz), ?_⟩ | ((fail_if_success (refine ⟨_, ?_, ?_⟩)); refine ⟨AV.any, ?_⟩) | refine ret_frz rfl ?_ (by simp [push_cast]) (by simp [push_cast, hs, ht, hR]) (by simp [push_cast, hs, ht, hR]) | refine end_frz rfl ?_ (by simp [push_cast]) (by simp [push_cast, hs, ht, hR]) (by simp [push_cast, hs, ht, hR]) | refine ret_now (by simp [push_cast]) ?_ (by simp [push_cast]) | refine end_now (by simp [push_cast]) ?_ (by simp [push_cast])) <;> (try simp only [push_cast, seval, reduceCtorEq, *, hs, ht, hR]))
      | ((first | refine cv_ptE rfl rfl rfl rfl rfl ?_ | refine outQ_frz rfl ?_ (by simp [push_cast]) (by simp [push_cast, hs, ht, hR]) | refine dfr_end (by simp) rfl ?_ (by simp [push_cast]) (by simp [push_cast, hs, ht, hR])) <;> (try simp only [push_cast, seval, reduceCtorEq, hs, ht, hR]))
      | exact cv_slE rfl rfl ⟨rfl, rfl⟩ (by simp) (by simp [take_map_len])
      | refine outQ_pan ?_ (by simp [push_cast])
      | refine outQ_unit ?_
      | refine outQ_unitN ?_
      | refine And.intro ?_ ?_
      | omega)
    all_goals (try simp only [push_cast, seval, reduceCtorEq, hs, ht, hR, takE, takW, takM, h, hR])
    all_goals first
      | (simp only [*, hs, ht, hR, takE, takW, takM, h, hR]; done)
      | (simp [*, hs, ht, hR, takE, takW, takM, h, hR]; done)
      | (simp_all [hs, ht, hR, takE, takW, takM, h, hR]; done)
      | (simp_all [hs, ht, hR, takE, takW, takM, h, hR]; omega)
      | skip
  · obtain ⟨c, hb, hl⟩ := l19
    refine pcall_of mixed e19 hb rfl hl r19 (by rw [n19]; simp) ?_
    clear hb hl c
    (try simp only [push_cast, seval, reduceCtorEq])
    repeat' (first
      | ((first | ((first | refine brX_split ?_ ?_ | refine gX_split ?_ ?_ | refine hX_split ?_ ?_ | refine outK_split ?_ ?_) <;> (intro xc; (try simp only [Bool.not_eq_true', Bool.not_eq_false'] at xc); have xp := xc; (try simp only [decide_eq_true_eq, decide_eq_false_iff_not, Int.not_lt, Int.not_le, ge_iff_le, gt_iff_lt, Bool.and_eq_true, Bool.or_eq_false_iff] at xp); have xq := xp; (first | simp only [← Int.not_le] at xq | simp only [← Int.not_lt] at xq | clear xq))) | refine ⟨.ret _, _, PCall.s (by first | exact remaining_p _ _ _ _ _) (by simp [push_cast]), ?_⟩ | refine ⟨.ret _, _, RCall.s (RCall.sh (by first | exact remaining_p _ _ _ _ _)) (by simp [push_cast]), ?_⟩ | refine ⟨_, _, SCall.lift (by first | exact remaining_p _ _ _ _ _) (outR_cl (by simp [push_cast]) (by simp [push_cast])) (by simp [push_cast]), ?_⟩ | refine ⟨_, (by first | exact remaining_p _ _ _ _ _), ?_⟩ | refine ⟨0, [], _, PCall.r (by first | exact remaining_p _ _ _ _ _), ?_⟩ | refine ⟨_, _, (by first | exact remaining_p _ _ _ _ _), ?_⟩ | refine ⟨_, _, _, RCall.sh (by first | exact remaining_p _ _ _ _ _), ?_⟩ | refine ⟨_, _, _, (by first | exact remaining_p _ _ _ _ _), ?_⟩ | ((fail_if_success (refine ⟨_, ?_, ?_⟩)); refine ⟨AV.any, ?_⟩) | refine ret_frz rfl ?_ (by simp [push_cast]) (by simp [push_cast]) (by simp [push_cast]) | refine end_frz rfl ?_ (by simp [push_cast]) (by simp [push_cast]) (by simp [push_cast]) | refine ret_now (by simp [push_cast]) ?_ (by simp [push_cast]) | refine end_now (by simp [push_cast]) ?_ (by simp [push_cast])) <;> (try simp only [push_cast, seval, reduceCtorEq, *]))
      | ((first | refine cv_ptE rfl rfl rfl rfl rfl ?_ | refine outQ_frz rfl ?_ (by simp [push_cast]) (by simp [push_cast]) | refine dfr_end (by simp) rfl ?_ (by simp [push_cast]) (by simp [push_cast])) <;> (try simp only [push_cast, seval, reduceCtorEq]))
      | exact cv_slE rfl rfl ⟨rfl, rfl⟩ (by simp) (by simp [take_map_len])
      | refine outQ_pan ?_ (by simp [push_cast])
      | refine outQ_unit ?_
      | refine outQ_unitN ?_
      | refine And.intro ?_ ?_
      | omega)
    all_goals (try simp only [push_cast, seval, reduceCtorEq, takE, takW, takM, h])
    all_goals first
      | (simp only [*, takE, takW, takM, h]; done)
      | (simp [*, takE, takW, takM, h]; done)
      | (simp_all [takE, takW, takM, h]; done)
      | (simp_all [takE, takW, takM, h]; omega)
      | skip

/-! The queue -/
theorem eqI_step {a b : List Int} {k : Nat} {x y : Int} (hx : a[k]? = some x) (hy : b[k]? = some y) (h : a.take k = b.take k) : (a.take (k + 1) = b.take (k + 1)) = (x = y) := by
  simp [List.take_add_one, hx, hy, h]
theorem equal_p (a b : List Int) (hl : a.length < 2 ^ 62) : PCall prog 83 [intsV a, intsV b] (.bool (decide (a = b))) := by
  obtain ⟨c, hb, hl⟩ := l83
  refine pcall_of mixed e83 hb rfl hl r83 (by rw [n83]; simp) ?_
  clear hb hl c
  by_cases hlen : (a.length : Int) = b.length
  · have hlen' : a.length = b.length := by omega
    have hlen2 : (b.length : Int) = a.length := hlen.symm
    (try simp only [push_cast, seval, reduceCtorEq, hlen2])
    repeat' (first
      | ((first | ((first | refine brX_split ?_ ?_ | refine gX_split ?_ ?_ | refine hX_split ?_ ?_ | refine outK_split ?_ ?_) <;> (intro xc; (try simp only [Bool.not_eq_true', Bool.not_eq_false'] at xc); have xp := xc; (try simp only [decide_eq_true_eq, decide_eq_false_iff_not, Int.not_lt, Int.not_le, ge_iff_le, gt_iff_lt, Bool.and_eq_true, Bool.or_eq_false_iff] at xp); have xq := xp; (first | simp only [← Int.not_le] at xq | simp only [← Int.not_lt] at xq | clear xq))) | ((fail_if_success (refine ⟨_, ?_, ?_⟩)); refine ⟨AV.any, ?_⟩) | refine ret_frz rfl ?_ (by simp [push_cast]) (by simp [push_cast, hlen2]) (by simp [push_cast, hlen2]) | refine end_frz rfl ?_ (by simp [push_cast]) (by simp [push_cast, hlen2]) (by simp [push_cast, hlen2]) | refine ret_now (by simp [push_cast]) ?_ (by simp [push_cast]) | refine end_now (by simp [push_cast]) ?_ (by simp [push_cast])) <;> (try simp only [push_cast, seval, reduceCtorEq, *, hlen2]))
      | ((first | refine cv_ptE rfl rfl rfl rfl rfl ?_ | refine outQ_frz rfl ?_ (by simp [push_cast]) (by simp [push_cast, hlen2]) | refine dfr_end (by simp) rfl ?_ (by simp [push_cast]) (by simp [push_cast, hlen2])) <;> (try simp only [push_cast, seval, reduceCtorEq, hlen2]))
      | exact cv_slE rfl rfl ⟨rfl, rfl⟩ (by simp) (by simp [take_map_len])
      | refine outQ_pan ?_ (by simp [push_cast])
      | refine outQ_unit ?_
      | refine outQ_unitN ?_
      | refine And.intro ?_ ?_
      | omega)
    all_goals (try simp only [push_cast, seval, reduceCtorEq, hlen2])
    all_goals first
      | (simp only [*, hlen2]; done)
      | (simp [*, hlen2]; done)
      | (simp_all [hlen2]; done)
      | (simp_all [hlen2]; omega)
      | skip
    refine w_loopS (fun k : Nat => ([(0, intsV a), (1, intsV b), (12, .int .i64 a.length), (13, .int .i64 k)], ⟨0, []⟩)) (fun k => k ≤ a.length ∧ a.take k = b.take k) (fun k => a.length - k) 0 ⟨Nat.zero_le _, rfl⟩ ?_ ?_
    · refine Wk.ren (fun _ => false) (fun i => i) (by simp) (by simp) ?_ ?_ (by simp) <;> (try simp only [push_cast, Nat.reduceBEq, Nat.reduceLeDiff, Nat.reduceAdd]) <;> (repeat' (first | exact trivial | (refine cv_ptE rfl rfl rfl rfl rfl ?_; simp only [push_cast, Nat.reduceBEq, Nat.reduceLeDiff, Nat.reduceAdd]) | exact cv_slE rfl rfl ⟨rfl, rfl⟩ (by simp) (by simp [take_map_len]) | exact cv_slG rfl rfl ⟨rfl, rfl⟩ (by simp) (by first | rfl | (simp; done)) (by first | rfl | (simp; done) | (simp; omega)) (by simp [push_cast]) | exact cv_ros_self (by simp [push_cast]) | exact bel_ros_cl (by simp [push_cast]) | exact cellsCv_eq (by simp [take_map_len]) (by simp [push_cast]) | refine And.intro ?_ ?_ | rfl | omega | (simp; done) | (simp; omega)))
    rintro k ⟨hk, heq⟩
    replace hk : k ≤ a.length := hk
    rcases Nat.lt_or_ge k a.length with hk' | hk'
    · obtain ⟨x, hx⟩ := lt_get hk'
      obtain ⟨y, hy⟩ := lt_get (xs := b) (k := k) (by omega)
      have hg := getD_map (enc := intc) hx
      have hg' := getD_map (enc := intc) hy
      have hd' := dlt hk'
      have hw := inc64 (k := k) (by omega)
      have hkb : (k : Int) < b.length := by omega
      have hst := eqI_step hx hy heq
      (try simp only [push_cast, seval, reduceCtorEq, hg, hg', hd', hw, hkb])
      repeat' (first
        | ((first | ((first | refine brX_split ?_ ?_ | refine gX_split ?_ ?_ | refine hX_split ?_ ?_ | refine outK_split ?_ ?_) <;> (intro xc; (try simp only [Bool.not_eq_true', Bool.not_eq_false'] at xc); have xp := xc; (try simp only [decide_eq_true_eq, decide_eq_false_iff_not, Int.not_lt, Int.not_le, ge_iff_le, gt_iff_lt, Bool.and_eq_true, Bool.or_eq_false_iff] at xp); have xq := xp; (first | simp only [← Int.not_le] at xq | simp only [← Int.not_lt] at xq | clear xq))) | ((fail_if_success (refine ⟨_, ?_, ?_⟩)); refine ⟨AV.any, ?_⟩) | refine ret_frz rfl ?_ (by simp [push_cast]) (by simp [push_cast, hg, hg', hd', hw, hkb]) (by simp [push_cast, hg, hg', hd', hw, hkb]) | refine end_frz rfl ?_ (by simp [push_cast]) (by simp [push_cast, hg, hg', hd', hw, hkb]) (by simp [push_cast, hg, hg', hd', hw, hkb]) | refine ret_now (by simp [push_cast]) ?_ (by simp [push_cast]) | refine end_now (by simp [push_cast]) ?_ (by simp [push_cast])) <;> (try simp only [push_cast, seval, reduceCtorEq, *, hg, hg', hd', hw, hkb]))
        | ((first | refine cv_ptE rfl rfl rfl rfl rfl ?_ | refine outQ_frz rfl ?_ (by simp [push_cast]) (by simp [push_cast, hg, hg', hd', hw, hkb]) | refine dfr_end (by simp) rfl ?_ (by simp [push_cast]) (by simp [push_cast, hg, hg', hd', hw, hkb])) <;> (try simp only [push_cast, seval, reduceCtorEq, hg, hg', hd', hw, hkb]))
        | exact cv_slE rfl rfl ⟨rfl, rfl⟩ (by simp) (by simp [take_map_len])
        | refine outQ_pan ?_ (by simp [push_cast])
        | refine outQ_unit ?_
        | refine outQ_unitN ?_
        | refine And.intro ?_ ?_
        | omega)
      all_goals (try simp only [push_cast, seval, reduceCtorEq, hg, hg', hd', hw, hkb])
      all_goals first
        | (simp only [*, hg, hg', hd', hw, hkb]; done)
        | (simp [*, hg, hg', hd', hw, hkb]; done)
        | (simp_all [hg, hg', hd', hw, hkb]; done)
        | (simp_all [hg, hg', hd', hw, hkb]; omega)
        | (simp; intro e; subst e; simp_all; done)
        | skip
      all_goals (refine rnd_to _ _ _ (k + 1) ⟨by omega, by rw [hst]; simp_all⟩ (by first | omega | (dsimp only; omega)) ?_; refine Wk.ren (fun _ => false) (fun i => i) (by simp) (by simp) ?_ ?_ (by simp) <;> (try simp only [push_cast, Nat.reduceBEq, Nat.reduceLeDiff, Nat.reduceAdd]) <;> (repeat' (first | exact trivial | (refine cv_ptE rfl rfl rfl rfl rfl ?_; simp only [push_cast, Nat.reduceBEq, Nat.reduceLeDiff, Nat.reduceAdd]) | exact cv_slE rfl rfl ⟨rfl, rfl⟩ (by simp) (by simp [take_map_len]) | exact cv_slG rfl rfl ⟨rfl, rfl⟩ (by simp) (by first | rfl | (simp; done)) (by first | rfl | (simp; done) | (simp; omega)) (by simp [push_cast]) | exact cv_ros_self (by simp [push_cast]) | exact bel_ros_cl (by simp [push_cast]) | exact cellsCv_eq (by simp [take_map_len]) (by simp [push_cast]) | refine And.intro ?_ ?_ | rfl | omega | (simp; done) | (simp; omega))))
    · have hd' := dge hk'
      have : a = b := by rw [List.take_of_length_le hk', List.take_of_length_le (by omega)] at heq; exact heq
      (try simp only [push_cast, seval, reduceCtorEq, hd'])
      repeat' (first
        | ((first | ((first | refine brX_split ?_ ?_ | refine gX_split ?_ ?_ | refine hX_split ?_ ?_ | refine outK_split ?_ ?_) <;> (intro xc; (try simp only [Bool.not_eq_true', Bool.not_eq_false'] at xc); have xp := xc; (try simp only [decide_eq_true_eq, decide_eq_false_iff_not, Int.not_lt, Int.not_le, ge_iff_le, gt_iff_lt, Bool.and_eq_true, Bool.or_eq_false_iff] at xp); have xq := xp; (first | simp only [← Int.not_le] at xq | simp only [← Int.not_lt] at xq | clear xq))) | ((fail_if_success (refine ⟨_, ?_, ?_⟩)); refine ⟨AV.any, ?_⟩) | refine ret_frz rfl ?_ (by simp [push_cast]) (by simp [push_cast, hd']) (by simp [push_cast, hd']) | refine end_frz rfl ?_ (by simp [push_cast]) (by simp [push_cast, hd']) (by simp [push_cast, hd']) | refine ret_now (by simp [push_cast]) ?_ (by simp [push_cast]) | refine end_now (by simp [push_cast]) ?_ (by simp [push_cast])) <;> (try simp only [push_cast, seval, reduceCtorEq, *, hd']))
        | ((first | refine cv_ptE rfl rfl rfl rfl rfl ?_ | refine outQ_frz rfl ?_ (by simp [push_cast]) (by simp [push_cast, hd']) | refine dfr_end (by simp) rfl ?_ (by simp [push_cast]) (by simp [push_cast, hd'])) <;> (try simp only [push_cast, seval, reduceCtorEq, hd']))
        | exact cv_slE rfl rfl ⟨rfl, rfl⟩ (by simp) (by simp [take_map_len])
        | refine outQ_pan ?_ (by simp [push_cast])
        | refine outQ_unit ?_
        | refine outQ_unitN ?_
        | refine And.intro ?_ ?_
        | omega)
      all_goals (try simp only [push_cast, seval, reduceCtorEq, hd', this])
      all_goals first
        | (simp only [*, hd', this]; done)
        | (simp [*, hd', this]; done)
        | (simp_all [hd', this]; done)
        | (simp_all [hd', this]; omega)
        | skip
  · have : ¬ a = b := by rintro rfl; exact hlen rfl
    (try simp only [push_cast, seval, reduceCtorEq, hlen])
    repeat' (first
      | ((first | ((first | refine brX_split ?_ ?_ | refine gX_split ?_ ?_ | refine hX_split ?_ ?_ | refine outK_split ?_ ?_) <;> (intro xc; (try simp only [Bool.not_eq_true', Bool.not_eq_false'] at xc); have xp := xc; (try simp only [decide_eq_true_eq, decide_eq_false_iff_not, Int.not_lt, Int.not_le, ge_iff_le, gt_iff_lt, Bool.and_eq_true, Bool.or_eq_false_iff] at xp); have xq := xp; (first | simp only [← Int.not_le] at xq | simp only [← Int.not_lt] at xq | clear xq))) | ((fail_if_success (refine ⟨_, ?_, ?_⟩)); refine ⟨AV.any, ?_⟩) | refine ret_frz rfl ?_ (by simp [push_cast]) (by simp [push_cast, hlen]) (by simp [push_cast, hlen]) | refine end_frz rfl ?_ (by simp [push_cast]) (by simp [push_cast, hlen]) (by simp [push_cast, hlen]) | refine ret_now (by simp [push_cast]) ?_ (by simp [push_cast]) | refine end_now (by simp [push_cast]) ?_ (by simp [push_cast])) <;> (try simp only [push_cast, seval, reduceCtorEq, *, hlen]))
      | ((first | refine cv_ptE rfl rfl rfl rfl rfl ?_ | refine outQ_frz rfl ?_ (by simp [push_cast]) (by simp [push_cast, hlen]) | refine dfr_end (by simp) rfl ?_ (by simp [push_cast]) (by simp [push_cast, hlen])) <;> (try simp only [push_cast, seval, reduceCtorEq, hlen]))
      | exact cv_slE rfl rfl ⟨rfl, rfl⟩ (by simp) (by simp [take_map_len])
      | refine outQ_pan ?_ (by simp [push_cast])
      | refine outQ_unit ?_
      | refine outQ_unitN ?_
      | refine And.intro ?_ ?_
      | omega)
    all_goals (try simp only [push_cast, seval, reduceCtorEq, hlen, this])
    all_goals first
      | (simp only [*, hlen, this]; done)
      | (simp [*, hlen, this]; done)
      | (simp_all [hlen, this]; done)
      | (simp_all [hlen, this]; omega)
      | skip
theorem queued_p (b : Bk) (m : Tm) (hl : b.os.length < 2 ^ 40) : PCall prog 81 [.agg (ldc b m)] (intsV (nwU isQ b.os b.os.length)) := by
  obtain ⟨c, hb, hl⟩ := l81
  refine pcall_of mixed e81 hb rfl hl r81 (by rw [n81]; simp) ?_
  clear hb hl c
  (try simp only [push_cast, seval, reduceCtorEq])
  repeat' (first
    | ((first | ((first | refine brX_split ?_ ?_ | refine gX_split ?_ ?_ | refine hX_split ?_ ?_ | refine outK_split ?_ ?_) <;> (intro xc; (try simp only [Bool.not_eq_true', Bool.not_eq_false'] at xc); have xp := xc; (try simp only [decide_eq_true_eq, decide_eq_false_iff_not, Int.not_lt, Int.not_le, ge_iff_le, gt_iff_lt, Bool.and_eq_true, Bool.or_eq_false_iff] at xp); have xq := xp; (first | simp only [← Int.not_le] at xq | simp only [← Int.not_lt] at xq | clear xq))) | refine ⟨.ret _, _, PCall.s (by first | exact numbersWhere_p _ hl) (by simp [push_cast]), ?_⟩ | refine ⟨.ret _, _, RCall.s (RCall.sh (by first | exact numbersWhere_p _ hl)) (by simp [push_cast]), ?_⟩ | refine ⟨_, _, SCall.lift (by first | exact numbersWhere_p _ hl) (outR_cl (by simp [push_cast]) (by simp [push_cast])) (by simp [push_cast]), ?_⟩ | refine ⟨_, (by first | exact numbersWhere_p _ hl), ?_⟩ | refine ⟨0, [], _, PCall.r (by first | exact numbersWhere_p _ hl), ?_⟩ | refine ⟨_, _, (by first | exact numbersWhere_p _ hl), ?_⟩ | refine ⟨_, _, _, RCall.sh (by first | exact numbersWhere_p _ hl), ?_⟩ | refine ⟨_, _, _, (by first | exact numbersWhere_p _ hl), ?_⟩ | ((fail_if_success (refine ⟨_, ?_, ?_⟩)); refine ⟨AV.any, ?_⟩) | refine ret_frz rfl ?_ (by simp [push_cast]) (by simp [push_cast]) (by simp [push_cast]) | refine end_frz rfl ?_ (by simp [push_cast]) (by simp [push_cast]) (by simp [push_cast]) | refine ret_now (by simp [push_cast]) ?_ (by simp [push_cast]) | refine end_now (by simp [push_cast]) ?_ (by simp [push_cast])) <;> (try simp only [push_cast, seval, reduceCtorEq, *]))
    | ((first | refine cv_ptE rfl rfl rfl rfl rfl ?_ | refine outQ_frz rfl ?_ (by simp [push_cast]) (by simp [push_cast]) | refine dfr_end (by simp) rfl ?_ (by simp [push_cast]) (by simp [push_cast])) <;> (try simp only [push_cast, seval, reduceCtorEq]))
    | exact cv_slE rfl rfl ⟨rfl, rfl⟩ (by simp) (by simp [take_map_len])
    | refine outQ_pan ?_ (by simp [push_cast])
    | refine outQ_unit ?_
    | refine outQ_unitN ?_
    | refine And.intro ?_ ?_
    | omega)
  all_goals (try simp only [push_cast, seval, reduceCtorEq])
  all_goals first
    | (simp only [*]; done)
    | (simp [*]; done)
    | (simp_all []; done)
    | (simp_all []; omega)
    | skip
def queB (b : Bk) (m : Tm) : Bool := decide ((b.q.length : Int) ≤ m.qu) && decide (b.q = nwU isQ b.os b.os.length)
theorem checkQueue_p (b : Bk) (m : Tm) (hl : b.os.length < 2 ^ 40) (hq : b.q.length < 2 ^ 62) : SCall prog 78 [.agg (ldc b m)] ⟨0, []⟩ (outR (queB b m) (.tup []) (pe 8)) ⟨0, []⟩ := by
  have e1 := equal_p b.q (nwU isQ b.os b.os.length) hq
  obtain ⟨c, hb, hl⟩ := l78
  refine scall_of mixed e78 hb rfl hl r78 (by rw [n78]; simp) ?_
  clear hb hl c
  (try simp only [push_cast, seval, reduceCtorEq])
  repeat' (first
    | ((first | ((first | refine brX_split ?_ ?_ | refine gX_split ?_ ?_ | refine hX_split ?_ ?_ | refine outK_split ?_ ?_) <;> (intro xc; (try simp only [Bool.not_eq_true', Bool.not_eq_false'] at xc); have xp := xc; (try simp only [decide_eq_true_eq, decide_eq_false_iff_not, Int.not_lt, Int.not_le, ge_iff_le, gt_iff_lt, Bool.and_eq_true, Bool.or_eq_false_iff] at xp); have xq := xp; (first | simp only [← Int.not_le] at xq | simp only [← Int.not_lt] at xq | clear xq))) | refine ⟨.ret _, _, PCall.s (by first | exact queued_p b m hl | exact e1 | exact require_p _ _) (by simp [push_cast]), ?_⟩ | refine ⟨.ret _, _, RCall.s (RCall.sh (by first | exact queued_p b m hl | exact e1 | exact require_p _ _)) (by simp [push_cast]), ?_⟩ | refine ⟨_, _, SCall.lift (by first | exact queued_p b m hl | exact e1 | exact require_p _ _) (outR_cl (by simp [push_cast]) (by simp [push_cast])) (by simp [push_cast]), ?_⟩ | refine ⟨_, (by first | exact queued_p b m hl | exact e1 | exact require_p _ _), ?_⟩ | refine ⟨0, [], _, PCall.r (by first | exact queued_p b m hl | exact e1 | exact require_p _ _), ?_⟩ | refine ⟨_, _, (by first | exact queued_p b m hl | exact e1 | exact require_p _ _), ?_⟩ | refine ⟨_, _, _, RCall.sh (by first | exact queued_p b m hl | exact e1 | exact require_p _ _), ?_⟩ | refine ⟨_, _, _, (by first | exact queued_p b m hl | exact e1 | exact require_p _ _), ?_⟩ | ((fail_if_success (refine ⟨_, ?_, ?_⟩)); refine ⟨AV.any, ?_⟩) | refine ret_frz rfl ?_ (by simp [push_cast]) (by simp [push_cast]) (by simp [push_cast]) | refine end_frz rfl ?_ (by simp [push_cast]) (by simp [push_cast]) (by simp [push_cast]) | refine ret_now (by simp [push_cast]) ?_ (by simp [push_cast]) | refine end_now (by simp [push_cast]) ?_ (by simp [push_cast])) <;> (try simp only [push_cast, seval, reduceCtorEq, *]))
    | ((first | refine cv_ptE rfl rfl rfl rfl rfl ?_ | refine outQ_frz rfl ?_ (by simp [push_cast]) (by simp [push_cast]) | refine dfr_end (by simp) rfl ?_ (by simp [push_cast]) (by simp [push_cast])) <;> (try simp only [push_cast, seval, reduceCtorEq]))
    | exact cv_slE rfl rfl ⟨rfl, rfl⟩ (by simp) (by simp [take_map_len])
    | refine outQ_pan ?_ (by simp [push_cast])
    | refine outQ_unit ?_
    | refine outQ_unitN ?_
    | refine And.intro ?_ ?_
    | omega)
  all_goals (try simp only [push_cast, seval, reduceCtorEq, outR, queB])
  all_goals first
    | (simp only [*, outR, queB]; done)
    | (simp [*, outR, queB]; done)
    | (simp_all [outR, queB]; done)
    | (simp_all [outR, queB]; omega)
    | skip
theorem checkCount_p (b : Bk) (m : Tm) : SCall prog 79 [.agg (ldc b m)] ⟨0, []⟩ (outR (decide (cntE b.cw b.cm m.w m.qo = 0)) (.tup []) (pe 8)) ⟨0, []⟩ := by
  obtain ⟨c, hb, hl⟩ := l79
  refine scall_of mixed e79 hb rfl hl r79 (by rw [n79]; simp) ?_
  clear hb hl c
  (try simp only [push_cast, seval, reduceCtorEq])
  repeat' (first
    | ((first | ((first | refine brX_split ?_ ?_ | refine gX_split ?_ ?_ | refine hX_split ?_ ?_ | refine outK_split ?_ ?_) <;> (intro xc; (try simp only [Bool.not_eq_true', Bool.not_eq_false'] at xc); have xp := xc; (try simp only [decide_eq_true_eq, decide_eq_false_iff_not, Int.not_lt, Int.not_le, ge_iff_le, gt_iff_lt, Bool.and_eq_true, Bool.or_eq_false_iff] at xp); have xq := xp; (first | simp only [← Int.not_le] at xq | simp only [← Int.not_lt] at xq | clear xq))) | refine ⟨.ret _, _, PCall.s (by first | exact count_p _ _ _ _ | exact require_p _ _) (by simp [push_cast]), ?_⟩ | refine ⟨.ret _, _, RCall.s (RCall.sh (by first | exact count_p _ _ _ _ | exact require_p _ _)) (by simp [push_cast]), ?_⟩ | refine ⟨_, _, SCall.lift (by first | exact count_p _ _ _ _ | exact require_p _ _) (outR_cl (by simp [push_cast]) (by simp [push_cast])) (by simp [push_cast]), ?_⟩ | refine ⟨_, (by first | exact count_p _ _ _ _ | exact require_p _ _), ?_⟩ | refine ⟨0, [], _, PCall.r (by first | exact count_p _ _ _ _ | exact require_p _ _), ?_⟩ | refine ⟨_, _, (by first | exact count_p _ _ _ _ | exact require_p _ _), ?_⟩ | refine ⟨_, _, _, RCall.sh (by first | exact count_p _ _ _ _ | exact require_p _ _), ?_⟩ | refine ⟨_, _, _, (by first | exact count_p _ _ _ _ | exact require_p _ _), ?_⟩ | ((fail_if_success (refine ⟨_, ?_, ?_⟩)); refine ⟨AV.any, ?_⟩) | refine ret_frz rfl ?_ (by simp [push_cast]) (by simp [push_cast]) (by simp [push_cast]) | refine end_frz rfl ?_ (by simp [push_cast]) (by simp [push_cast]) (by simp [push_cast]) | refine ret_now (by simp [push_cast]) ?_ (by simp [push_cast]) | refine end_now (by simp [push_cast]) ?_ (by simp [push_cast])) <;> (try simp only [push_cast, seval, reduceCtorEq, *]))
    | ((first | refine cv_ptE rfl rfl rfl rfl rfl ?_ | refine outQ_frz rfl ?_ (by simp [push_cast]) (by simp [push_cast]) | refine dfr_end (by simp) rfl ?_ (by simp [push_cast]) (by simp [push_cast])) <;> (try simp only [push_cast, seval, reduceCtorEq]))
    | exact cv_slE rfl rfl ⟨rfl, rfl⟩ (by simp) (by simp [take_map_len])
    | refine outQ_pan ?_ (by simp [push_cast])
    | refine outQ_unit ?_
    | refine outQ_unitN ?_
    | refine And.intro ?_ ?_
    | omega)
  all_goals (try simp only [push_cast, seval, reduceCtorEq, outR])
  all_goals first
    | (simp only [*, outR]; done)
    | (simp [*, outR]; done)
    | (simp_all [outR]; done)
    | (simp_all [outR]; omega)
    | skip
end Go.Proofs.Ytffiicopifmmfaa
