/- Facts of the program over abstract values. No condition. -/
import Derived.Test.YtffiicopifmmfaaZd
set_option linter.unusedSimpArgs false
set_option maxRecDepth 8000
namespace Go.Proofs.Ytffiicopifmmfaa
set_option linter.unusedSimpArgs false
set_option linter.unusedVariables false
set_option linter.unnecessarySimpa false
set_option linter.unusedSectionVars false
open Go.Proofs.Try
open Go.Proofs.Ytffiicopifmmfaa.Ai
set_option maxHeartbeats 4000000

def bookE (b : Bk) (m : Tm) : Int := bif teamB m then (bif ordsB m b.os && queB b m && decide (cntE b.cw b.cm m.w m.qo = 0) then 0 else 8) else 70
structure Fit (b : Bk) (m : Tm) : Prop where
  p : m.p.length < 2 ^ 44
  d : m.d.length < 2 ^ 44
  h : m.h.length < 2 ^ 44
  os : b.os.length < 2 ^ 44
  q : b.q.length < 2 ^ 44
theorem check_led (b : Bk) (m : Tm) (h : Fit b m) : PCall prog 55 [.agg (ldc b m)] (.int .i64 (bookE b m)) := by
  have a1 := checkTeam_p b m
  have a2 := checkOrders_p b m (by have := h.p; omega) (by have := h.d; omega)
  by_cases hl : b.os.length ≤ 64
  · have a3 := checkQueue_p b m (by omega) (by have := h.q; omega)
    have a4 := checkCount_p b m
    refine SCall.p (s1 := ⟨0, []⟩) (scall_defer mixed df55 (by rw [nt55]; simp) ?_) (.int _ _)
    simp only [q55A, seqR, push_cast, seval, reduceCtorEq]
    (try simp only [push_cast, seval, reduceCtorEq])
    repeat' (first
      | ((first | ((first | refine brX_split ?_ ?_ | refine gX_split ?_ ?_ | refine hX_split ?_ ?_ | refine outK_split ?_ ?_) <;> (intro xc; (try simp only [Bool.not_eq_true', Bool.not_eq_false'] at xc); have xp := xc; (try simp only [decide_eq_true_eq, decide_eq_false_iff_not, Int.not_lt, Int.not_le, ge_iff_le, gt_iff_lt, Bool.and_eq_true, Bool.or_eq_false_iff] at xp); have xq := xp; (first | simp only [← Int.not_le] at xq | simp only [← Int.not_lt] at xq | clear xq))) | refine ⟨.ret _, _, PCall.s (by first | assumption) (by simp [push_cast]), ?_⟩ | refine ⟨.ret _, _, RCall.s (RCall.sh (by first | assumption)) (by simp [push_cast]), ?_⟩ | refine ⟨_, _, SCall.lift (by first | assumption) (outR_cl (by simp [push_cast]) (by simp [push_cast])) (by simp [push_cast]), ?_⟩ | refine ⟨_, (by first | assumption), ?_⟩ | refine ⟨0, [], _, PCall.r (by first | assumption), ?_⟩ | refine ⟨_, _, (by first | assumption), ?_⟩ | refine ⟨_, _, _, RCall.sh (by first | assumption), ?_⟩ | refine ⟨_, _, _, (by first | assumption), ?_⟩ | ((fail_if_success (refine ⟨_, ?_, ?_⟩)); refine ⟨AV.any, ?_⟩) | refine ret_frz rfl ?_ (by simp [push_cast]) (by simp [push_cast]) (by simp [push_cast]) | refine end_frz rfl ?_ (by simp [push_cast]) (by simp [push_cast]) (by simp [push_cast]) | refine ret_now (by simp [push_cast]) ?_ (by simp [push_cast]) | refine end_now (by simp [push_cast]) ?_ (by simp [push_cast])) <;> (try simp only [push_cast, seval, reduceCtorEq, *]))
      | ((first | refine cv_ptE rfl rfl rfl rfl rfl ?_ | refine outQ_frz rfl ?_ (by simp [push_cast]) (by simp [push_cast]) | refine dfr_end (by simp) rfl ?_ (by simp [push_cast]) (by simp [push_cast])) <;> (try simp only [push_cast, seval, reduceCtorEq]))
      | exact cv_slE rfl rfl ⟨rfl, rfl⟩ (by simp) (by simp [take_map_len])
      | refine outQ_pan ?_ (by simp [push_cast])
      | refine outQ_unit ?_
      | refine outQ_unitN ?_
      | refine And.intro ?_ ?_
      | omega)
    all_goals (try simp only [push_cast, seval, reduceCtorEq, bookE])
    all_goals first
      | (simp only [*, bookE]; done)
      | (simp [*, bookE]; done)
      | (simp_all [bookE]; done)
      | (simp_all [bookE]; omega)
      | skip
  · have hob : ordsB m b.os = false := by
      have : ¬ ((b.os.length : Int) ≤ 64) := by omega
      simp [ordsB, this]
    rw [hob] at a2
    simp only [outR, cond_false] at a2
    have a2' : SCall prog 77 [.agg (ldc b m)] ⟨0, []⟩ (outR false (.tup []) (pe 8)) ⟨0, []⟩ := a2
    clear a2
    refine SCall.p (s1 := ⟨0, []⟩) (scall_defer mixed df55 (by rw [nt55]; simp) ?_) (.int _ _)
    simp only [q55A, seqR, push_cast, seval, reduceCtorEq]
    (try simp only [push_cast, seval, reduceCtorEq])
    repeat' (first
      | ((first | ((first | refine brX_split ?_ ?_ | refine gX_split ?_ ?_ | refine hX_split ?_ ?_ | refine outK_split ?_ ?_) <;> (intro xc; (try simp only [Bool.not_eq_true', Bool.not_eq_false'] at xc); have xp := xc; (try simp only [decide_eq_true_eq, decide_eq_false_iff_not, Int.not_lt, Int.not_le, ge_iff_le, gt_iff_lt, Bool.and_eq_true, Bool.or_eq_false_iff] at xp); have xq := xp; (first | simp only [← Int.not_le] at xq | simp only [← Int.not_lt] at xq | clear xq))) | refine ⟨.ret _, _, PCall.s (by first | assumption | exact a2') (by simp [push_cast]), ?_⟩ | refine ⟨.ret _, _, RCall.s (RCall.sh (by first | assumption | exact a2')) (by simp [push_cast]), ?_⟩ | refine ⟨_, _, SCall.lift (by first | assumption | exact a2') (outR_cl (by simp [push_cast]) (by simp [push_cast])) (by simp [push_cast]), ?_⟩ | refine ⟨_, (by first | assumption | exact a2'), ?_⟩ | refine ⟨0, [], _, PCall.r (by first | assumption | exact a2'), ?_⟩ | refine ⟨_, _, (by first | assumption | exact a2'), ?_⟩ | refine ⟨_, _, _, RCall.sh (by first | assumption | exact a2'), ?_⟩ | refine ⟨_, _, _, (by first | assumption | exact a2'), ?_⟩ | ((fail_if_success (refine ⟨_, ?_, ?_⟩)); refine ⟨AV.any, ?_⟩) | refine ret_frz rfl ?_ (by simp [push_cast]) (by simp [push_cast]) (by simp [push_cast]) | refine end_frz rfl ?_ (by simp [push_cast]) (by simp [push_cast]) (by simp [push_cast]) | refine ret_now (by simp [push_cast]) ?_ (by simp [push_cast]) | refine end_now (by simp [push_cast]) ?_ (by simp [push_cast])) <;> (try simp only [push_cast, seval, reduceCtorEq, *]))
      | ((first | refine cv_ptE rfl rfl rfl rfl rfl ?_ | refine outQ_frz rfl ?_ (by simp [push_cast]) (by simp [push_cast]) | refine dfr_end (by simp) rfl ?_ (by simp [push_cast]) (by simp [push_cast])) <;> (try simp only [push_cast, seval, reduceCtorEq]))
      | exact cv_slE rfl rfl ⟨rfl, rfl⟩ (by simp) (by simp [take_map_len])
      | refine outQ_pan ?_ (by simp [push_cast])
      | refine outQ_unit ?_
      | refine outQ_unitN ?_
      | refine And.intro ?_ ?_
      | omega)
    all_goals (try simp only [push_cast, seval, reduceCtorEq, bookE, hob])
    all_goals first
      | (simp only [*, bookE, hob]; done)
      | (simp [*, bookE, hob]; done)
      | (simp_all [bookE, hob]; done)
      | (simp_all [bookE, hob]; omega)
      | skip
end Go.Proofs.Ytffiicopifmmfaa
