/- Facts of the program over abstract values. No condition. -/
import Derived.Test.YtffiicopifmmfaaZd
set_option linter.unusedSimpArgs false
set_option maxRecDepth 8000
namespace Go.Proofs.Ytffiicopifmmfaa
set_option linter.unusedSimpArgs false
set_option linter.unusedVariables false
set_option linter.unnecessarySimpa false
set_option linter.unusedSectionVars false
open Go.Proofs.Try
open Go.Proofs.Ytffiicopifmmfaa.Ai
set_option maxHeartbeats 4000000

/-! The reference's. -/
theorem between_p (n k : Int) : PCall prog 69 [.int .i64 n, .int .i64 k] (.bool (inB 1 k n)) := by
  obtain ⟨c, hb, hl⟩ := l69
  refine pcall_of mixed e69 hb rfl hl r69 (by rw [n69]; simp) ?_
  clear hb hl c
  (try simp only [push_cast, seval, reduceCtorEq])
  repeat' (first
    | ((first | ((first | refine brX_split ?_ ?_ | refine gX_split ?_ ?_ | refine hX_split ?_ ?_ | refine outK_split ?_ ?_) <;> (intro xc; (try simp only [Bool.not_eq_true', Bool.not_eq_false'] at xc); have xp := xc; (try simp only [decide_eq_true_eq, decide_eq_false_iff_not, Int.not_lt, Int.not_le, ge_iff_le, gt_iff_lt, Bool.and_eq_true, Bool.or_eq_false_iff] at xp); have xq := xp; (first | simp only [← Int.not_le] at xq | simp only [← Int.not_lt] at xq | clear xq))) | ((fail_if_success (refine ⟨_, ?_, ?_⟩)); refine ⟨AV.any, ?_⟩) | refine ret_frz rfl ?_ (by simp [push_cast]) (by simp [push_cast]) (by simp [push_cast]) | refine end_frz rfl ?_ (by simp [push_cast]) (by simp [push_cast]) (by simp [push_cast]) | refine ret_now (by simp [push_cast]) ?_ (by simp [push_cast]) | refine end_now (by simp [push_cast]) ?_ (by simp [push_cast])) <;> (try simp only [push_cast, seval, reduceCtorEq, *]))
    | ((first | refine cv_ptE rfl rfl rfl rfl rfl ?_ | refine outQ_frz rfl ?_ (by simp [push_cast]) (by simp [push_cast]) | refine dfr_end (by simp) rfl ?_ (by simp [push_cast]) (by simp [push_cast])) <;> (try simp only [push_cast, seval, reduceCtorEq]))
    | exact cv_slE rfl rfl ⟨rfl, rfl⟩ (by simp) (by simp [take_map_len])
    | refine outQ_pan ?_ (by simp [push_cast])
    | refine outQ_unit ?_
    | refine outQ_unitN ?_
    | refine And.intro ?_ ?_
    | omega)
  all_goals (try simp only [push_cast, seval, reduceCtorEq, inB])
  all_goals first
    | (simp only [*, inB]; done)
    | (simp [*, inB]; done)
    | (simp_all [inB]; done)
    | (simp_all [inB]; omega)
    | skip
theorem refNumbers_p (m : Tm) : PCall prog 42 [.agg (tmc m)] (.bool (teamB m)) := by
  obtain ⟨c, hb, hl⟩ := l42
  refine pcall_of mixed e42 hb rfl hl r42 (by rw [n42]; simp) ?_
  clear hb hl c
  (try simp only [push_cast, seval, reduceCtorEq])
  repeat' (first
    | ((first | ((first | refine brX_split ?_ ?_ | refine gX_split ?_ ?_ | refine hX_split ?_ ?_ | refine outK_split ?_ ?_) <;> (intro xc; (try simp only [Bool.not_eq_true', Bool.not_eq_false'] at xc); have xp := xc; (try simp only [decide_eq_true_eq, decide_eq_false_iff_not, Int.not_lt, Int.not_le, ge_iff_le, gt_iff_lt, Bool.and_eq_true, Bool.or_eq_false_iff] at xp); have xq := xp; (first | simp only [← Int.not_le] at xq | simp only [← Int.not_lt] at xq | clear xq))) | refine ⟨.ret _, _, PCall.s (by first | exact between_p _ _) (by simp [push_cast]), ?_⟩ | refine ⟨.ret _, _, RCall.s (RCall.sh (by first | exact between_p _ _)) (by simp [push_cast]), ?_⟩ | refine ⟨_, _, SCall.lift (by first | exact between_p _ _) (outR_cl (by simp [push_cast]) (by simp [push_cast])) (by simp [push_cast]), ?_⟩ | refine ⟨_, (by first | exact between_p _ _), ?_⟩ | refine ⟨0, [], _, PCall.r (by first | exact between_p _ _), ?_⟩ | refine ⟨_, _, (by first | exact between_p _ _), ?_⟩ | refine ⟨_, _, _, RCall.sh (by first | exact between_p _ _), ?_⟩ | refine ⟨_, _, _, (by first | exact between_p _ _), ?_⟩ | ((fail_if_success (refine ⟨_, ?_, ?_⟩)); refine ⟨AV.any, ?_⟩) | refine ret_frz rfl ?_ (by simp [push_cast]) (by simp [push_cast]) (by simp [push_cast]) | refine end_frz rfl ?_ (by simp [push_cast]) (by simp [push_cast]) (by simp [push_cast]) | refine ret_now (by simp [push_cast]) ?_ (by simp [push_cast]) | refine end_now (by simp [push_cast]) ?_ (by simp [push_cast])) <;> (try simp only [push_cast, seval, reduceCtorEq, *]))
    | ((first | refine cv_ptE rfl rfl rfl rfl rfl ?_ | refine outQ_frz rfl ?_ (by simp [push_cast]) (by simp [push_cast]) | refine dfr_end (by simp) rfl ?_ (by simp [push_cast]) (by simp [push_cast])) <;> (try simp only [push_cast, seval, reduceCtorEq]))
    | exact cv_slE rfl rfl ⟨rfl, rfl⟩ (by simp) (by simp [take_map_len])
    | refine outQ_pan ?_ (by simp [push_cast])
    | refine outQ_unit ?_
    | refine outQ_unitN ?_
    | refine And.intro ?_ ?_
    | omega)
  all_goals (try simp only [push_cast, seval, reduceCtorEq, teamB])
  all_goals first
    | (simp only [*, teamB]; done)
    | (simp [*, teamB]; done)
    | (simp_all [teamB]; done)
    | (simp_all [teamB]; omega)
    | skip
end Go.Proofs.Ytffiicopifmmfaa
