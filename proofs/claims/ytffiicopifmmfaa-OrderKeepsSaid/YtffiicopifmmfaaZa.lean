/- Facts of the program over abstract values. No condition. -/
import Derived.Test.YtffiicopifmmfaaOrTa
import Derived.Test.YtffiicopifmmfaaAiZb
set_option linter.unusedSimpArgs false
set_option maxRecDepth 8000
namespace Go.Proofs.Ytffiicopifmmfaa
set_option linter.unusedSimpArgs false
set_option linter.unusedVariables false
set_option linter.unnecessarySimpa false
set_option linter.unusedSectionVars false
open Go.Proofs.Try
open Go.Proofs.Ytffiicopifmmfaa.Ai
set_option maxHeartbeats 4000000

def doneB (s f : Int) : Bool := bif decide (s = 4) then decide (1 ≤ f) && decide (f ≤ 4611686018427387904) else decide (f = 0)
def followsB (x y : Int) : Bool := bif decide (y = 2) || decide (y = 5) then decide (x = 1) else bif decide (y = 3) then decide (x = 2) else bif decide (y = 4) then decide (x = 3) else false
def stateB (n : Int) : Bool := decide (1 ≤ n) && decide (n ≤ 5)
def inB (lo hi n : Int) : Bool := decide (lo ≤ n) && decide (n ≤ hi)
def orderB (i p d s a f : Int) : Bool := inB 1 64 i && (inB 0 2 p && inB 0 2 d) && stateB s && decide (a ≤ 4611686018427387904) && doneB s f

theorem isState_p (n : Int) : PCall prog 47 [.int .u8 n] (.bool (stateB n)) := by
  obtain ⟨c, hb, hl⟩ := l47
  refine pcall_of mixed e47 hb rfl hl r47 (by rw [n47]; simp) ?_
  clear hb hl c
  (try simp only [push_cast, seval, reduceCtorEq])
  repeat' (first
    | ((first | ((first | refine brX_split ?_ ?_ | refine gX_split ?_ ?_ | refine hX_split ?_ ?_ | refine outK_split ?_ ?_) <;> (intro xc; (try simp only [Bool.not_eq_true', Bool.not_eq_false'] at xc); have xp := xc; (try simp only [decide_eq_true_eq, decide_eq_false_iff_not, Int.not_lt, Int.not_le, ge_iff_le, gt_iff_lt, Bool.and_eq_true, Bool.or_eq_false_iff] at xp); have xq := xp; (first | simp only [← Int.not_le] at xq | simp only [← Int.not_lt] at xq | clear xq))) | ((fail_if_success (refine ⟨_, ?_, ?_⟩)); refine ⟨AV.any, ?_⟩) | refine ret_frz rfl ?_ (by simp [push_cast]) (by simp [push_cast]) (by simp [push_cast]) | refine end_frz rfl ?_ (by simp [push_cast]) (by simp [push_cast]) (by simp [push_cast]) | refine ret_now (by simp [push_cast]) ?_ (by simp [push_cast]) | refine end_now (by simp [push_cast]) ?_ (by simp [push_cast])) <;> (try simp only [push_cast, seval, reduceCtorEq, *]))
    | ((first | refine cv_ptE rfl rfl rfl rfl rfl ?_ | refine outQ_frz rfl ?_ (by simp [push_cast]) (by simp [push_cast]) | refine dfr_end (by simp) rfl ?_ (by simp [push_cast]) (by simp [push_cast])) <;> (try simp only [push_cast, seval, reduceCtorEq]))
    | exact cv_slE rfl rfl ⟨rfl, rfl⟩ (by simp) (by simp [take_map_len])
    | refine outQ_pan ?_ (by simp [push_cast])
    | refine outQ_unit ?_
    | refine outQ_unitN ?_
    | refine And.intro ?_ ?_
    | omega)
  all_goals (try simp only [push_cast, seval, reduceCtorEq, stateB])
  all_goals first
    | (simp only [*, stateB]; done)
    | (simp [*, stateB]; done)
    | (simp_all [stateB]; done)
    | (simp_all [stateB]; omega)
    | skip
theorem done_p (i p d s a f : Int) : PCall prog 57 [.agg [.int .i64 i, .int .i64 p, .int .i64 d, .int .u8 s, .int .u64 a, .int .u64 f]] (.bool (doneB s f)) := by
  obtain ⟨c, hb, hl⟩ := l57
  refine pcall_of mixed e57 hb rfl hl r57 (by rw [n57]; simp) ?_
  clear hb hl c
  (try simp only [push_cast, seval, reduceCtorEq])
  repeat' (first
    | ((first | ((first | refine brX_split ?_ ?_ | refine gX_split ?_ ?_ | refine hX_split ?_ ?_ | refine outK_split ?_ ?_) <;> (intro xc; (try simp only [Bool.not_eq_true', Bool.not_eq_false'] at xc); have xp := xc; (try simp only [decide_eq_true_eq, decide_eq_false_iff_not, Int.not_lt, Int.not_le, ge_iff_le, gt_iff_lt, Bool.and_eq_true, Bool.or_eq_false_iff] at xp); have xq := xp; (first | simp only [← Int.not_le] at xq | simp only [← Int.not_lt] at xq | clear xq))) | ((fail_if_success (refine ⟨_, ?_, ?_⟩)); refine ⟨AV.any, ?_⟩) | refine ret_frz rfl ?_ (by simp [push_cast]) (by simp [push_cast]) (by simp [push_cast]) | refine end_frz rfl ?_ (by simp [push_cast]) (by simp [push_cast]) (by simp [push_cast]) | refine ret_now (by simp [push_cast]) ?_ (by simp [push_cast]) | refine end_now (by simp [push_cast]) ?_ (by simp [push_cast])) <;> (try simp only [push_cast, seval, reduceCtorEq, *]))
    | ((first | refine cv_ptE rfl rfl rfl rfl rfl ?_ | refine outQ_frz rfl ?_ (by simp [push_cast]) (by simp [push_cast]) | refine dfr_end (by simp) rfl ?_ (by simp [push_cast]) (by simp [push_cast])) <;> (try simp only [push_cast, seval, reduceCtorEq]))
    | exact cv_slE rfl rfl ⟨rfl, rfl⟩ (by simp) (by simp [take_map_len])
    | refine outQ_pan ?_ (by simp [push_cast])
    | refine outQ_unit ?_
    | refine outQ_unitN ?_
    | refine And.intro ?_ ?_
    | omega)
  all_goals (try simp only [push_cast, seval, reduceCtorEq, doneB])
  all_goals first
    | (simp only [*, doneB]; done)
    | (simp [*, doneB]; done)
    | (simp_all [doneB]; done)
    | (simp_all [doneB]; omega)
    | skip
theorem follows_p (x y : Int) : PCall prog 48 [.int .u8 x, .int .u8 y] (.bool (followsB x y)) := by
  obtain ⟨c, hb, hl⟩ := l48
  refine pcall_of mixed e48 hb rfl hl r48 (by rw [n48]; simp) ?_
  clear hb hl c
  (try simp only [push_cast, seval, reduceCtorEq])
  repeat' (first
    | ((first | ((first | refine brX_split ?_ ?_ | refine gX_split ?_ ?_ | refine hX_split ?_ ?_ | refine outK_split ?_ ?_) <;> (intro xc; (try simp only [Bool.not_eq_true', Bool.not_eq_false'] at xc); have xp := xc; (try simp only [decide_eq_true_eq, decide_eq_false_iff_not, Int.not_lt, Int.not_le, ge_iff_le, gt_iff_lt, Bool.and_eq_true, Bool.or_eq_false_iff] at xp); have xq := xp; (first | simp only [← Int.not_le] at xq | simp only [← Int.not_lt] at xq | clear xq))) | ((fail_if_success (refine ⟨_, ?_, ?_⟩)); refine ⟨AV.any, ?_⟩) | refine ret_frz rfl ?_ (by simp [push_cast]) (by simp [push_cast]) (by simp [push_cast]) | refine end_frz rfl ?_ (by simp [push_cast]) (by simp [push_cast]) (by simp [push_cast]) | refine ret_now (by simp [push_cast]) ?_ (by simp [push_cast]) | refine end_now (by simp [push_cast]) ?_ (by simp [push_cast])) <;> (try simp only [push_cast, seval, reduceCtorEq, *]))
    | ((first | refine cv_ptE rfl rfl rfl rfl rfl ?_ | refine outQ_frz rfl ?_ (by simp [push_cast]) (by simp [push_cast]) | refine dfr_end (by simp) rfl ?_ (by simp [push_cast]) (by simp [push_cast])) <;> (try simp only [push_cast, seval, reduceCtorEq]))
    | exact cv_slE rfl rfl ⟨rfl, rfl⟩ (by simp) (by simp [take_map_len])
    | refine outQ_pan ?_ (by simp [push_cast])
    | refine outQ_unit ?_
    | refine outQ_unitN ?_
    | refine And.intro ?_ ?_
    | omega)
  all_goals (try simp only [push_cast, seval, reduceCtorEq, followsB])
  all_goals first
    | (simp only [*, followsB]; done)
    | (simp [*, followsB]; done)
    | (simp_all [followsB]; done)
    | (simp_all [followsB]; omega)
    | skip
end Go.Proofs.Ytffiicopifmmfaa
