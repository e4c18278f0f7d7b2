/- Facts of the program over abstract values. No condition. -/
import Derived.Test.YtffiicopifmmfaaZb
set_option linter.unusedSimpArgs false
set_option maxRecDepth 8000
namespace Go.Proofs.Ytffiicopifmmfaa
set_option linter.unusedSimpArgs false
set_option linter.unusedVariables false
set_option linter.unnecessarySimpa false
set_option linter.unusedSectionVars false
open Go.Proofs.Try
open Go.Proofs.Ytffiicopifmmfaa.Ai
set_option maxHeartbeats 4000000

structure Tm where
  (h p d : List Int)
  (l u qu qo w : Int)
abbrev tmc (m : Tm) : List AV := [intsV m.h, intsV m.p, intsV m.d, .int .i64 m.l, .int .i64 m.u, .int .i64 m.qu, .int .i64 m.qo, .int .i64 m.w]
structure Bk where
  (os : List O)
  (q : List Int)
  (cw cm : Int)
abbrev bkc (b : Bk) : List AV := [ordsV b.os, intsV b.q, .int .u64 b.cw, .int .i64 b.cm]
abbrev ldc (b : Bk) (m : Tm) : List AV := [ordsV b.os, intsV b.q, .int .u64 b.cw, .int .i64 b.cm, intsV m.h, intsV m.p, intsV m.d, .int .i64 m.l, .int .i64 m.u, .int .i64 m.qu, .int .i64 m.qo, .int .i64 m.w]
abbrev pe (e : Int) : AV := .ifc 25 (.int .i64 e)

theorem require_p (b : Bool) (e : Int) : SCall prog 82 [.bool b, .int .i64 e] ⟨0, []⟩ (outR b (.tup []) (pe e)) ⟨0, []⟩ := by
  obtain ⟨c, hb, hl⟩ := l82
  refine scall_of mixed e82 hb rfl hl r82 (by rw [n82]; simp) ?_
  clear hb hl c
  (try simp only [push_cast, seval, reduceCtorEq])
  repeat' (first
    | ((first | ((first | refine brX_split ?_ ?_ | refine gX_split ?_ ?_ | refine hX_split ?_ ?_ | refine outK_split ?_ ?_) <;> (intro xc; (try simp only [Bool.not_eq_true', Bool.not_eq_false'] at xc); have xp := xc; (try simp only [decide_eq_true_eq, decide_eq_false_iff_not, Int.not_lt, Int.not_le, ge_iff_le, gt_iff_lt, Bool.and_eq_true, Bool.or_eq_false_iff] at xp); have xq := xp; (first | simp only [← Int.not_le] at xq | simp only [← Int.not_lt] at xq | clear xq))) | ((fail_if_success (refine ⟨_, ?_, ?_⟩)); refine ⟨AV.any, ?_⟩) | refine ret_frz rfl ?_ (by simp [push_cast]) (by simp [push_cast]) (by simp [push_cast]) | refine end_frz rfl ?_ (by simp [push_cast]) (by simp [push_cast]) (by simp [push_cast]) | refine ret_now (by simp [push_cast]) ?_ (by simp [push_cast]) | refine end_now (by simp [push_cast]) ?_ (by simp [push_cast])) <;> (try simp only [push_cast, seval, reduceCtorEq, *]))
    | ((first | refine cv_ptE rfl rfl rfl rfl rfl ?_ | refine outQ_frz rfl ?_ (by simp [push_cast]) (by simp [push_cast]) | refine dfr_end (by simp) rfl ?_ (by simp [push_cast]) (by simp [push_cast])) <;> (try simp only [push_cast, seval, reduceCtorEq]))
    | exact cv_slE rfl rfl ⟨rfl, rfl⟩ (by simp) (by simp [take_map_len])
    | refine outQ_pan ?_ (by simp [push_cast])
    | refine outQ_unit ?_
    | refine outQ_unitN ?_
    | refine And.intro ?_ ?_
    | omega)
  all_goals (try simp only [push_cast, seval, reduceCtorEq, outR])
  all_goals first
    | (simp only [*, outR]; done)
    | (simp [*, outR]; done)
    | (simp_all [outR]; done)
    | (simp_all [outR]; omega)
    | skip
def teamB (m : Tm) : Bool := inB 1 3 m.h.length && (inB 1 3 m.p.length && inB 1 3 m.d.length) && (inB 1 8 m.l && inB 1 8 m.u) && inB 1 8 m.qu && inB 1 16 m.qo && inB 1 64 m.w
theorem checkTeam_p (b : Bk) (m : Tm) : SCall prog 76 [.agg (ldc b m)] ⟨0, []⟩ (outR (teamB m) (.tup []) (pe 70)) ⟨0, []⟩ := by
  obtain ⟨c, hb, hl⟩ := l76
  refine scall_of mixed e76 hb rfl hl r76 (by rw [n76]; simp) ?_
  clear hb hl c
  (try simp only [push_cast, seval, reduceCtorEq])
  repeat' (first
    | ((first | ((first | refine brX_split ?_ ?_ | refine gX_split ?_ ?_ | refine hX_split ?_ ?_ | refine outK_split ?_ ?_) <;> (intro xc; (try simp only [Bool.not_eq_true', Bool.not_eq_false'] at xc); have xp := xc; (try simp only [decide_eq_true_eq, decide_eq_false_iff_not, Int.not_lt, Int.not_le, ge_iff_le, gt_iff_lt, Bool.and_eq_true, Bool.or_eq_false_iff] at xp); have xq := xp; (first | simp only [← Int.not_le] at xq | simp only [← Int.not_lt] at xq | clear xq))) | refine ⟨.ret _, _, PCall.s (by first | exact within1 _ _ _ | exact within2 _ _ _ _ | exact require_p _ _) (by simp [push_cast]), ?_⟩ | refine ⟨.ret _, _, RCall.s (RCall.sh (by first | exact within1 _ _ _ | exact within2 _ _ _ _ | exact require_p _ _)) (by simp [push_cast]), ?_⟩ | refine ⟨_, _, SCall.lift (by first | exact within1 _ _ _ | exact within2 _ _ _ _ | exact require_p _ _) (outR_cl (by simp [push_cast]) (by simp [push_cast])) (by simp [push_cast]), ?_⟩ | refine ⟨_, (by first | exact within1 _ _ _ | exact within2 _ _ _ _ | exact require_p _ _), ?_⟩ | refine ⟨0, [], _, PCall.r (by first | exact within1 _ _ _ | exact within2 _ _ _ _ | exact require_p _ _), ?_⟩ | refine ⟨_, _, (by first | exact within1 _ _ _ | exact within2 _ _ _ _ | exact require_p _ _), ?_⟩ | refine ⟨_, _, _, RCall.sh (by first | exact within1 _ _ _ | exact within2 _ _ _ _ | exact require_p _ _), ?_⟩ | refine ⟨_, _, _, (by first | exact within1 _ _ _ | exact within2 _ _ _ _ | exact require_p _ _), ?_⟩ | ((fail_if_success (refine ⟨_, ?_, ?_⟩)); refine ⟨AV.any, ?_⟩) | refine ret_frz rfl ?_ (by simp [push_cast]) (by simp [push_cast]) (by simp [push_cast]) | refine end_frz rfl ?_ (by simp [push_cast]) (by simp [push_cast]) (by simp [push_cast]) | refine ret_now (by simp [push_cast]) ?_ (by simp [push_cast]) | refine end_now (by simp [push_cast]) ?_ (by simp [push_cast])) <;> (try simp only [push_cast, seval, reduceCtorEq, *]))
    | ((first | refine cv_ptE rfl rfl rfl rfl rfl ?_ | refine outQ_frz rfl ?_ (by simp [push_cast]) (by simp [push_cast]) | refine dfr_end (by simp) rfl ?_ (by simp [push_cast]) (by simp [push_cast])) <;> (try simp only [push_cast, seval, reduceCtorEq]))
    | exact cv_slE rfl rfl ⟨rfl, rfl⟩ (by simp) (by simp [take_map_len])
    | refine outQ_pan ?_ (by simp [push_cast])
    | refine outQ_unit ?_
    | refine outQ_unitN ?_
    | refine And.intro ?_ ?_
    | omega)
  all_goals (try simp only [push_cast, seval, reduceCtorEq, outR, teamB])
  all_goals first
    | (simp only [*, outR, teamB]; done)
    | (simp [*, outR, teamB]; done)
    | (simp_all [outR, teamB]; done)
    | (simp_all [outR, teamB]; omega)
    | skip
def spotsB (m : Tm) (p d : Int) : Bool := inB 0 (m.p.length - 1) p && inB 0 (m.d.length - 1) d
theorem dec64 {n : Nat} (h : n < 2 ^ 62) : IntKind.i64.wrap ((n : Int) - 1) = (n : Int) - 1 := IntWalk.i64_in _ (by omega)
theorem hasSpots_p (b : Bk) (m : Tm) (p d : Int) (hp : m.p.length < 2 ^ 62) (hd : m.d.length < 2 ^ 62) : PCall prog 54 [.agg (ldc b m), .int .i64 p, .int .i64 d] (.bool (spotsB m p d)) := by
  have h1 := dec64 hp
  have h2 := dec64 hd
  obtain ⟨c, hb, hl⟩ := l54
  refine pcall_of mixed e54 hb rfl hl r54 (by rw [n54]; simp) ?_
  clear hb hl c
  (try simp only [push_cast, seval, reduceCtorEq, h1, h2])
  repeat' (first
    | ((first | ((first | refine brX_split ?_ ?_ | refine gX_split ?_ ?_ | refine hX_split ?_ ?_ | refine outK_split ?_ ?_) <;> (intro xc; (try simp only [Bool.not_eq_true', Bool.not_eq_false'] at xc); have xp := xc; (try simp only [decide_eq_true_eq, decide_eq_false_iff_not, Int.not_lt, Int.not_le, ge_iff_le, gt_iff_lt, Bool.and_eq_true, Bool.or_eq_false_iff] at xp); have xq := xp; (first | simp only [← Int.not_le] at xq | simp only [← Int.not_lt] at xq | clear xq))) | refine ⟨.ret _, _, PCall.s (by first | exact within1 _ _ _) (by simp [push_cast, h1, h2]), ?_⟩ | refine ⟨.ret _, _, RCall.s (RCall.sh (by first | exact within1 _ _ _)) (by simp [push_cast, h1, h2]), ?_⟩ | refine ⟨_, _, SCall.lift (by first | exact within1 _ _ _) (outR_cl (by simp [push_cast]) (by simp [push_cast])) (by simp [push_cast, h1, h2]), ?_⟩ | refine ⟨_, (by first | exact within1 _ _ _), ?_⟩ | refine ⟨0, [], _, PCall.r (by first | exact within1 _ _ _), ?_⟩ | refine ⟨_, _, (by first | exact within1 _ _ _), ?_⟩ | refine ⟨_, _, _, RCall.sh (by first | exact within1 _ _ _), ?_⟩ | refine ⟨_, _, _, (by first | exact within1 _ _ _), ?_⟩ | ((fail_if_success (refine ⟨_, ?_, ?_⟩)); refine ⟨AV.any, ?_⟩) | refine ret_frz rfl ?_ (by simp [push_cast]) (by simp [push_cast, h1, h2]) (by simp [push_cast, h1, h2]) | refine end_frz rfl ?_ (by simp [push_cast]) (by simp [push_cast, h1, h2]) (by simp [push_cast, h1, h2]) | refine ret_now (by simp [push_cast]) ?_ (by simp [push_cast]) | refine end_now (by simp [push_cast]) ?_ (by simp [push_cast])) <;> (try simp only [push_cast, seval, reduceCtorEq, *, h1, h2]))
    | ((first | refine cv_ptE rfl rfl rfl rfl rfl ?_ | refine outQ_frz rfl ?_ (by simp [push_cast]) (by simp [push_cast, h1, h2]) | refine dfr_end (by simp) rfl ?_ (by simp [push_cast]) (by simp [push_cast, h1, h2])) <;> (try simp only [push_cast, seval, reduceCtorEq, h1, h2]))
    | exact cv_slE rfl rfl ⟨rfl, rfl⟩ (by simp) (by simp [take_map_len])
    | refine outQ_pan ?_ (by simp [push_cast])
    | refine outQ_unit ?_
    | refine outQ_unitN ?_
    | refine And.intro ?_ ?_
    | omega)
  all_goals (try simp only [push_cast, seval, reduceCtorEq, h1, h2, spotsB])
  all_goals first
    | (simp only [*, h1, h2, spotsB]; done)
    | (simp [*, h1, h2, spotsB]; done)
    | (simp_all [h1, h2, spotsB]; done)
    | (simp_all [h1, h2, spotsB]; omega)
    | skip
def okO (m : Tm) (k : Nat) (o : O) : Bool := decide (o.i = (k : Int) + 1) && decide (chkE o.i o.p o.d o.s o.a o.f = 0) && spotsB m o.p o.d
def okU (m : Tm) (os : List O) : Nat → Bool
  | 0 => true
  | k + 1 => okU m os k && okO m k (os.getD k default)
theorem okU_step {m : Tm} {os : List O} {k : Nat} {x : O} (hx : os[k]? = some x) : okU m os (k + 1) = (okU m os k && okO m k x) := by
  simp [okU, List.getD, hx]
theorem okU_mono {m : Tm} {os : List O} : ∀ {j k : Nat}, k ≤ j → okU m os j = true → okU m os k = true
  | 0, k, h, h1 => by obtain rfl : k = 0 := by omega
                      exact h1
  | j + 1, k, h, h1 => by
    rcases Nat.lt_or_ge j k with h2 | h2
    · obtain rfl : k = j + 1 := by omega
      exact h1
    · simp only [okU, Bool.and_eq_true] at h1
      exact okU_mono h2 h1.1
theorem okU_bad {m : Tm} {os : List O} {k : Nat} {x : O} (hx : os[k]? = some x) (h : okO m k x = false) : okU m os os.length = false := by
  rw [Bool.eq_false_iff]; intro h1
  have := okU_mono (k := k + 1) (List.getElem?_eq_some_iff.1 hx).1 h1
  rw [okU_step hx, h] at this
  simp at this
def ordsB (m : Tm) (os : List O) : Bool := decide ((os.length : Int) ≤ 64) && okU m os os.length
theorem checkOrders_p (b : Bk) (m : Tm) (hp : m.p.length < 2 ^ 62) (hd : m.d.length < 2 ^ 62) : SCall prog 77 [.agg (ldc b m)] ⟨0, []⟩ (outR (ordsB m b.os) (.tup []) (pe 8)) ⟨0, []⟩ := by
  obtain ⟨os, q, cw, cm⟩ := b
  obtain ⟨c, hb, hl⟩ := l77
  refine scall_of mixed e77 hb rfl hl r77 (by rw [n77]; simp) ?_
  clear hb hl c
  (try simp only [push_cast, seval, reduceCtorEq])
  repeat' (first
    | ((first | ((first | refine brX_split ?_ ?_ | refine gX_split ?_ ?_ | refine hX_split ?_ ?_ | refine outK_split ?_ ?_) <;> (intro xc; (try simp only [Bool.not_eq_true', Bool.not_eq_false'] at xc); have xp := xc; (try simp only [decide_eq_true_eq, decide_eq_false_iff_not, Int.not_lt, Int.not_le, ge_iff_le, gt_iff_lt, Bool.and_eq_true, Bool.or_eq_false_iff] at xp); have xq := xp; (first | simp only [← Int.not_le] at xq | simp only [← Int.not_lt] at xq | clear xq))) | refine ⟨.ret _, _, PCall.s (by first | exact require_p _ _) (by simp [push_cast]), ?_⟩ | refine ⟨.ret _, _, RCall.s (RCall.sh (by first | exact require_p _ _)) (by simp [push_cast]), ?_⟩ | refine ⟨_, _, SCall.lift (by first | exact require_p _ _) (outR_cl (by simp [push_cast]) (by simp [push_cast])) (by simp [push_cast]), ?_⟩ | refine ⟨_, (by first | exact require_p _ _), ?_⟩ | refine ⟨0, [], _, PCall.r (by first | exact require_p _ _), ?_⟩ | refine ⟨_, _, (by first | exact require_p _ _), ?_⟩ | refine ⟨_, _, _, RCall.sh (by first | exact require_p _ _), ?_⟩ | refine ⟨_, _, _, (by first | exact require_p _ _), ?_⟩ | ((fail_if_success (refine ⟨_, ?_, ?_⟩)); refine ⟨AV.any, ?_⟩) | refine ret_frz rfl ?_ (by simp [push_cast]) (by simp [push_cast]) (by simp [push_cast]) | refine end_frz rfl ?_ (by simp [push_cast]) (by simp [push_cast]) (by simp [push_cast]) | refine ret_now (by simp [push_cast]) ?_ (by simp [push_cast]) | refine end_now (by simp [push_cast]) ?_ (by simp [push_cast])) <;> (try simp only [push_cast, seval, reduceCtorEq, *]))
    | ((first | refine cv_ptE rfl rfl rfl rfl rfl ?_ | refine outQ_frz rfl ?_ (by simp [push_cast]) (by simp [push_cast]) | refine dfr_end (by simp) rfl ?_ (by simp [push_cast]) (by simp [push_cast])) <;> (try simp only [push_cast, seval, reduceCtorEq]))
    | exact cv_slE rfl rfl ⟨rfl, rfl⟩ (by simp) (by simp [take_map_len])
    | refine outQ_pan ?_ (by simp [push_cast])
    | refine outQ_unit ?_
    | refine outQ_unitN ?_
    | refine And.intro ?_ ?_
    | omega)
  all_goals (try simp only [push_cast, seval, reduceCtorEq, ordsB, outR])
  all_goals first
    | (simp only [*, ordsB, outR]; done)
    | (simp [*, ordsB, outR]; done)
    | (simp_all [ordsB, outR]; done)
    | (simp_all [ordsB, outR]; omega)
    | skip
  have hlen : os.length ≤ 64 := by omega
  refine w_loopS (fun k : Nat => ([(1, .pt 0 12 0 0), (12, ordsV os), (13, .int .i64 os.length), (14, .int .i64 k)], ⟨1, [(0, ⟨12, [ldc ⟨os, q, cw, cm⟩ m]⟩)]⟩)) (fun k => k ≤ os.length ∧ okU m os k = true) (fun k => os.length - k) 0 ⟨Nat.zero_le _, rfl⟩ ?_ ?_
  · refine Wk.ren (fun _ => false) (fun i => i) (by simp) (by simp) ?_ ?_ (by simp) <;> (try simp only [push_cast, Nat.reduceBEq, Nat.reduceLeDiff, Nat.reduceAdd]) <;> (repeat' (first | exact trivial | (refine cv_ptE rfl rfl rfl rfl rfl ?_; simp only [push_cast, Nat.reduceBEq, Nat.reduceLeDiff, Nat.reduceAdd]) | exact cv_slE rfl rfl ⟨rfl, rfl⟩ (by simp) (by simp [take_map_len]) | exact cv_slG rfl rfl ⟨rfl, rfl⟩ (by simp) (by first | rfl | (simp; done)) (by first | rfl | (simp; done) | (simp; omega)) (by simp [push_cast]) | exact cv_ros_self (by simp [push_cast]) | exact bel_ros_cl (by simp [push_cast]) | exact cellsCv_eq (by simp [take_map_len]) (by simp [push_cast]) | refine And.intro ?_ ?_ | rfl | omega | (simp; done) | (simp; omega)))
  rintro k ⟨hk, hok⟩
  rcases Nat.lt_or_ge k os.length with hk' | hk'
  · obtain ⟨x, hx⟩ := lt_get hk'
    have hg := getD_map (enc := oc) hx
    have hd' := dlt hk'
    have hw := inc64 (k := k) (by omega)
    (try simp only [push_cast, seval, reduceCtorEq, hg, hd', hw])
    repeat' (first
      | ((first | ((first | refine brX_split ?_ ?_ | refine gX_split ?_ ?_ | refine hX_split ?_ ?_ | refine outK_split ?_ ?_) <;> (intro xc; (try simp only [Bool.not_eq_true', Bool.not_eq_false'] at xc); have xp := xc; (try simp only [decide_eq_true_eq, decide_eq_false_iff_not, Int.not_lt, Int.not_le, ge_iff_le, gt_iff_lt, Bool.and_eq_true, Bool.or_eq_false_iff] at xp); have xq := xp; (first | simp only [← Int.not_le] at xq | simp only [← Int.not_lt] at xq | clear xq))) | refine ⟨.ret _, _, PCall.s (by first | exact hasSpots_p ⟨_, _, _, _⟩ m _ _ hp hd | exact check_p _ _ _ _ _ _ | exact require_p _ _) (by simp [push_cast, hg, hd', hw]), ?_⟩ | refine ⟨.ret _, _, RCall.s (RCall.sh (by first | exact hasSpots_p ⟨_, _, _, _⟩ m _ _ hp hd | exact check_p _ _ _ _ _ _ | exact require_p _ _)) (by simp [push_cast, hg, hd', hw]), ?_⟩ | refine ⟨_, _, SCall.lift (by first | exact hasSpots_p ⟨_, _, _, _⟩ m _ _ hp hd | exact check_p _ _ _ _ _ _ | exact require_p _ _) (outR_cl (by simp [push_cast]) (by simp [push_cast])) (by simp [push_cast, hg, hd', hw]), ?_⟩ | refine ⟨_, (by first | exact hasSpots_p ⟨_, _, _, _⟩ m _ _ hp hd | exact check_p _ _ _ _ _ _ | exact require_p _ _), ?_⟩ | refine ⟨0, [], _, PCall.r (by first | exact hasSpots_p ⟨_, _, _, _⟩ m _ _ hp hd | exact check_p _ _ _ _ _ _ | exact require_p _ _), ?_⟩ | refine ⟨_, _, (by first | exact hasSpots_p ⟨_, _, _, _⟩ m _ _ hp hd | exact check_p _ _ _ _ _ _ | exact require_p _ _), ?_⟩ | refine ⟨_, _, _, RCall.sh (by first | exact hasSpots_p ⟨_, _, _, _⟩ m _ _ hp hd | exact check_p _ _ _ _ _ _ | exact require_p _ _), ?_⟩ | refine ⟨_, _, _, (by first | exact hasSpots_p ⟨_, _, _, _⟩ m _ _ hp hd | exact check_p _ _ _ _ _ _ | exact require_p _ _), ?_⟩ | ((fail_if_success (refine ⟨_, ?_, ?_⟩)); refine ⟨AV.any, ?_⟩) | refine ret_frz rfl ?_ (by simp [push_cast]) (by simp [push_cast, hg, hd', hw]) (by simp [push_cast, hg, hd', hw]) | refine end_frz rfl ?_ (by simp [push_cast]) (by simp [push_cast, hg, hd', hw]) (by simp [push_cast, hg, hd', hw]) | refine ret_now (by simp [push_cast]) ?_ (by simp [push_cast]) | refine end_now (by simp [push_cast]) ?_ (by simp [push_cast])) <;> (try simp only [push_cast, seval, reduceCtorEq, *, hg, hd', hw]))
      | ((first | refine cv_ptE rfl rfl rfl rfl rfl ?_ | refine outQ_frz rfl ?_ (by simp [push_cast]) (by simp [push_cast, hg, hd', hw]) | refine dfr_end (by simp) rfl ?_ (by simp [push_cast]) (by simp [push_cast, hg, hd', hw])) <;> (try simp only [push_cast, seval, reduceCtorEq, hg, hd', hw]))
      | exact cv_slE rfl rfl ⟨rfl, rfl⟩ (by simp) (by simp [take_map_len])
      | refine outQ_pan ?_ (by simp [push_cast])
      | refine outQ_unit ?_
      | refine outQ_unitN ?_
      | refine And.intro ?_ ?_
      | omega)
    all_goals (try simp only [push_cast, seval, reduceCtorEq, hg, hd', hw, outR, ordsB])
    all_goals first
      | (simp only [*, hg, hd', hw, outR, ordsB]; done)
      | (simp [*, hg, hd', hw, outR, ordsB]; done)
      | (simp_all [hg, hd', hw, outR, ordsB]; done)
      | (simp_all [hg, hd', hw, outR, ordsB]; omega)
      | (simp [outR, ordsB, okU_bad hx (by simp [okO, *] : okO m k x = false)]; done)
      | skip
    all_goals (refine rnd_to _ _ _ (k + 1) ⟨hk', by rw [okU_step hx]; simp [okO, *]⟩ (by first | omega | (dsimp only; omega)) ?_; refine Wk.ren (fun _ => false) (fun i => i) (by simp) (by simp) ?_ ?_ (by simp) <;> (try simp only [push_cast, Nat.reduceBEq, Nat.reduceLeDiff, Nat.reduceAdd]) <;> (repeat' (first | exact trivial | (refine cv_ptE rfl rfl rfl rfl rfl ?_; simp only [push_cast, Nat.reduceBEq, Nat.reduceLeDiff, Nat.reduceAdd]) | exact cv_slE rfl rfl ⟨rfl, rfl⟩ (by simp) (by simp [take_map_len]) | exact cv_slG rfl rfl ⟨rfl, rfl⟩ (by simp) (by first | rfl | (simp; done)) (by first | rfl | (simp; done) | (simp; omega)) (by simp [push_cast]) | exact cv_ros_self (by simp [push_cast]) | exact bel_ros_cl (by simp [push_cast]) | exact cellsCv_eq (by simp [take_map_len]) (by simp [push_cast]) | refine And.intro ?_ ?_ | rfl | omega | (simp; done) | (simp; omega))))
  · have hd' := dge hk'
    obtain rfl : k = os.length := by omega
    (try simp only [push_cast, seval, reduceCtorEq, hd'])
    repeat' (first
      | ((first | ((first | refine brX_split ?_ ?_ | refine gX_split ?_ ?_ | refine hX_split ?_ ?_ | refine outK_split ?_ ?_) <;> (intro xc; (try simp only [Bool.not_eq_true', Bool.not_eq_false'] at xc); have xp := xc; (try simp only [decide_eq_true_eq, decide_eq_false_iff_not, Int.not_lt, Int.not_le, ge_iff_le, gt_iff_lt, Bool.and_eq_true, Bool.or_eq_false_iff] at xp); have xq := xp; (first | simp only [← Int.not_le] at xq | simp only [← Int.not_lt] at xq | clear xq))) | ((fail_if_success (refine ⟨_, ?_, ?_⟩)); refine ⟨AV.any, ?_⟩) | refine ret_frz rfl ?_ (by simp [push_cast]) (by simp [push_cast, hd']) (by simp [push_cast, hd']) | refine end_frz rfl ?_ (by simp [push_cast]) (by simp [push_cast, hd']) (by simp [push_cast, hd']) | refine ret_now (by simp [push_cast]) ?_ (by simp [push_cast]) | refine end_now (by simp [push_cast]) ?_ (by simp [push_cast])) <;> (try simp only [push_cast, seval, reduceCtorEq, *, hd']))
      | ((first | refine cv_ptE rfl rfl rfl rfl rfl ?_ | refine outQ_frz rfl ?_ (by simp [push_cast]) (by simp [push_cast, hd']) | refine dfr_end (by simp) rfl ?_ (by simp [push_cast]) (by simp [push_cast, hd'])) <;> (try simp only [push_cast, seval, reduceCtorEq, hd']))
      | exact cv_slE rfl rfl ⟨rfl, rfl⟩ (by simp) (by simp [take_map_len])
      | refine outQ_pan ?_ (by simp [push_cast])
      | refine outQ_unit ?_
      | refine outQ_unitN ?_
      | refine And.intro ?_ ?_
      | omega)
    all_goals (try simp only [push_cast, seval, reduceCtorEq, hd', ordsB, outR])
    all_goals first
      | (simp only [*, hd', ordsB, outR]; done)
      | (simp [*, hd', ordsB, outR]; done)
      | (simp_all [hd', ordsB, outR]; done)
      | (simp_all [hd', ordsB, outR]; omega)
      | skip
end Go.Proofs.Ytffiicopifmmfaa
