/- Facts of the program over abstract values. No condition. -/
import Derived.Test.YtffiicopifmmfaaYy1
set_option linter.unusedSimpArgs false
set_option linter.unusedVariables false
set_option maxRecDepth 8000
namespace Go.Proofs.Ytffiicopifmmfaa
set_option linter.unusedSimpArgs false
set_option linter.unusedVariables false
set_option linter.unnecessarySimpa false
set_option linter.unusedSectionVars false
open Go.Proofs.Try
open Go.Proofs.Ytffiicopifmmfaa.Ai
set_option maxHeartbeats 4000000

/-! Books stay valid, the queue is what waits -/
def waV : Option (List Int) → List Int → AV
  | none, _ => .nils
  | some l, q => .sl 2 1 l.length q.length none
def waR : Option (List Int) → List Int → Ai.Rows
  | none, _ => []
  | some l, q => [(2, ⟨1, (l ++ q).map intc⟩)]
def keOut (m : Tm) (xs : List Cc) (k : Nat) : Env × Store := ([(1, .ros 5 (xs.map clc)), (2, .pt 0 8 0 0), (5, .bool true), (6, .pt 1 4 0 0), (7, waV (juU m xs k) (plB m xs k).q), (8, .int .i64 ((plB m xs k).os.length + 1)), (9, .int .i64 (laU m xs k)), (10, .int .i64 k)], ⟨3, [(0, ⟨8, [tmc m]⟩), (1, ⟨4, [bkc (plB m xs k)]⟩)] ++ waR (juU m xs k) (plB m xs k).q⟩)
def keIn (m : Tm) (xs : List Cc) (k : Nat) (Rb : Bk) (j : Nat) : Env × Store := ([(1, .ros 5 (xs.map clc)), (2, .pt 0 8 0 0), (5, .bool true), (6, .pt 1 4 0 0), (7, waV (juU m xs (k + 1)) Rb.q), (8, .int .i64 ((Rb.os.length : Int) + 1)), (9, .int .i64 (laU m xs (k + 1))), (10, .int .i64 k), (14, .int .i64 j)], ⟨3, [(0, ⟨8, [tmc m]⟩), (1, ⟨4, [bkc Rb]⟩)] ++ waR (juU m xs (k + 1)) Rb.q⟩)
theorem nilBk {rows : Ai.Rows} {Z : Nat → Bool} {rho : Nat → Nat} {n : Nat} : cellsCv rows Z rho n [[.nils, .nils, .int .u64 0, .int .i64 0]] [bkc zB] := by
  refine ⟨⟨⟨.nilsR 6, .nilsR 1, .int _ _, .int _ _, trivial⟩, trivial⟩, ?_⟩
  intro x hx v hv
  have := cl_bk zB
  rw [cl_agg] at this
  simp only [List.mem_cons, List.not_mem_nil, or_false] at hx
  subst hx
  exact (this v hv).bel
def flU (q : List Int) (id : Int) (j : Nat) : List Int := (q.take j).filter fun i => decide (¬ i = id)
theorem flU_zero {q : List Int} {id : Int} : flU q id 0 = [] := rfl
theorem flU_step {q : List Int} {id y : Int} {j : Nat} (hy : q[j]? = some y) : flU q id (j + 1) = flU q id j ++ (if y = id then [] else [y]) := by
  unfold flU
  rw [List.take_add_one, hy]
  simp only [Option.toList_some, List.filter_append]
  congr 1
  by_cases e : y = id <;> simp [e]
theorem flU_len {q : List Int} {id : Int} {j : Nat} : (flU q id j).length ≤ q.length := by
  have := List.length_filter_le (fun i => decide (¬ i = id)) (q.take j)
  rw [List.length_take] at this
  unfold flU
  omega
theorem flU_all {q : List Int} {id : Int} : flU q id q.length = q.filter fun i => decide (¬ i = id) := by
  unfold flU; rw [List.take_length]
theorem keep_round (m : Tm) (xs : List Cc) (k : Nat) (Rb : Bk) (hk' : k < xs.length) (hs : plB m xs (k + 1) = Rb) (h0 : juU m xs (k + 1) = none → Rb.q = []) (l2 : Rb.q.length ≤ 8) (h300 : xs.length ≤ 300) : ∀ j, j ≤ Rb.q.length →
    rwp prog 0 q10_225 (thn (rndQ (keIn m xs k Rb) (fun j => j ≤ Rb.q.length) (fun j => Rb.q.length - j) 0 (Rb.q.length - j))
      (blk 5 (blk 1 (thn (rwp prog 0 q10_235 (thn (rndQ (keOut m xs) (fun k => k ≤ xs.length) (fun k => xs.length - k) 0 (xs.length - k)) (blk 0 (thn (rwp prog 0 q10_241 (retQ 0 [RV.t 4] (AV.bool true))) (retQ 0 [RV.t 4] (AV.bool true))))))
        (thn (rndQ (keOut m xs) (fun k => k ≤ xs.length) (fun k => xs.length - k) 0 (xs.length - k)) (blk 0 (thn (rwp prog 0 q10_241 (retQ 0 [RV.t 4] (AV.bool true))) (retQ 0 [RV.t 4] (AV.bool true)))))))))
      (keIn m xs k Rb j).fst (keIn m xs k Rb j).snd := by
  intro j hj
  have hw := inc64 (k := k) (by omega)
  simp only [keIn]
  rcases hJ : juU m xs (k + 1) with _ | l
  · have hd : decide ((j : Int) < 0) = false := by simp
    simp only [waV, waR, List.append_nil, List.cons_append, List.nil_append]
    (try simp only [push_cast, seval, reduceCtorEq, hd, hw])
    repeat' (first
      | ((first | ((first | refine brX_split ?_ ?_ | refine gX_split ?_ ?_ | refine hX_split ?_ ?_ | refine outK_split ?_ ?_) <;> (intro xc; (try simp only [Bool.not_eq_true', Bool.not_eq_false'] at xc); have xp := xc; (try simp only [decide_eq_true_eq, decide_eq_false_iff_not, Int.not_lt, Int.not_le, ge_iff_le, gt_iff_lt, Bool.and_eq_true, Bool.or_eq_false_iff] at xp); have xq := xp; (first | simp only [← Int.not_le] at xq | simp only [← Int.not_lt] at xq | clear xq))) | ((fail_if_success (refine ⟨_, ?_, ?_⟩)); refine ⟨AV.any, ?_⟩) | refine ret_frz rfl ?_ (by simp [push_cast]) (by simp [push_cast, hd, hw]) (by simp [push_cast, hd, hw]) | refine end_frz rfl ?_ (by simp [push_cast]) (by simp [push_cast, hd, hw]) (by simp [push_cast, hd, hw]) | refine ret_now (by simp [push_cast]) ?_ (by simp [push_cast]) | refine end_now (by simp [push_cast]) ?_ (by simp [push_cast])) <;> (try simp only [push_cast, seval, reduceCtorEq, *, hd, hw]))
      | ((first | refine cv_ptE rfl rfl rfl rfl rfl ?_ | refine outQ_frz rfl ?_ (by simp [push_cast]) (by simp [push_cast, hd, hw]) | refine dfr_end (by simp) rfl ?_ (by simp [push_cast]) (by simp [push_cast, hd, hw])) <;> (try simp only [push_cast, seval, reduceCtorEq, hd, hw]))
      | exact cv_slE rfl rfl ⟨rfl, rfl⟩ (by simp) (by simp [take_map_len])
      | refine outQ_pan ?_ (by simp [push_cast])
      | refine outQ_unit ?_
      | refine outQ_unitN ?_
      | refine And.intro ?_ ?_
      | omega)
    all_goals (try simp only [push_cast, seval, reduceCtorEq, hd, hw])
    all_goals first
      | (simp only [*, hd, hw]; done)
      | (simp [*, hd, hw]; done)
      | (simp_all [hd, hw]; done)
      | (simp_all [hd, hw]; omega)
      | skip
    all_goals
      (refine rnd_to _ _ _ (k + 1) hk' (by first | omega | (dsimp only; omega)) ?_; (try simp [keOut, hs, hJ, waV, waR, List.map_append, accV, accR, accV_snoc, accR_snoc, List.length_append, *]); refine Wk.ren (fun _ => false) (fun i => i) (by simp) (by simp) ?_ ?_ (by simp) <;> (try simp only [push_cast, Nat.reduceBEq, Nat.reduceLeDiff, Nat.reduceAdd]) <;> (repeat' (first | exact trivial | (refine cv_ptE rfl rfl rfl rfl rfl ?_; simp only [push_cast, Nat.reduceBEq, Nat.reduceLeDiff, Nat.reduceAdd]) | exact cv_slE rfl rfl ⟨rfl, rfl⟩ (by simp) (by simp [take_map_len]) | exact cv_slG rfl rfl ⟨rfl, rfl⟩ (by simp) (by first | rfl | (simp; done)) (by first | rfl | (simp; done) | (simp; omega)) (by simp [push_cast]) | exact cv_ros_self (by simp [push_cast]) | exact bel_ros_cl (by simp [push_cast]) | exact nilBk | exact cellsCv_eq (by simp [take_map_len]) (by simp [push_cast]) | refine And.intro ?_ ?_ | rfl | omega | (simp; done) | (simp; omega))))
  · simp only [waV, waR, List.append_nil, List.cons_append, List.nil_append]
    rcases Nat.lt_or_ge j Rb.q.length with hj' | hj'
    · obtain ⟨y, hy⟩ := lt_get hj'
      have hg1 := getD_map (enc := intc) hy
      have hg2 := getD_map (enc := intc) (show (l ++ Rb.q)[l.length + j]? = some y by rw [List.getElem?_append_right (by omega)]; simpa using hy)
      have hd := dlt hj'
      have hw2 := inc64 (k := j) (by omega)
      clear hw
      (try simp only [push_cast, seval, reduceCtorEq, hd, hg1, hg2, hw2])
      repeat' (first
        | ((first | ((first | refine brX_split ?_ ?_ | refine gX_split ?_ ?_ | refine hX_split ?_ ?_ | refine outK_split ?_ ?_) <;> (intro xc; (try simp only [Bool.not_eq_true', Bool.not_eq_false'] at xc); have xp := xc; (try simp only [decide_eq_true_eq, decide_eq_false_iff_not, Int.not_lt, Int.not_le, ge_iff_le, gt_iff_lt, Bool.and_eq_true, Bool.or_eq_false_iff] at xp); have xq := xp; (first | simp only [← Int.not_le] at xq | simp only [← Int.not_lt] at xq | clear xq))) | ((fail_if_success (refine ⟨_, ?_, ?_⟩)); refine ⟨AV.any, ?_⟩) | refine ret_frz rfl ?_ (by simp [push_cast]) (by simp [push_cast, hd, hg1, hg2, hw2]) (by simp [push_cast, hd, hg1, hg2, hw2]) | refine end_frz rfl ?_ (by simp [push_cast]) (by simp [push_cast, hd, hg1, hg2, hw2]) (by simp [push_cast, hd, hg1, hg2, hw2]) | refine ret_now (by simp [push_cast]) ?_ (by simp [push_cast]) | refine end_now (by simp [push_cast]) ?_ (by simp [push_cast])) <;> (try simp only [push_cast, seval, reduceCtorEq, *, hd, hg1, hg2, hw2]))
        | ((first | refine cv_ptE rfl rfl rfl rfl rfl ?_ | refine outQ_frz rfl ?_ (by simp [push_cast]) (by simp [push_cast, hd, hg1, hg2, hw2]) | refine dfr_end (by simp) rfl ?_ (by simp [push_cast]) (by simp [push_cast, hd, hg1, hg2, hw2])) <;> (try simp only [push_cast, seval, reduceCtorEq, hd, hg1, hg2, hw2]))
        | exact cv_slE rfl rfl ⟨rfl, rfl⟩ (by simp) (by simp [take_map_len])
        | refine outQ_pan ?_ (by simp [push_cast])
        | refine outQ_unit ?_
        | refine outQ_unitN ?_
        | refine And.intro ?_ ?_
        | omega)
      all_goals (try simp only [push_cast, seval, reduceCtorEq, hd, hg1, hg2, hw2])
      all_goals first
        | (simp only [*, hd, hg1, hg2, hw2]; done)
        | (simp [*, hd, hg1, hg2, hw2]; done)
        | (simp_all [hd, hg1, hg2, hw2]; done)
        | (simp_all [hd, hg1, hg2, hw2]; omega)
        | skip
      all_goals
        (refine rnd_to _ _ _ (j + 1) hj' (by first | omega | (dsimp only; omega)) ?_; (try simp [keIn, hJ, waV, waR, List.map_append, accV, accR, accV_snoc, accR_snoc, List.length_append, *]); refine Wk.ren (fun _ => false) (fun i => i) (by simp) (by simp) ?_ ?_ (by simp) <;> (try simp only [push_cast, Nat.reduceBEq, Nat.reduceLeDiff, Nat.reduceAdd]) <;> (repeat' (first | exact trivial | (refine cv_ptE rfl rfl rfl rfl rfl ?_; simp only [push_cast, Nat.reduceBEq, Nat.reduceLeDiff, Nat.reduceAdd]) | exact cv_slE rfl rfl ⟨rfl, rfl⟩ (by simp) (by simp [take_map_len]) | exact cv_slG rfl rfl ⟨rfl, rfl⟩ (by simp) (by first | rfl | (simp; done)) (by first | rfl | (simp; done) | (simp; omega)) (by simp [push_cast]) | exact cv_ros_self (by simp [push_cast]) | exact bel_ros_cl (by simp [push_cast]) | exact nilBk | exact cellsCv_eq (by simp [take_map_len]) (by simp [push_cast]) | refine And.intro ?_ ?_ | rfl | omega | (simp; done) | (simp; omega))))
    · have hd := dge hj'
      obtain rfl : j = Rb.q.length := by omega
      (try simp only [push_cast, seval, reduceCtorEq, hd, hw])
      repeat' (first
        | ((first | ((first | refine brX_split ?_ ?_ | refine gX_split ?_ ?_ | refine hX_split ?_ ?_ | refine outK_split ?_ ?_) <;> (intro xc; (try simp only [Bool.not_eq_true', Bool.not_eq_false'] at xc); have xp := xc; (try simp only [decide_eq_true_eq, decide_eq_false_iff_not, Int.not_lt, Int.not_le, ge_iff_le, gt_iff_lt, Bool.and_eq_true, Bool.or_eq_false_iff] at xp); have xq := xp; (first | simp only [← Int.not_le] at xq | simp only [← Int.not_lt] at xq | clear xq))) | ((fail_if_success (refine ⟨_, ?_, ?_⟩)); refine ⟨AV.any, ?_⟩) | refine ret_frz rfl ?_ (by simp [push_cast]) (by simp [push_cast, hd, hw]) (by simp [push_cast, hd, hw]) | refine end_frz rfl ?_ (by simp [push_cast]) (by simp [push_cast, hd, hw]) (by simp [push_cast, hd, hw]) | refine ret_now (by simp [push_cast]) ?_ (by simp [push_cast]) | refine end_now (by simp [push_cast]) ?_ (by simp [push_cast])) <;> (try simp only [push_cast, seval, reduceCtorEq, *, hd, hw]))
        | ((first | refine cv_ptE rfl rfl rfl rfl rfl ?_ | refine outQ_frz rfl ?_ (by simp [push_cast]) (by simp [push_cast, hd, hw]) | refine dfr_end (by simp) rfl ?_ (by simp [push_cast]) (by simp [push_cast, hd, hw])) <;> (try simp only [push_cast, seval, reduceCtorEq, hd, hw]))
        | exact cv_slE rfl rfl ⟨rfl, rfl⟩ (by simp) (by simp [take_map_len])
        | refine outQ_pan ?_ (by simp [push_cast])
        | refine outQ_unit ?_
        | refine outQ_unitN ?_
        | refine And.intro ?_ ?_
        | omega)
      all_goals (try simp only [push_cast, seval, reduceCtorEq, hd, hw])
      all_goals first
        | (simp only [*, hd, hw]; done)
        | (simp [*, hd, hw]; done)
        | (simp_all [hd, hw]; done)
        | (simp_all [hd, hw]; omega)
        | skip
      all_goals
        (refine rnd_to _ _ _ (k + 1) hk' (by first | omega | (dsimp only; omega)) ?_; (try simp [keOut, hs, hJ, waV, waR, List.map_append, accV, accR, accV_snoc, accR_snoc, List.length_append, *]); refine Wk.ren (fun _ => false) (fun i => i) (by simp) (by simp) ?_ ?_ (by simp) <;> (try simp only [push_cast, Nat.reduceBEq, Nat.reduceLeDiff, Nat.reduceAdd]) <;> (repeat' (first | exact trivial | (refine cv_ptE rfl rfl rfl rfl rfl ?_; simp only [push_cast, Nat.reduceBEq, Nat.reduceLeDiff, Nat.reduceAdd]) | exact cv_slE rfl rfl ⟨rfl, rfl⟩ (by simp) (by simp [take_map_len]) | exact cv_slG rfl rfl ⟨rfl, rfl⟩ (by simp) (by first | rfl | (simp; done)) (by first | rfl | (simp; done) | (simp; omega)) (by simp [push_cast]) | exact cv_ros_self (by simp [push_cast]) | exact bel_ros_cl (by simp [push_cast]) | exact nilBk | exact cellsCv_eq (by simp [take_map_len]) (by simp [push_cast]) | refine And.intro ?_ ?_ | rfl | omega | (simp; done) | (simp; omega))))
theorem law_keeps (m : Tm) (ht : Tfit m) (xs : List Cc) (hx : okCalls xs) (hl : xs.length < 2 ^ 43) : PCall prog 10 [.agg (tmc m), .ros 5 (xs.map clc)] (.bool true) := by
  have hN := refNumbers_p m
  cases hT : teamB m
  · rw [hT] at hN
    obtain ⟨c, hb, hl⟩ := l10
    refine pcall_of mixed e10 hb rfl hl r10 (by rw [n10]; simp) ?_
    clear hb hl c
    (try simp only [push_cast, seval, reduceCtorEq])
    repeat' (first
      | ((first | ((first | refine brX_split ?_ ?_ | refine gX_split ?_ ?_ | refine hX_split ?_ ?_ | refine outK_split ?_ ?_) <;> (intro xc; (try simp only [Bool.not_eq_true', Bool.not_eq_false'] at xc); have xp := xc; (try simp only [decide_eq_true_eq, decide_eq_false_iff_not, Int.not_lt, Int.not_le, ge_iff_le, gt_iff_lt, Bool.and_eq_true, Bool.or_eq_false_iff] at xp); have xq := xp; (first | simp only [← Int.not_le] at xq | simp only [← Int.not_lt] at xq | clear xq))) | refine ⟨.ret _, _, PCall.s (by first | assumption | exact alive_p) (by simp [push_cast]), ?_⟩ | refine ⟨.ret _, _, RCall.s (RCall.sh (by first | assumption | exact alive_p)) (by simp [push_cast]), ?_⟩ | refine ⟨_, _, SCall.lift (by first | assumption | exact alive_p) (outR_cl (by simp [push_cast]) (by simp [push_cast])) (by simp [push_cast]), ?_⟩ | refine ⟨_, (by first | assumption | exact alive_p), ?_⟩ | refine ⟨0, [], _, PCall.r (by first | assumption | exact alive_p), ?_⟩ | refine ⟨_, _, (by first | assumption | exact alive_p), ?_⟩ | refine ⟨_, _, _, RCall.sh (by first | assumption | exact alive_p), ?_⟩ | refine ⟨_, _, _, (by first | assumption | exact alive_p), ?_⟩ | ((fail_if_success (refine ⟨_, ?_, ?_⟩)); refine ⟨AV.any, ?_⟩) | refine ret_frz rfl ?_ (by simp [push_cast]) (by simp [push_cast]) (by simp [push_cast]) | refine end_frz rfl ?_ (by simp [push_cast]) (by simp [push_cast]) (by simp [push_cast]) | refine ret_now (by simp [push_cast]) ?_ (by simp [push_cast]) | refine end_now (by simp [push_cast]) ?_ (by simp [push_cast])) <;> (try simp only [push_cast, seval, reduceCtorEq, *]))
      | ((first | refine cv_ptE rfl rfl rfl rfl rfl ?_ | refine outQ_frz rfl ?_ (by simp [push_cast]) (by simp [push_cast]) | refine dfr_end (by simp) rfl ?_ (by simp [push_cast]) (by simp [push_cast])) <;> (try simp only [push_cast, seval, reduceCtorEq]))
      | exact cv_slE rfl rfl ⟨rfl, rfl⟩ (by simp) (by simp [take_map_len])
      | refine outQ_pan ?_ (by simp [push_cast])
      | refine outQ_unit ?_
      | refine outQ_unitN ?_
      | refine And.intro ?_ ?_
      | omega)
    all_goals (try simp only [push_cast, seval, reduceCtorEq])
    all_goals first
      | (simp only [*]; done)
      | (simp [*]; done)
      | (simp_all []; done)
      | (simp_all []; omega)
      | skip
  rw [hT] at hN
  by_cases h300 : xs.length ≤ 300
  case neg =>
    have hd : decide ((xs.length : Int) > 300) = true := by simp; omega
    obtain ⟨c, hb, hl⟩ := l10
    refine pcall_of mixed e10 hb rfl hl r10 (by rw [n10]; simp) ?_
    clear hb hl c
    (try simp only [push_cast, seval, reduceCtorEq, hd])
    repeat' (first
      | ((first | ((first | refine brX_split ?_ ?_ | refine gX_split ?_ ?_ | refine hX_split ?_ ?_ | refine outK_split ?_ ?_) <;> (intro xc; (try simp only [Bool.not_eq_true', Bool.not_eq_false'] at xc); have xp := xc; (try simp only [decide_eq_true_eq, decide_eq_false_iff_not, Int.not_lt, Int.not_le, ge_iff_le, gt_iff_lt, Bool.and_eq_true, Bool.or_eq_false_iff] at xp); have xq := xp; (first | simp only [← Int.not_le] at xq | simp only [← Int.not_lt] at xq | clear xq))) | refine ⟨.ret _, _, PCall.s (by first | assumption | exact alive_p) (by simp [push_cast, hd]), ?_⟩ | refine ⟨.ret _, _, RCall.s (RCall.sh (by first | assumption | exact alive_p)) (by simp [push_cast, hd]), ?_⟩ | refine ⟨_, _, SCall.lift (by first | assumption | exact alive_p) (outR_cl (by simp [push_cast]) (by simp [push_cast])) (by simp [push_cast, hd]), ?_⟩ | refine ⟨_, (by first | assumption | exact alive_p), ?_⟩ | refine ⟨0, [], _, PCall.r (by first | assumption | exact alive_p), ?_⟩ | refine ⟨_, _, (by first | assumption | exact alive_p), ?_⟩ | refine ⟨_, _, _, RCall.sh (by first | assumption | exact alive_p), ?_⟩ | refine ⟨_, _, _, (by first | assumption | exact alive_p), ?_⟩ | ((fail_if_success (refine ⟨_, ?_, ?_⟩)); refine ⟨AV.any, ?_⟩) | refine ret_frz rfl ?_ (by simp [push_cast]) (by simp [push_cast, hd]) (by simp [push_cast, hd]) | refine end_frz rfl ?_ (by simp [push_cast]) (by simp [push_cast, hd]) (by simp [push_cast, hd]) | refine ret_now (by simp [push_cast]) ?_ (by simp [push_cast]) | refine end_now (by simp [push_cast]) ?_ (by simp [push_cast])) <;> (try simp only [push_cast, seval, reduceCtorEq, *, hd]))
      | ((first | refine cv_ptE rfl rfl rfl rfl rfl ?_ | refine outQ_frz rfl ?_ (by simp [push_cast]) (by simp [push_cast, hd]) | refine dfr_end (by simp) rfl ?_ (by simp [push_cast]) (by simp [push_cast, hd])) <;> (try simp only [push_cast, seval, reduceCtorEq, hd]))
      | exact cv_slE rfl rfl ⟨rfl, rfl⟩ (by simp) (by simp [take_map_len])
      | refine outQ_pan ?_ (by simp [push_cast])
      | refine outQ_unit ?_
      | refine outQ_unitN ?_
      | refine And.intro ?_ ?_
      | omega)
    all_goals (try simp only [push_cast, seval, reduceCtorEq, hd])
    all_goals first
      | (simp only [*, hd]; done)
      | (simp [*, hd]; done)
      | (simp_all [hd]; done)
      | (simp_all [hd]; omega)
      | skip
  have hd : decide ((xs.length : Int) > 300) = false := by simp; omega
  have hd2 : decide ((300 : Int) < xs.length) = false := by simp; omega
  obtain ⟨c, hb, hl⟩ := l10
  refine pcall_of mixed e10 hb rfl hl r10 (by rw [n10]; simp) ?_
  clear hb hl c
  (try simp only [push_cast, seval, reduceCtorEq, hd, hd2])
  repeat' (first
    | ((first | ((first | refine brX_split ?_ ?_ | refine gX_split ?_ ?_ | refine hX_split ?_ ?_ | refine outK_split ?_ ?_) <;> (intro xc; (try simp only [Bool.not_eq_true', Bool.not_eq_false'] at xc); have xp := xc; (try simp only [decide_eq_true_eq, decide_eq_false_iff_not, Int.not_lt, Int.not_le, ge_iff_le, gt_iff_lt, Bool.and_eq_true, Bool.or_eq_false_iff] at xp); have xq := xp; (first | simp only [← Int.not_le] at xq | simp only [← Int.not_lt] at xq | clear xq))) | refine ⟨.ret _, _, PCall.s (by first | assumption | exact alive_p) (by simp [push_cast, hd, hd2]), ?_⟩ | refine ⟨.ret _, _, RCall.s (RCall.sh (by first | assumption | exact alive_p)) (by simp [push_cast, hd, hd2]), ?_⟩ | refine ⟨_, _, SCall.lift (by first | assumption | exact alive_p) (outR_cl (by simp [push_cast]) (by simp [push_cast])) (by simp [push_cast, hd, hd2]), ?_⟩ | refine ⟨_, (by first | assumption | exact alive_p), ?_⟩ | refine ⟨0, [], _, PCall.r (by first | assumption | exact alive_p), ?_⟩ | refine ⟨_, _, (by first | assumption | exact alive_p), ?_⟩ | refine ⟨_, _, _, RCall.sh (by first | assumption | exact alive_p), ?_⟩ | refine ⟨_, _, _, (by first | assumption | exact alive_p), ?_⟩ | ((fail_if_success (refine ⟨_, ?_, ?_⟩)); refine ⟨AV.any, ?_⟩) | refine ret_frz rfl ?_ (by simp [push_cast]) (by simp [push_cast, hd, hd2]) (by simp [push_cast, hd, hd2]) | refine end_frz rfl ?_ (by simp [push_cast]) (by simp [push_cast, hd, hd2]) (by simp [push_cast, hd, hd2]) | refine ret_now (by simp [push_cast]) ?_ (by simp [push_cast]) | refine end_now (by simp [push_cast]) ?_ (by simp [push_cast])) <;> (try simp only [push_cast, seval, reduceCtorEq, *, hd, hd2]))
    | ((first | refine cv_ptE rfl rfl rfl rfl rfl ?_ | refine outQ_frz rfl ?_ (by simp [push_cast]) (by simp [push_cast, hd, hd2]) | refine dfr_end (by simp) rfl ?_ (by simp [push_cast]) (by simp [push_cast, hd, hd2])) <;> (try simp only [push_cast, seval, reduceCtorEq, hd, hd2]))
    | exact cv_slE rfl rfl ⟨rfl, rfl⟩ (by simp) (by simp [take_map_len])
    | refine outQ_pan ?_ (by simp [push_cast])
    | refine outQ_unit ?_
    | refine outQ_unitN ?_
    | refine And.intro ?_ ?_
    | omega)
  all_goals (try simp only [push_cast, seval, reduceCtorEq, hd, hd2])
  all_goals first
    | (simp only [*, hd, hd2]; done)
    | (simp [*, hd, hd2]; done)
    | (simp_all [hd, hd2]; done)
    | (simp_all [hd, hd2]; omega)
    | skip
  refine w_loopS (keOut m xs) (fun k => k ≤ xs.length) (fun k => xs.length - k) 0 (Nat.zero_le _) ?_ ?_
  · simp only [keOut, plB, juU, laU, waV, waR, List.append_nil]
    (apply Wk.renA (fun _ => false); (case he => (try simp only [push_cast, Nat.reduceBEq, Nat.reduceLeDiff, Nat.reduceAdd]); (repeat' (first | exact trivial | (refine cv_ptE rfl rfl rfl rfl rfl ?_; simp only [push_cast, Nat.reduceBEq, Nat.reduceLeDiff, Nat.reduceAdd]) | exact cv_slE rfl rfl ⟨rfl, rfl⟩ (by simp) (by simp [take_map_len]) | exact cv_slG rfl rfl ⟨rfl, rfl⟩ (by simp) (by first | rfl | (simp; done)) (by first | rfl | (simp; done) | (simp; omega)) (by simp [push_cast]) | exact cv_ros_self (by simp [push_cast]) | exact bel_ros_cl (by simp [push_cast]) | exact nilBk | exact cellsCv_eq (by simp [take_map_len]) (by simp [push_cast]) | refine And.intro ?_ ?_ | rfl | omega | (simp; done) | (simp; omega)))); (case hr => (try simp only [push_cast, Nat.reduceBEq, Nat.reduceLeDiff, Nat.reduceAdd]); (repeat' (first | exact trivial | (refine cv_ptE rfl rfl rfl rfl rfl ?_; simp only [push_cast, Nat.reduceBEq, Nat.reduceLeDiff, Nat.reduceAdd]) | exact cv_slE rfl rfl ⟨rfl, rfl⟩ (by simp) (by simp [take_map_len]) | exact cv_slG rfl rfl ⟨rfl, rfl⟩ (by simp) (by first | rfl | (simp; done)) (by first | rfl | (simp; done) | (simp; omega)) (by simp [push_cast]) | exact cv_ros_self (by simp [push_cast]) | exact bel_ros_cl (by simp [push_cast]) | exact nilBk | exact cellsCv_eq (by simp [take_map_len]) (by simp [push_cast]) | refine And.intro ?_ ?_ | rfl | omega | (simp; done) | (simp; omega)))); (case hinj => simp [rhoA_0, rhoA_1, rhoA_2]); all_goals exact 0)
  intro k hk
  simp only [keOut]
  obtain ⟨s1, s2⟩ := plB_small (m := m) hx hk
  have hf : Fit (plB m xs k) m := ht.fit (by omega) (by omega)
  rcases Nat.lt_or_ge k xs.length with hk' | hk'
  case inr =>
    have hd := dge hk'
    clear hf hx ht hN hd2
    rcases juU m xs k with _ | l
    all_goals
      simp only [waV, waR, List.append_nil, List.cons_append, List.nil_append]
      (try simp only [push_cast, seval, reduceCtorEq, hd])
      repeat' (first
        | ((first | ((first | refine brX_split ?_ ?_ | refine gX_split ?_ ?_ | refine hX_split ?_ ?_ | refine outK_split ?_ ?_) <;> (intro xc; (try simp only [Bool.not_eq_true', Bool.not_eq_false'] at xc); have xp := xc; (try simp only [decide_eq_true_eq, decide_eq_false_iff_not, Int.not_lt, Int.not_le, ge_iff_le, gt_iff_lt, Bool.and_eq_true, Bool.or_eq_false_iff] at xp); have xq := xp; (first | simp only [← Int.not_le] at xq | simp only [← Int.not_lt] at xq | clear xq))) | ((fail_if_success (refine ⟨_, ?_, ?_⟩)); refine ⟨AV.any, ?_⟩) | refine ret_frz rfl ?_ (by simp [push_cast]) (by simp [push_cast, hd]) (by simp [push_cast, hd]) | refine end_frz rfl ?_ (by simp [push_cast]) (by simp [push_cast, hd]) (by simp [push_cast, hd]) | refine ret_now (by simp [push_cast]) ?_ (by simp [push_cast]) | refine end_now (by simp [push_cast]) ?_ (by simp [push_cast])) <;> (try simp only [push_cast, seval, reduceCtorEq, *, hd]))
        | ((first | refine cv_ptE rfl rfl rfl rfl rfl ?_ | refine outQ_frz rfl ?_ (by simp [push_cast]) (by simp [push_cast, hd]) | refine dfr_end (by simp) rfl ?_ (by simp [push_cast]) (by simp [push_cast, hd])) <;> (try simp only [push_cast, seval, reduceCtorEq, hd]))
        | exact cv_slE rfl rfl ⟨rfl, rfl⟩ (by simp) (by simp [take_map_len])
        | refine outQ_pan ?_ (by simp [push_cast])
        | refine outQ_unit ?_
        | refine outQ_unitN ?_
        | refine And.intro ?_ ?_
        | omega)
      all_goals (try simp only [push_cast, seval, reduceCtorEq, hd])
      all_goals first
        | (simp only [*, hd]; done)
        | (simp [*, hd]; done)
        | (simp_all [hd]; done)
        | (simp_all [hd]; omega)
        | skip
  obtain ⟨x, hxk⟩ := lt_get hk'
  obtain ⟨n1, n2⟩ := hx.at hxk
  obtain ⟨v1, v2, v3, v4⟩ := ke_inv (m := m) hx k hk
  have c1 := program_p hf x n1
  have c4 := changes_p x
  have hs := plB_step (m := m) hxk
  have hs2 := juU_step (m := m) hxk
  have hs3 := laU_step (m := m) hxk
  have hg := getD_map (enc := clc) hxk
  have hd := dlt hk'
  have hw := inc64 (k := k) (by omega)
  by_cases a2 : (progR (plB m xs k) m x).e = 0
  case neg =>
    simp only [okC7, a2, decide_false, Bool.and_false, cond_false, Bool.false_and] at hs hs2 hs3
    clear hx ht hf hN hd2 v1 v2 v3 v4 hT
    generalize progR (plB m xs k) m x = R at *
    generalize hB : plB m xs k = B at *
    generalize hJ : juU m xs k = J at *
    generalize hL : laU m xs k = L at *
    rcases J with _ | l
    all_goals
      simp only [waV, waR, List.append_nil, List.cons_append, List.nil_append]
      (try simp only [push_cast, seval, reduceCtorEq, hg, hd, hw, a2])
      repeat' (first
        | ((first | ((first | refine brX_split ?_ ?_ | refine gX_split ?_ ?_ | refine hX_split ?_ ?_ | refine outK_split ?_ ?_) <;> (intro xc; (try simp only [Bool.not_eq_true', Bool.not_eq_false'] at xc); have xp := xc; (try simp only [decide_eq_true_eq, decide_eq_false_iff_not, Int.not_lt, Int.not_le, ge_iff_le, gt_iff_lt, Bool.and_eq_true, Bool.or_eq_false_iff] at xp); have xq := xp; (first | simp only [← Int.not_le] at xq | simp only [← Int.not_lt] at xq | clear xq))) | refine ⟨.ret _, _, PCall.s (by first | assumption) (by simp [push_cast, hg, hd, hw, a2]), ?_⟩ | refine ⟨.ret _, _, RCall.s (RCall.sh (by first | assumption)) (by simp [push_cast, hg, hd, hw, a2]), ?_⟩ | refine ⟨_, _, SCall.lift (by first | assumption) (outR_cl (by simp [push_cast]) (by simp [push_cast])) (by simp [push_cast, hg, hd, hw, a2]), ?_⟩ | refine ⟨_, (by first | assumption), ?_⟩ | refine ⟨0, [], _, PCall.r (by first | assumption), ?_⟩ | refine ⟨_, _, (by first | assumption), ?_⟩ | refine ⟨_, _, _, RCall.sh (by first | assumption), ?_⟩ | refine ⟨_, _, _, (by first | assumption), ?_⟩ | ((fail_if_success (refine ⟨_, ?_, ?_⟩)); refine ⟨AV.any, ?_⟩) | refine ret_frz rfl ?_ (by simp [push_cast]) (by simp [push_cast, hg, hd, hw, a2]) (by simp [push_cast, hg, hd, hw, a2]) | refine end_frz rfl ?_ (by simp [push_cast]) (by simp [push_cast, hg, hd, hw, a2]) (by simp [push_cast, hg, hd, hw, a2]) | refine ret_now (by simp [push_cast]) ?_ (by simp [push_cast]) | refine end_now (by simp [push_cast]) ?_ (by simp [push_cast])) <;> (try simp only [push_cast, seval, reduceCtorEq, *, hg, hd, hw, a2]))
        | ((first | refine cv_ptE rfl rfl rfl rfl rfl ?_ | refine outQ_frz rfl ?_ (by simp [push_cast]) (by simp [push_cast, hg, hd, hw, a2]) | refine dfr_end (by simp) rfl ?_ (by simp [push_cast]) (by simp [push_cast, hg, hd, hw, a2])) <;> (try simp only [push_cast, seval, reduceCtorEq, hg, hd, hw, a2]))
        | exact cv_slE rfl rfl ⟨rfl, rfl⟩ (by simp) (by simp [take_map_len])
        | refine outQ_pan ?_ (by simp [push_cast])
        | refine outQ_unit ?_
        | refine outQ_unitN ?_
        | refine And.intro ?_ ?_
        | omega)
      all_goals (try simp only [push_cast, seval, reduceCtorEq, hg, hd, hw, a2])
      all_goals first
        | (simp only [*, hg, hd, hw, a2]; done)
        | (simp [*, hg, hd, hw, a2]; done)
        | (simp_all [hg, hd, hw, a2]; done)
        | (simp_all [hg, hd, hw, a2]; omega)
        | skip
      all_goals
        (refine rnd_to _ _ _ (k + 1) hk' (by first | omega | (dsimp only; omega)) ?_; (try simp [hs, hs2, hs3, hB, hJ, hL, keOut, waV, waR, List.map_append, accV, accR, accV_snoc, accR_snoc, List.length_append, *]); refine Wk.ren (fun _ => false) (fun i => i) (by simp) (by simp) ?_ ?_ (by simp) <;> (try simp only [push_cast, Nat.reduceBEq, Nat.reduceLeDiff, Nat.reduceAdd]) <;> (repeat' (first | exact trivial | (refine cv_ptE rfl rfl rfl rfl rfl ?_; simp only [push_cast, Nat.reduceBEq, Nat.reduceLeDiff, Nat.reduceAdd]) | exact cv_slE rfl rfl ⟨rfl, rfl⟩ (by simp) (by simp [take_map_len]) | exact cv_slG rfl rfl ⟨rfl, rfl⟩ (by simp) (by first | rfl | (simp; done)) (by first | rfl | (simp; done) | (simp; omega)) (by simp [push_cast]) | exact cv_ros_self (by simp [push_cast]) | exact bel_ros_cl (by simp [push_cast]) | exact nilBk | exact cellsCv_eq (by simp [take_map_len]) (by simp [push_cast]) | refine And.intro ?_ ?_ | rfl | omega | (simp; done) | (simp; omega))))
  by_cases a1 : x.dv.tmod 7 ≤ 4
  case neg =>
    simp only [okC7, a1, decide_false, Bool.false_and, cond_false] at hs hs2 hs3 c4
    clear hx ht hf hN hd2 v1 v2 v3 v4 hT
    generalize progR (plB m xs k) m x = R at *
    generalize hB : plB m xs k = B at *
    generalize hJ : juU m xs k = J at *
    generalize hL : laU m xs k = L at *
    rcases J with _ | l
    all_goals
      simp only [waV, waR, List.append_nil, List.cons_append, List.nil_append]
      (try simp only [push_cast, seval, reduceCtorEq, hg, hd, hw])
      repeat' (first
        | ((first | ((first | refine brX_split ?_ ?_ | refine gX_split ?_ ?_ | refine hX_split ?_ ?_ | refine outK_split ?_ ?_) <;> (intro xc; (try simp only [Bool.not_eq_true', Bool.not_eq_false'] at xc); have xp := xc; (try simp only [decide_eq_true_eq, decide_eq_false_iff_not, Int.not_lt, Int.not_le, ge_iff_le, gt_iff_lt, Bool.and_eq_true, Bool.or_eq_false_iff] at xp); have xq := xp; (first | simp only [← Int.not_le] at xq | simp only [← Int.not_lt] at xq | clear xq))) | refine ⟨.ret _, _, PCall.s (by first | assumption) (by simp [push_cast, hg, hd, hw]), ?_⟩ | refine ⟨.ret _, _, RCall.s (RCall.sh (by first | assumption)) (by simp [push_cast, hg, hd, hw]), ?_⟩ | refine ⟨_, _, SCall.lift (by first | assumption) (outR_cl (by simp [push_cast]) (by simp [push_cast])) (by simp [push_cast, hg, hd, hw]), ?_⟩ | refine ⟨_, (by first | assumption), ?_⟩ | refine ⟨0, [], _, PCall.r (by first | assumption), ?_⟩ | refine ⟨_, _, (by first | assumption), ?_⟩ | refine ⟨_, _, _, RCall.sh (by first | assumption), ?_⟩ | refine ⟨_, _, _, (by first | assumption), ?_⟩ | ((fail_if_success (refine ⟨_, ?_, ?_⟩)); refine ⟨AV.any, ?_⟩) | refine ret_frz rfl ?_ (by simp [push_cast]) (by simp [push_cast, hg, hd, hw]) (by simp [push_cast, hg, hd, hw]) | refine end_frz rfl ?_ (by simp [push_cast]) (by simp [push_cast, hg, hd, hw]) (by simp [push_cast, hg, hd, hw]) | refine ret_now (by simp [push_cast]) ?_ (by simp [push_cast]) | refine end_now (by simp [push_cast]) ?_ (by simp [push_cast])) <;> (try simp only [push_cast, seval, reduceCtorEq, *, hg, hd, hw]))
        | ((first | refine cv_ptE rfl rfl rfl rfl rfl ?_ | refine outQ_frz rfl ?_ (by simp [push_cast]) (by simp [push_cast, hg, hd, hw]) | refine dfr_end (by simp) rfl ?_ (by simp [push_cast]) (by simp [push_cast, hg, hd, hw])) <;> (try simp only [push_cast, seval, reduceCtorEq, hg, hd, hw]))
        | exact cv_slE rfl rfl ⟨rfl, rfl⟩ (by simp) (by simp [take_map_len])
        | refine outQ_pan ?_ (by simp [push_cast])
        | refine outQ_unit ?_
        | refine outQ_unitN ?_
        | refine And.intro ?_ ?_
        | omega)
      all_goals (try simp only [push_cast, seval, reduceCtorEq, hg, hd, hw])
      all_goals first
        | (simp only [*, hg, hd, hw]; done)
        | (simp [*, hg, hd, hw]; done)
        | (simp_all [hg, hd, hw]; done)
        | (simp_all [hg, hd, hw]; omega)
        | skip
      all_goals
        (refine rnd_to _ _ _ (k + 1) hk' (by first | omega | (dsimp only; omega)) ?_; (try simp [hs, hs2, hs3, hB, hJ, hL, keOut, waV, waR, List.map_append, accV, accR, accV_snoc, accR_snoc, List.length_append, *]); refine Wk.ren (fun _ => false) (fun i => i) (by simp) (by simp) ?_ ?_ (by simp) <;> (try simp only [push_cast, Nat.reduceBEq, Nat.reduceLeDiff, Nat.reduceAdd]) <;> (repeat' (first | exact trivial | (refine cv_ptE rfl rfl rfl rfl rfl ?_; simp only [push_cast, Nat.reduceBEq, Nat.reduceLeDiff, Nat.reduceAdd]) | exact cv_slE rfl rfl ⟨rfl, rfl⟩ (by simp) (by simp [take_map_len]) | exact cv_slG rfl rfl ⟨rfl, rfl⟩ (by simp) (by first | rfl | (simp; done)) (by first | rfl | (simp; done) | (simp; omega)) (by simp [push_cast]) | exact cv_ros_self (by simp [push_cast]) | exact bel_ros_cl (by simp [push_cast]) | exact nilBk | exact cellsCv_eq (by simp [take_map_len]) (by simp [push_cast]) | refine And.intro ?_ ?_ | rfl | omega | (simp; done) | (simp; omega))))
  simp only [okC7, a1, a2, decide_true, Bool.true_and, cond_true] at hs hs2 hs3 c4
  have hv := prog_valid n1 n2 a1 a2
  have cb := checkBook_r (fit_of hf hv)
  rw [hv] at cb
  obtain ⟨l1, l2⟩ := book0_len hv
  obtain ⟨_, _, q3, _⟩ := book0 hv
  simp only [queB, Bool.and_eq_true, decide_eq_true_eq] at q3
  have hqm : decide (((progR (plB m xs k) m x).bk.q.length : Int) > m.qu) = false := by have := q3.1; simp; omega
  have hnn := (ke_inv (m := m) hx (k + 1) hk').1
  rw [hs] at hnn
  replace hnn : id (juU m xs (k + 1) = none → (progR (plB m xs k) m x).bk.q = []) := hnn
  have h8 := tmod7 n1
  rcases h8 with h8 | h8 | h8 | h8 | h8 | h8 | h8 <;> try (exfalso; omega)
  · obtain ⟨k1, k2, k3⟩ := keep0 h8 a2
    simp only [h8, if_true, show ((0 : Int) = 2) = False by simp, decide_false, cond_false] at hs2 hs3
    have hk2 : ((progR (plB m xs k) m x).bk.os.length : Int) = (plB m xs k).os.length + 1 := by rw [k2]; simp
    have hln : (progR (plB m xs k) m x).bk.q.length = (plB m xs k).q.length + 1 := by rw [k3]; simp
    have hrow : (plB m xs k).q.map intc ++ [intc (((plB m xs k).os.length : Int) + 1)] = (progR (plB m xs k) m x).bk.q.map intc := by rw [k3]; simp
    have hw8 := inc64 (k := (plB m xs k).os.length) (by omega)
    have hw9 : IntKind.i64.wrap (((plB m xs k).os.length : Int) + 1 + 1) = (plB m xs k).os.length + 1 + 1 := IntWalk.i64_in _ (by omega)
    have hw10 : IntKind.i64.wrap (((plB m xs k).os.length : Int) + 1 + 1 - 1) = (plB m xs k).os.length + 1 := by rw [IntWalk.i64_in _ (by omega)]; omega
    clear hx ht hf hN hd2 v2 v3 v4 hT hv q3 k2 k3
    generalize progR (plB m xs k) m x = R at *
    generalize hB : plB m xs k = B at *
    generalize hJ : juU m xs k = J at *
    generalize hL : laU m xs k = L at *
    obtain ⟨Rb, Rid, Ro, Rt, Re⟩ := R
    simp only at a2 k1 hk2 hln hrow hs cb l1 l2 hs3 hqm hnn
    subst a2 k1
    have hdt1 : (B.q.map intc).take B.q.length = B.q.map intc := by rw [← List.length_map (f := intc), List.take_length]
    rcases J with _ | l
    · have hq0 := v1 rfl
      rw [hq0] at hrow hln
      simp only [List.map_nil, List.nil_append, List.length_nil, Nat.zero_add] at hrow hln
      rw [hln] at hqm
      simp only [waV, waR, List.append_nil, List.cons_append, List.nil_append]
      clear hq0 hdt1
      (try simp only [push_cast, seval, reduceCtorEq, hg, hd, hw, h8, hk2, hln, hw8, hw9, hw10, hqm, hrow])
      repeat' (first
        | ((first | ((first | refine brX_split ?_ ?_ | refine gX_split ?_ ?_ | refine hX_split ?_ ?_ | refine outK_split ?_ ?_) <;> (intro xc; (try simp only [Bool.not_eq_true', Bool.not_eq_false'] at xc); have xp := xc; (try simp only [decide_eq_true_eq, decide_eq_false_iff_not, Int.not_lt, Int.not_le, ge_iff_le, gt_iff_lt, Bool.and_eq_true, Bool.or_eq_false_iff] at xp); have xq := xp; (first | simp only [← Int.not_le] at xq | simp only [← Int.not_lt] at xq | clear xq))) | refine ⟨.ret _, _, PCall.s (by first | assumption | exact cb) (by simp [push_cast, hg, hd, hw, h8, hk2, hln, hw8, hw9, hw10, hqm, hrow]), ?_⟩ | refine ⟨.ret _, _, RCall.s (RCall.sh (by first | assumption | exact cb)) (by simp [push_cast, hg, hd, hw, h8, hk2, hln, hw8, hw9, hw10, hqm, hrow]), ?_⟩ | refine ⟨_, _, SCall.lift (by first | assumption | exact cb) (outR_cl (by simp [push_cast]) (by simp [push_cast])) (by simp [push_cast, hg, hd, hw, h8, hk2, hln, hw8, hw9, hw10, hqm, hrow]), ?_⟩ | refine ⟨_, (by first | assumption | exact cb), ?_⟩ | refine ⟨0, [], _, PCall.r (by first | assumption | exact cb), ?_⟩ | refine ⟨_, _, (by first | assumption | exact cb), ?_⟩ | refine ⟨_, _, _, RCall.sh (by first | assumption | exact cb), ?_⟩ | refine ⟨_, _, _, (by first | assumption | exact cb), ?_⟩ | ((fail_if_success (refine ⟨_, ?_, ?_⟩)); refine ⟨AV.any, ?_⟩) | refine ret_frz rfl ?_ (by simp [push_cast]) (by simp [push_cast, hg, hd, hw, h8, hk2, hln, hw8, hw9, hw10, hqm, hrow]) (by simp [push_cast, hg, hd, hw, h8, hk2, hln, hw8, hw9, hw10, hqm, hrow]) | refine end_frz rfl ?_ (by simp [push_cast]) (by simp [push_cast, hg, hd, hw, h8, hk2, hln, hw8, hw9, hw10, hqm, hrow]) (by simp [push_cast, hg, hd, hw, h8, hk2, hln, hw8, hw9, hw10, hqm, hrow]) | refine ret_now (by simp [push_cast]) ?_ (by simp [push_cast]) | refine end_now (by simp [push_cast]) ?_ (by simp [push_cast])) <;> (try simp only [push_cast, seval, reduceCtorEq, *, hg, hd, hw, h8, hk2, hln, hw8, hw9, hw10, hqm, hrow]))
        | ((first | refine cv_ptE rfl rfl rfl rfl rfl ?_ | refine outQ_frz rfl ?_ (by simp [push_cast]) (by simp [push_cast, hg, hd, hw, h8, hk2, hln, hw8, hw9, hw10, hqm, hrow]) | refine dfr_end (by simp) rfl ?_ (by simp [push_cast]) (by simp [push_cast, hg, hd, hw, h8, hk2, hln, hw8, hw9, hw10, hqm, hrow])) <;> (try simp only [push_cast, seval, reduceCtorEq, hg, hd, hw, h8, hk2, hln, hw8, hw9, hw10, hqm, hrow]))
        | exact cv_slE rfl rfl ⟨rfl, rfl⟩ (by simp) (by simp [take_map_len])
        | refine outQ_pan ?_ (by simp [push_cast])
        | refine outQ_unit ?_
        | refine outQ_unitN ?_
        | refine And.intro ?_ ?_
        | omega)
      all_goals (try simp only [push_cast, seval, reduceCtorEq, hg, hd, hw, h8, hk2, hln, hw8, hw9, hw10, hqm, hrow])
      all_goals first
        | (simp only [*, hg, hd, hw, h8, hk2, hln, hw8, hw9, hw10, hqm, hrow]; done)
        | (simp [*, hg, hd, hw, h8, hk2, hln, hw8, hw9, hw10, hqm, hrow]; done)
        | (simp_all [hg, hd, hw, h8, hk2, hln, hw8, hw9, hw10, hqm, hrow]; done)
        | (simp_all [hg, hd, hw, h8, hk2, hln, hw8, hw9, hw10, hqm, hrow]; omega)
        | skip
      all_goals
        refine w_loopS (keIn m xs k Rb) (fun j => j ≤ Rb.q.length) (fun j => Rb.q.length - j) 0 (Nat.zero_le _) ?_ (keep_round m xs k Rb hk' hs hnn l2 h300)
        simp only [keIn, hs2, hs3, hln, waV, waR, List.append_nil, List.cons_append, List.nil_append, List.length_nil]
        (apply Wk.renA (fun _ => false); (case he => (try simp only [push_cast, Nat.reduceBEq, Nat.reduceLeDiff, Nat.reduceAdd]); (repeat' (first | exact trivial | (refine cv_ptE rfl rfl rfl rfl rfl ?_; simp only [push_cast, Nat.reduceBEq, Nat.reduceLeDiff, Nat.reduceAdd]) | exact cv_slE rfl rfl ⟨rfl, rfl⟩ (by simp) (by simp [take_map_len]) | exact cv_slG rfl rfl ⟨rfl, rfl⟩ (by simp) (by first | rfl | (simp; done)) (by first | rfl | (simp; done) | (simp; omega)) (by simp [push_cast]) | exact cv_ros_self (by simp [push_cast]) | exact bel_ros_cl (by simp [push_cast]) | exact nilBk | exact cellsCv_eq (by simp [take_map_len]) (by simp [push_cast]) | refine And.intro ?_ ?_ | rfl | omega | (simp; done) | (simp; omega)))); (case hr => (try simp only [push_cast, Nat.reduceBEq, Nat.reduceLeDiff, Nat.reduceAdd]); (repeat' (first | exact trivial | (refine cv_ptE rfl rfl rfl rfl rfl ?_; simp only [push_cast, Nat.reduceBEq, Nat.reduceLeDiff, Nat.reduceAdd]) | exact cv_slE rfl rfl ⟨rfl, rfl⟩ (by simp) (by simp [take_map_len]) | exact cv_slG rfl rfl ⟨rfl, rfl⟩ (by simp) (by first | rfl | (simp; done)) (by first | rfl | (simp; done) | (simp; omega)) (by simp [push_cast]) | exact cv_ros_self (by simp [push_cast]) | exact bel_ros_cl (by simp [push_cast]) | exact nilBk | exact cellsCv_eq (by simp [take_map_len]) (by simp [push_cast]) | refine And.intro ?_ ?_ | rfl | omega | (simp; done) | (simp; omega)))); (case hinj => simp [rhoA_0, rhoA_1, rhoA_2]); all_goals exact 0)
    · rw [hln] at hqm
      simp only [waV, waR, List.append_nil, List.cons_append, List.nil_append]
      (try simp only [push_cast, seval, reduceCtorEq, hg, hd, hw, h8, hk2, hln, hw8, hw9, hw10, hqm, hrow, hdt1])
      repeat' (first
        | ((first | ((first | refine brX_split ?_ ?_ | refine gX_split ?_ ?_ | refine hX_split ?_ ?_ | refine outK_split ?_ ?_) <;> (intro xc; (try simp only [Bool.not_eq_true', Bool.not_eq_false'] at xc); have xp := xc; (try simp only [decide_eq_true_eq, decide_eq_false_iff_not, Int.not_lt, Int.not_le, ge_iff_le, gt_iff_lt, Bool.and_eq_true, Bool.or_eq_false_iff] at xp); have xq := xp; (first | simp only [← Int.not_le] at xq | simp only [← Int.not_lt] at xq | clear xq))) | refine ⟨.ret _, _, PCall.s (by first | assumption | exact cb) (by simp [push_cast, hg, hd, hw, h8, hk2, hln, hw8, hw9, hw10, hqm, hrow, hdt1]), ?_⟩ | refine ⟨.ret _, _, RCall.s (RCall.sh (by first | assumption | exact cb)) (by simp [push_cast, hg, hd, hw, h8, hk2, hln, hw8, hw9, hw10, hqm, hrow, hdt1]), ?_⟩ | refine ⟨_, _, SCall.lift (by first | assumption | exact cb) (outR_cl (by simp [push_cast]) (by simp [push_cast])) (by simp [push_cast, hg, hd, hw, h8, hk2, hln, hw8, hw9, hw10, hqm, hrow, hdt1]), ?_⟩ | refine ⟨_, (by first | assumption | exact cb), ?_⟩ | refine ⟨0, [], _, PCall.r (by first | assumption | exact cb), ?_⟩ | refine ⟨_, _, (by first | assumption | exact cb), ?_⟩ | refine ⟨_, _, _, RCall.sh (by first | assumption | exact cb), ?_⟩ | refine ⟨_, _, _, (by first | assumption | exact cb), ?_⟩ | ((fail_if_success (refine ⟨_, ?_, ?_⟩)); refine ⟨AV.any, ?_⟩) | refine ret_frz rfl ?_ (by simp [push_cast]) (by simp [push_cast, hg, hd, hw, h8, hk2, hln, hw8, hw9, hw10, hqm, hrow, hdt1]) (by simp [push_cast, hg, hd, hw, h8, hk2, hln, hw8, hw9, hw10, hqm, hrow, hdt1]) | refine end_frz rfl ?_ (by simp [push_cast]) (by simp [push_cast, hg, hd, hw, h8, hk2, hln, hw8, hw9, hw10, hqm, hrow, hdt1]) (by simp [push_cast, hg, hd, hw, h8, hk2, hln, hw8, hw9, hw10, hqm, hrow, hdt1]) | refine ret_now (by simp [push_cast]) ?_ (by simp [push_cast]) | refine end_now (by simp [push_cast]) ?_ (by simp [push_cast])) <;> (try simp only [push_cast, seval, reduceCtorEq, *, hg, hd, hw, h8, hk2, hln, hw8, hw9, hw10, hqm, hrow, hdt1]))
        | ((first | refine cv_ptE rfl rfl rfl rfl rfl ?_ | refine outQ_frz rfl ?_ (by simp [push_cast]) (by simp [push_cast, hg, hd, hw, h8, hk2, hln, hw8, hw9, hw10, hqm, hrow, hdt1]) | refine dfr_end (by simp) rfl ?_ (by simp [push_cast]) (by simp [push_cast, hg, hd, hw, h8, hk2, hln, hw8, hw9, hw10, hqm, hrow, hdt1])) <;> (try simp only [push_cast, seval, reduceCtorEq, hg, hd, hw, h8, hk2, hln, hw8, hw9, hw10, hqm, hrow, hdt1]))
        | exact cv_slE rfl rfl ⟨rfl, rfl⟩ (by simp) (by simp [take_map_len])
        | refine outQ_pan ?_ (by simp [push_cast])
        | refine outQ_unit ?_
        | refine outQ_unitN ?_
        | refine And.intro ?_ ?_
        | omega)
      all_goals (try simp only [push_cast, seval, reduceCtorEq, hg, hd, hw, h8, hk2, hln, hw8, hw9, hw10, hqm, hrow, hdt1])
      all_goals first
        | (simp only [*, hg, hd, hw, h8, hk2, hln, hw8, hw9, hw10, hqm, hrow, hdt1]; done)
        | (simp [*, hg, hd, hw, h8, hk2, hln, hw8, hw9, hw10, hqm, hrow, hdt1]; done)
        | (simp_all [hg, hd, hw, h8, hk2, hln, hw8, hw9, hw10, hqm, hrow, hdt1]; done)
        | (simp_all [hg, hd, hw, h8, hk2, hln, hw8, hw9, hw10, hqm, hrow, hdt1]; omega)
        | skip
      all_goals
        refine w_loopS (keIn m xs k Rb) (fun j => j ≤ Rb.q.length) (fun j => Rb.q.length - j) 0 (Nat.zero_le _) ?_ (keep_round m xs k Rb hk' hs hnn l2 h300)
        simp only [keIn, hs2, hs3, hln, waV, waR, List.append_nil, List.cons_append, List.nil_append, List.length_nil]
        rw [show (((l ++ B.q).map intc).drop l.length).take B.q.length ++ [[AV.int .i64 ((B.os.length : Int) + 1)]] = Rb.q.map intc from by rw [List.map_append, List.drop_left' (by simp), hdt1]; exact hrow]
        (apply Wk.renA (fun _ => false); (case he => (try simp only [push_cast, Nat.reduceBEq, Nat.reduceLeDiff, Nat.reduceAdd]); (repeat' (first | exact trivial | (refine cv_ptE rfl rfl rfl rfl rfl ?_; simp only [push_cast, Nat.reduceBEq, Nat.reduceLeDiff, Nat.reduceAdd]) | exact cv_slE rfl rfl ⟨rfl, rfl⟩ (by simp) (by simp [take_map_len]) | exact cv_slG rfl rfl ⟨rfl, rfl⟩ (by simp) (by first | rfl | (simp; done)) (by first | rfl | (simp; done) | (simp; omega)) (by simp [push_cast]) | exact cv_ros_self (by simp [push_cast]) | exact bel_ros_cl (by simp [push_cast]) | exact nilBk | exact cellsCv_eq (by simp [take_map_len]) (by simp [push_cast]) | refine And.intro ?_ ?_ | rfl | omega | (simp; done) | (simp; omega)))); (case hr => (try simp only [push_cast, Nat.reduceBEq, Nat.reduceLeDiff, Nat.reduceAdd]); (repeat' (first | exact trivial | (refine cv_ptE rfl rfl rfl rfl rfl ?_; simp only [push_cast, Nat.reduceBEq, Nat.reduceLeDiff, Nat.reduceAdd]) | exact cv_slE rfl rfl ⟨rfl, rfl⟩ (by simp) (by simp [take_map_len]) | exact cv_slG rfl rfl ⟨rfl, rfl⟩ (by simp) (by first | rfl | (simp; done)) (by first | rfl | (simp; done) | (simp; omega)) (by simp [push_cast]) | exact cv_ros_self (by simp [push_cast]) | exact bel_ros_cl (by simp [push_cast]) | exact nilBk | exact cellsCv_eq (by simp [take_map_len]) (by simp [push_cast]) | refine And.intro ?_ ?_ | rfl | omega | (simp; done) | (simp; omega)))); (case hinj => simp [rhoA_0, rhoA_1, rhoA_2]); all_goals exact 0)
  · -- Cancel
    obtain ⟨k1, k2, k3⟩ := keep1 h8 a2
    simp only [h8, if_true, if_false, show ((1 : Int) = 0) = False by simp, show ((1 : Int) = 2) = False by simp, decide_false, cond_false] at hs2 hs3
    have hk2 : ((progR (plB m xs k) m x).bk.os.length : Int) = (plB m xs k).os.length := by rw [k1]
    have hb : bookE (plB m xs k) m = 0 := by
      rcases plB_ok (m := m) hx k hk with e | e
      · rw [e] at k3; simp [zB] at k3
      · exact e
    have hfl := filt_len (q_pair hb) k3
    rw [← k2] at hfl
    have hw10 : IntKind.i64.wrap (((plB m xs k).os.length : Int) + 1 - 1) = (plB m xs k).os.length := by rw [IntWalk.i64_in _ (by omega)]; omega
    have hw11 : IntKind.i64.wrap (((plB m xs k).q.length : Int) - 1) = (progR (plB m xs k) m x).bk.q.length := by rw [IntWalk.i64_in _ (by omega)]; omega
    clear hx ht hf hN hd2 v2 v3 v4 hT hv q3 k1 hb
    generalize progR (plB m xs k) m x = R at *
    generalize hB : plB m xs k = B at *
    generalize hJ : juU m xs k = J at *
    generalize hL : laU m xs k = L at *
    obtain ⟨Rb, Rid, Ro, Rt, Re⟩ := R
    simp only at a2 k2 hk2 hfl hs cb l1 l2 hs2 hs3 hqm hnn hw11
    subst a2
    rcases J with _ | l
    · rw [v1 rfl] at k3; cases k3
    clear k3
    replace k2 := k2.symm
    simp only [waV, waR, List.append_nil, List.cons_append, List.nil_append]
    (try simp only [push_cast, seval, reduceCtorEq, hg, hd, hw, h8])
    repeat' (first
      | ((first | ((first | refine brX_split ?_ ?_ | refine gX_split ?_ ?_ | refine hX_split ?_ ?_ | refine outK_split ?_ ?_) <;> (intro xc; (try simp only [Bool.not_eq_true', Bool.not_eq_false'] at xc); have xp := xc; (try simp only [decide_eq_true_eq, decide_eq_false_iff_not, Int.not_lt, Int.not_le, ge_iff_le, gt_iff_lt, Bool.and_eq_true, Bool.or_eq_false_iff] at xp); have xq := xp; (first | simp only [← Int.not_le] at xq | simp only [← Int.not_lt] at xq | clear xq))) | refine ⟨.ret _, _, PCall.s (by first | assumption) (by simp [push_cast, hg, hd, hw, h8]), ?_⟩ | refine ⟨.ret _, _, RCall.s (RCall.sh (by first | assumption)) (by simp [push_cast, hg, hd, hw, h8]), ?_⟩ | refine ⟨_, _, SCall.lift (by first | assumption) (outR_cl (by simp [push_cast]) (by simp [push_cast])) (by simp [push_cast, hg, hd, hw, h8]), ?_⟩ | refine ⟨_, (by first | assumption), ?_⟩ | refine ⟨0, [], _, PCall.r (by first | assumption), ?_⟩ | refine ⟨_, _, (by first | assumption), ?_⟩ | refine ⟨_, _, _, RCall.sh (by first | assumption), ?_⟩ | refine ⟨_, _, _, (by first | assumption), ?_⟩ | ((fail_if_success (refine ⟨_, ?_, ?_⟩)); refine ⟨AV.any, ?_⟩) | refine ret_frz rfl ?_ (by simp [push_cast]) (by simp [push_cast, hg, hd, hw, h8]) (by simp [push_cast, hg, hd, hw, h8]) | refine end_frz rfl ?_ (by simp [push_cast]) (by simp [push_cast, hg, hd, hw, h8]) (by simp [push_cast, hg, hd, hw, h8]) | refine ret_now (by simp [push_cast]) ?_ (by simp [push_cast]) | refine end_now (by simp [push_cast]) ?_ (by simp [push_cast])) <;> (try simp only [push_cast, seval, reduceCtorEq, *, hg, hd, hw, h8]))
      | ((first | refine cv_ptE rfl rfl rfl rfl rfl ?_ | refine outQ_frz rfl ?_ (by simp [push_cast]) (by simp [push_cast, hg, hd, hw, h8]) | refine dfr_end (by simp) rfl ?_ (by simp [push_cast]) (by simp [push_cast, hg, hd, hw, h8])) <;> (try simp only [push_cast, seval, reduceCtorEq, hg, hd, hw, h8]))
      | exact cv_slE rfl rfl ⟨rfl, rfl⟩ (by simp) (by simp [take_map_len])
      | refine outQ_pan ?_ (by simp [push_cast])
      | refine outQ_unit ?_
      | refine outQ_unitN ?_
      | refine And.intro ?_ ?_
      | omega)
    all_goals (try simp only [push_cast, seval, reduceCtorEq, hg, hd, hw, h8])
    all_goals first
      | (simp only [*, hg, hd, hw, h8]; done)
      | (simp [*, hg, hd, hw, h8]; done)
      | (simp_all [hg, hd, hw, h8]; done)
      | (simp_all [hg, hd, hw, h8]; omega)
      | skip
    refine w_loopS (fun j : Nat => ([(1, .ros 5 (xs.map clc)), (2, .pt 0 8 0 0), (5, .bool true), (6, .pt 1 4 0 0), (7, .sl 2 1 l.length B.q.length none), (8, .int .i64 ((B.os.length : Int) + 1)), (9, .int .i64 L), (10, .int .i64 k), (12, accV 3 1 ((flU B.q x.id j).map intc)), (13, .int .i64 j)], ⟨4, [(0, ⟨8, [tmc m]⟩), (1, ⟨4, [bkc Rb]⟩), (2, ⟨1, (l ++ B.q).map intc⟩)] ++ accR 3 1 ((flU B.q x.id j).map intc)⟩)) (fun j => j ≤ B.q.length) (fun j => B.q.length - j) 0 (Nat.zero_le _) ?_ ?_
    · simp only [flU_zero, List.map_nil, accV, accR, List.append_nil]
      (apply Wk.renA (fun _ => false); (case he => (try simp only [push_cast, Nat.reduceBEq, Nat.reduceLeDiff, Nat.reduceAdd]); (repeat' (first | exact trivial | (refine cv_ptE rfl rfl rfl rfl rfl ?_; simp only [push_cast, Nat.reduceBEq, Nat.reduceLeDiff, Nat.reduceAdd]) | exact cv_slE rfl rfl ⟨rfl, rfl⟩ (by simp) (by simp [take_map_len]) | exact cv_slG rfl rfl ⟨rfl, rfl⟩ (by simp) (by first | rfl | (simp; done)) (by first | rfl | (simp; done) | (simp; omega)) (by simp [push_cast]) | exact cv_ros_self (by simp [push_cast]) | exact bel_ros_cl (by simp [push_cast]) | exact nilBk | exact cellsCv_eq (by simp [take_map_len]) (by simp [push_cast]) | refine And.intro ?_ ?_ | rfl | omega | (simp; done) | (simp; omega)))); (case hr => (try simp only [push_cast, Nat.reduceBEq, Nat.reduceLeDiff, Nat.reduceAdd]); (repeat' (first | exact trivial | (refine cv_ptE rfl rfl rfl rfl rfl ?_; simp only [push_cast, Nat.reduceBEq, Nat.reduceLeDiff, Nat.reduceAdd]) | exact cv_slE rfl rfl ⟨rfl, rfl⟩ (by simp) (by simp [take_map_len]) | exact cv_slG rfl rfl ⟨rfl, rfl⟩ (by simp) (by first | rfl | (simp; done)) (by first | rfl | (simp; done) | (simp; omega)) (by simp [push_cast]) | exact cv_ros_self (by simp [push_cast]) | exact bel_ros_cl (by simp [push_cast]) | exact nilBk | exact cellsCv_eq (by simp [take_map_len]) (by simp [push_cast]) | refine And.intro ?_ ?_ | rfl | omega | (simp; done) | (simp; omega)))); (case hinj => simp [rhoA_0, rhoA_1, rhoA_2]); all_goals exact 0)
    intro j hj
    rcases Nat.lt_or_ge j B.q.length with hj' | hj'
    · obtain ⟨y, hy⟩ := lt_get hj'
      have hg2 := getD_map (enc := intc) (show (l ++ B.q)[l.length + j]? = some y by rw [List.getElem?_append_right (by omega)]; simpa using hy)
      have hdj := dlt hj'
      have hwj := inc64 (k := j) (by omega)
      have hst := flU_step (id := x.id) hy
      have hal := flU_len (q := B.q) (id := x.id) (j := j)
      clear hnn cb c1 c4 hqm hs hs2 hs3 k2 hfl v1 hd hw hw10 hw11
      generalize hacc : flU B.q x.id j = acc at *
      by_cases e : y = x.id
      · simp only [e, if_true, List.append_nil] at hst
        have e3 : (y = x.id) = True := eq_true e
        clear e
        rcases acc with _ | ⟨a, al⟩
        all_goals
          simp only [List.map_nil, List.map_cons, accV, accR, List.append_nil, List.cons_append, List.nil_append]
          (try simp only [push_cast, seval, reduceCtorEq, hg, hdj, hwj, hg2, e3])
          repeat' (first
            | ((first | ((first | refine brX_split ?_ ?_ | refine gX_split ?_ ?_ | refine hX_split ?_ ?_ | refine outK_split ?_ ?_) <;> (intro xc; (try simp only [Bool.not_eq_true', Bool.not_eq_false'] at xc); have xp := xc; (try simp only [decide_eq_true_eq, decide_eq_false_iff_not, Int.not_lt, Int.not_le, ge_iff_le, gt_iff_lt, Bool.and_eq_true, Bool.or_eq_false_iff] at xp); have xq := xp; (first | simp only [← Int.not_le] at xq | simp only [← Int.not_lt] at xq | clear xq))) | ((fail_if_success (refine ⟨_, ?_, ?_⟩)); refine ⟨AV.any, ?_⟩) | refine ret_frz rfl ?_ (by simp [push_cast]) (by simp [push_cast, hg, hdj, hwj, hg2, e3]) (by simp [push_cast, hg, hdj, hwj, hg2, e3]) | refine end_frz rfl ?_ (by simp [push_cast]) (by simp [push_cast, hg, hdj, hwj, hg2, e3]) (by simp [push_cast, hg, hdj, hwj, hg2, e3]) | refine ret_now (by simp [push_cast]) ?_ (by simp [push_cast]) | refine end_now (by simp [push_cast]) ?_ (by simp [push_cast])) <;> (try simp only [push_cast, seval, reduceCtorEq, *, hg, hdj, hwj, hg2, e3]))
            | ((first | refine cv_ptE rfl rfl rfl rfl rfl ?_ | refine outQ_frz rfl ?_ (by simp [push_cast]) (by simp [push_cast, hg, hdj, hwj, hg2, e3]) | refine dfr_end (by simp) rfl ?_ (by simp [push_cast]) (by simp [push_cast, hg, hdj, hwj, hg2, e3])) <;> (try simp only [push_cast, seval, reduceCtorEq, hg, hdj, hwj, hg2, e3]))
            | exact cv_slE rfl rfl ⟨rfl, rfl⟩ (by simp) (by simp [take_map_len])
            | refine outQ_pan ?_ (by simp [push_cast])
            | refine outQ_unit ?_
            | refine outQ_unitN ?_
            | refine And.intro ?_ ?_
            | omega)
          all_goals (try simp only [push_cast, seval, reduceCtorEq, hg, hdj, hwj, hg2, e3])
          all_goals first
            | (simp only [*, hg, hdj, hwj, hg2, e3]; done)
            | (simp [*, hg, hdj, hwj, hg2, e3]; done)
            | (simp_all [hg, hdj, hwj, hg2, e3]; done)
            | (simp_all [hg, hdj, hwj, hg2, e3]; omega)
            | skip
          all_goals
            (refine rnd_to _ _ _ (j + 1) hj' (by first | omega | (dsimp only; omega)) ?_; (try simp [hst, hacc, List.map_append, accV, accR, accV_snoc, accR_snoc, List.length_append, *]); refine Wk.ren (fun _ => false) (fun i => i) (by simp) (by simp) ?_ ?_ (by simp) <;> (try simp only [push_cast, Nat.reduceBEq, Nat.reduceLeDiff, Nat.reduceAdd]) <;> (repeat' (first | exact trivial | (refine cv_ptE rfl rfl rfl rfl rfl ?_; simp only [push_cast, Nat.reduceBEq, Nat.reduceLeDiff, Nat.reduceAdd]) | exact cv_slE rfl rfl ⟨rfl, rfl⟩ (by simp) (by simp [take_map_len]) | exact cv_slG rfl rfl ⟨rfl, rfl⟩ (by simp) (by first | rfl | (simp; done)) (by first | rfl | (simp; done) | (simp; omega)) (by simp [push_cast]) | exact cv_ros_self (by simp [push_cast]) | exact bel_ros_cl (by simp [push_cast]) | exact nilBk | exact cellsCv_eq (by simp [take_map_len]) (by simp [push_cast]) | refine And.intro ?_ ?_ | rfl | omega | (simp; done) | (simp; omega))))
      · simp only [e, if_false] at hst
        rcases acc with _ | ⟨a, al⟩
        all_goals
          simp only [List.map_nil, List.map_cons, accV, accR, List.append_nil, List.cons_append, List.nil_append]
          (try simp only [push_cast, seval, reduceCtorEq, hg, hdj, hwj, hg2, e])
          repeat' (first
            | ((first | ((first | refine brX_split ?_ ?_ | refine gX_split ?_ ?_ | refine hX_split ?_ ?_ | refine outK_split ?_ ?_) <;> (intro xc; (try simp only [Bool.not_eq_true', Bool.not_eq_false'] at xc); have xp := xc; (try simp only [decide_eq_true_eq, decide_eq_false_iff_not, Int.not_lt, Int.not_le, ge_iff_le, gt_iff_lt, Bool.and_eq_true, Bool.or_eq_false_iff] at xp); have xq := xp; (first | simp only [← Int.not_le] at xq | simp only [← Int.not_lt] at xq | clear xq))) | ((fail_if_success (refine ⟨_, ?_, ?_⟩)); refine ⟨AV.any, ?_⟩) | refine ret_frz rfl ?_ (by simp [push_cast]) (by simp [push_cast, hg, hdj, hwj, hg2, e]) (by simp [push_cast, hg, hdj, hwj, hg2, e]) | refine end_frz rfl ?_ (by simp [push_cast]) (by simp [push_cast, hg, hdj, hwj, hg2, e]) (by simp [push_cast, hg, hdj, hwj, hg2, e]) | refine ret_now (by simp [push_cast]) ?_ (by simp [push_cast]) | refine end_now (by simp [push_cast]) ?_ (by simp [push_cast])) <;> (try simp only [push_cast, seval, reduceCtorEq, *, hg, hdj, hwj, hg2, e]))
            | ((first | refine cv_ptE rfl rfl rfl rfl rfl ?_ | refine outQ_frz rfl ?_ (by simp [push_cast]) (by simp [push_cast, hg, hdj, hwj, hg2, e]) | refine dfr_end (by simp) rfl ?_ (by simp [push_cast]) (by simp [push_cast, hg, hdj, hwj, hg2, e])) <;> (try simp only [push_cast, seval, reduceCtorEq, hg, hdj, hwj, hg2, e]))
            | exact cv_slE rfl rfl ⟨rfl, rfl⟩ (by simp) (by simp [take_map_len])
            | refine outQ_pan ?_ (by simp [push_cast])
            | refine outQ_unit ?_
            | refine outQ_unitN ?_
            | refine And.intro ?_ ?_
            | omega)
          all_goals (try simp only [push_cast, seval, reduceCtorEq, hg, hdj, hwj, hg2, e])
          all_goals first
            | (simp only [*, hg, hdj, hwj, hg2, e]; done)
            | (simp [*, hg, hdj, hwj, hg2, e]; done)
            | (simp_all [hg, hdj, hwj, hg2, e]; done)
            | (simp_all [hg, hdj, hwj, hg2, e]; omega)
            | skip
          all_goals
            (refine rnd_to _ _ _ (j + 1) hj' (by first | omega | (dsimp only; omega)) ?_; (try simp [hst, hacc, List.map_append, accV, accR, accV_snoc, accR_snoc, List.length_append, *]); refine Wk.ren (fun _ => false) (fun i => (bif i == 3 then 24 else i)) (by simp) (by simp) ?_ ?_ (by simp) <;> (try simp only [push_cast, Nat.reduceBEq, Nat.reduceLeDiff, Nat.reduceAdd]) <;> (repeat' (first | exact trivial | (refine cv_ptE rfl rfl rfl rfl rfl ?_; simp only [push_cast, Nat.reduceBEq, Nat.reduceLeDiff, Nat.reduceAdd]) | exact cv_slE rfl rfl ⟨rfl, rfl⟩ (by simp) (by simp [take_map_len]) | exact cv_slG rfl rfl ⟨rfl, rfl⟩ (by simp) (by first | rfl | (simp; done)) (by first | rfl | (simp; done) | (simp; omega)) (by simp [push_cast]) | exact cv_ros_self (by simp [push_cast]) | exact bel_ros_cl (by simp [push_cast]) | exact nilBk | exact cellsCv_eq (by simp [take_map_len]) (by simp [push_cast]) | refine And.intro ?_ ?_ | rfl | omega | (simp; done) | (simp; omega))))
    · have hdj := dge hj'
      obtain rfl : j = B.q.length := by omega
      have hfa := flU_all (q := B.q) (id := x.id)
      rw [k2] at hfa
      clear k2 v1
      generalize flU B.q x.id B.q.length = F at *
      have hFl := congrArg List.length hfa
      have hFm := congrArg (List.map intc) hfa
      rcases F with _ | ⟨a, al⟩
      · have hs2' : juU m xs (k + 1) = none := by rw [hs2, if_pos hfa.symm]
        have hz : Rb.q.length = 0 := hFl.symm
        rw [hz] at hw11 hqm
        clear hfa hFl hFm hs2
        simp only [List.map_nil, accV, accR, List.append_nil]
        (try simp only [push_cast, seval, reduceCtorEq, hdj, hw10, hw11, hk2, hqm, hz])
        repeat' (first
          | ((first | ((first | refine brX_split ?_ ?_ | refine gX_split ?_ ?_ | refine hX_split ?_ ?_ | refine outK_split ?_ ?_) <;> (intro xc; (try simp only [Bool.not_eq_true', Bool.not_eq_false'] at xc); have xp := xc; (try simp only [decide_eq_true_eq, decide_eq_false_iff_not, Int.not_lt, Int.not_le, ge_iff_le, gt_iff_lt, Bool.and_eq_true, Bool.or_eq_false_iff] at xp); have xq := xp; (first | simp only [← Int.not_le] at xq | simp only [← Int.not_lt] at xq | clear xq))) | refine ⟨.ret _, _, PCall.s (by first | exact cb) (by simp [push_cast, hdj, hw10, hw11, hk2, hqm, hz]), ?_⟩ | refine ⟨.ret _, _, RCall.s (RCall.sh (by first | exact cb)) (by simp [push_cast, hdj, hw10, hw11, hk2, hqm, hz]), ?_⟩ | refine ⟨_, _, SCall.lift (by first | exact cb) (outR_cl (by simp [push_cast]) (by simp [push_cast])) (by simp [push_cast, hdj, hw10, hw11, hk2, hqm, hz]), ?_⟩ | refine ⟨_, (by first | exact cb), ?_⟩ | refine ⟨0, [], _, PCall.r (by first | exact cb), ?_⟩ | refine ⟨_, _, (by first | exact cb), ?_⟩ | refine ⟨_, _, _, RCall.sh (by first | exact cb), ?_⟩ | refine ⟨_, _, _, (by first | exact cb), ?_⟩ | ((fail_if_success (refine ⟨_, ?_, ?_⟩)); refine ⟨AV.any, ?_⟩) | refine ret_frz rfl ?_ (by simp [push_cast]) (by simp [push_cast, hdj, hw10, hw11, hk2, hqm, hz]) (by simp [push_cast, hdj, hw10, hw11, hk2, hqm, hz]) | refine end_frz rfl ?_ (by simp [push_cast]) (by simp [push_cast, hdj, hw10, hw11, hk2, hqm, hz]) (by simp [push_cast, hdj, hw10, hw11, hk2, hqm, hz]) | refine ret_now (by simp [push_cast]) ?_ (by simp [push_cast]) | refine end_now (by simp [push_cast]) ?_ (by simp [push_cast])) <;> (try simp only [push_cast, seval, reduceCtorEq, *, hdj, hw10, hw11, hk2, hqm, hz]))
          | ((first | refine cv_ptE rfl rfl rfl rfl rfl ?_ | refine outQ_frz rfl ?_ (by simp [push_cast]) (by simp [push_cast, hdj, hw10, hw11, hk2, hqm, hz]) | refine dfr_end (by simp) rfl ?_ (by simp [push_cast]) (by simp [push_cast, hdj, hw10, hw11, hk2, hqm, hz])) <;> (try simp only [push_cast, seval, reduceCtorEq, hdj, hw10, hw11, hk2, hqm, hz]))
          | exact cv_slE rfl rfl ⟨rfl, rfl⟩ (by simp) (by simp [take_map_len])
          | refine outQ_pan ?_ (by simp [push_cast])
          | refine outQ_unit ?_
          | refine outQ_unitN ?_
          | refine And.intro ?_ ?_
          | omega)
        all_goals (try simp only [push_cast, seval, reduceCtorEq, hdj, hw10, hw11, hk2, hqm, hz])
        all_goals first
          | (simp only [*, hdj, hw10, hw11, hk2, hqm, hz]; done)
          | (simp [*, hdj, hw10, hw11, hk2, hqm, hz]; done)
          | (simp_all [hdj, hw10, hw11, hk2, hqm, hz]; done)
          | (simp_all [hdj, hw10, hw11, hk2, hqm, hz]; omega)
          | skip
        all_goals
          refine w_loopS (keIn m xs k Rb) (fun j => j ≤ Rb.q.length) (fun j => Rb.q.length - j) 0 (Nat.zero_le _) ?_ (keep_round m xs k Rb hk' hs hnn l2 h300)
          simp only [keIn, hs2', hs3, hz, waV, waR, List.append_nil, List.cons_append, List.nil_append]
          (apply Wk.renA (fun _ => false); (case he => (try simp only [push_cast, Nat.reduceBEq, Nat.reduceLeDiff, Nat.reduceAdd]); (repeat' (first | exact trivial | (refine cv_ptE rfl rfl rfl rfl rfl ?_; simp only [push_cast, Nat.reduceBEq, Nat.reduceLeDiff, Nat.reduceAdd]) | exact cv_slE rfl rfl ⟨rfl, rfl⟩ (by simp) (by simp [take_map_len]) | exact cv_slG rfl rfl ⟨rfl, rfl⟩ (by simp) (by first | rfl | (simp; done)) (by first | rfl | (simp; done) | (simp; omega)) (by simp [push_cast]) | exact cv_ros_self (by simp [push_cast]) | exact bel_ros_cl (by simp [push_cast]) | exact nilBk | exact cellsCv_eq (by simp [take_map_len]) (by simp [push_cast]) | refine And.intro ?_ ?_ | rfl | omega | (simp; done) | (simp; omega)))); (case hr => (try simp only [push_cast, Nat.reduceBEq, Nat.reduceLeDiff, Nat.reduceAdd]); (repeat' (first | exact trivial | (refine cv_ptE rfl rfl rfl rfl rfl ?_; simp only [push_cast, Nat.reduceBEq, Nat.reduceLeDiff, Nat.reduceAdd]) | exact cv_slE rfl rfl ⟨rfl, rfl⟩ (by simp) (by simp [take_map_len]) | exact cv_slG rfl rfl ⟨rfl, rfl⟩ (by simp) (by first | rfl | (simp; done)) (by first | rfl | (simp; done) | (simp; omega)) (by simp [push_cast]) | exact cv_ros_self (by simp [push_cast]) | exact bel_ros_cl (by simp [push_cast]) | exact nilBk | exact cellsCv_eq (by simp [take_map_len]) (by simp [push_cast]) | refine And.intro ?_ ?_ | rfl | omega | (simp; done) | (simp; omega)))); (case hinj => simp [rhoA_0, rhoA_1, rhoA_2]); all_goals exact 0)
      · have hs2' : juU m xs (k + 1) = some [] := by rw [hs2, if_neg (by rw [← hfa]; simp)]
        clear hfa hs2
        simp only [List.length_cons] at hFl
        have hFl2 : (al.length : Int) + 1 = Rb.q.length := by omega
        simp only [List.map_cons] at hFm
        simp only [List.map_cons, accV, accR, List.cons_append, List.nil_append, List.length_map]
        rw [hFl]
        (try simp only [push_cast, seval, reduceCtorEq, hdj, hw10, hw11, hk2, hqm])
        repeat' (first
          | ((first | ((first | refine brX_split ?_ ?_ | refine gX_split ?_ ?_ | refine hX_split ?_ ?_ | refine outK_split ?_ ?_) <;> (intro xc; (try simp only [Bool.not_eq_true', Bool.not_eq_false'] at xc); have xp := xc; (try simp only [decide_eq_true_eq, decide_eq_false_iff_not, Int.not_lt, Int.not_le, ge_iff_le, gt_iff_lt, Bool.and_eq_true, Bool.or_eq_false_iff] at xp); have xq := xp; (first | simp only [← Int.not_le] at xq | simp only [← Int.not_lt] at xq | clear xq))) | refine ⟨.ret _, _, PCall.s (by first | exact cb) (by simp [push_cast, hdj, hw10, hw11, hk2, hqm]), ?_⟩ | refine ⟨.ret _, _, RCall.s (RCall.sh (by first | exact cb)) (by simp [push_cast, hdj, hw10, hw11, hk2, hqm]), ?_⟩ | refine ⟨_, _, SCall.lift (by first | exact cb) (outR_cl (by simp [push_cast]) (by simp [push_cast])) (by simp [push_cast, hdj, hw10, hw11, hk2, hqm]), ?_⟩ | refine ⟨_, (by first | exact cb), ?_⟩ | refine ⟨0, [], _, PCall.r (by first | exact cb), ?_⟩ | refine ⟨_, _, (by first | exact cb), ?_⟩ | refine ⟨_, _, _, RCall.sh (by first | exact cb), ?_⟩ | refine ⟨_, _, _, (by first | exact cb), ?_⟩ | ((fail_if_success (refine ⟨_, ?_, ?_⟩)); refine ⟨AV.any, ?_⟩) | refine ret_frz rfl ?_ (by simp [push_cast]) (by simp [push_cast, hdj, hw10, hw11, hk2, hqm]) (by simp [push_cast, hdj, hw10, hw11, hk2, hqm]) | refine end_frz rfl ?_ (by simp [push_cast]) (by simp [push_cast, hdj, hw10, hw11, hk2, hqm]) (by simp [push_cast, hdj, hw10, hw11, hk2, hqm]) | refine ret_now (by simp [push_cast]) ?_ (by simp [push_cast]) | refine end_now (by simp [push_cast]) ?_ (by simp [push_cast])) <;> (try simp only [push_cast, seval, reduceCtorEq, *, hdj, hw10, hw11, hk2, hqm]))
          | ((first | refine cv_ptE rfl rfl rfl rfl rfl ?_ | refine outQ_frz rfl ?_ (by simp [push_cast]) (by simp [push_cast, hdj, hw10, hw11, hk2, hqm]) | refine dfr_end (by simp) rfl ?_ (by simp [push_cast]) (by simp [push_cast, hdj, hw10, hw11, hk2, hqm])) <;> (try simp only [push_cast, seval, reduceCtorEq, hdj, hw10, hw11, hk2, hqm]))
          | exact cv_slE rfl rfl ⟨rfl, rfl⟩ (by simp) (by simp [take_map_len])
          | refine outQ_pan ?_ (by simp [push_cast])
          | refine outQ_unit ?_
          | refine outQ_unitN ?_
          | refine And.intro ?_ ?_
          | omega)
        all_goals (try simp only [push_cast, seval, reduceCtorEq, hdj, hw10, hw11, hk2, hqm])
        all_goals first
          | (simp only [*, hdj, hw10, hw11, hk2, hqm]; done)
          | (simp [*, hdj, hw10, hw11, hk2, hqm]; done)
          | (simp_all [hdj, hw10, hw11, hk2, hqm]; done)
          | (simp_all [hdj, hw10, hw11, hk2, hqm]; omega)
          | skip
        all_goals
          refine w_loopS (keIn m xs k Rb) (fun j => j ≤ Rb.q.length) (fun j => Rb.q.length - j) 0 (Nat.zero_le _) ?_ (keep_round m xs k Rb hk' hs hnn l2 h300)
          simp only [keIn, hs2', hs3, waV, waR, List.append_nil, List.cons_append, List.nil_append, List.length_nil]
          (apply Wk.renA (fun _ => false); (case he => (try simp only [push_cast, Nat.reduceBEq, Nat.reduceLeDiff, Nat.reduceAdd]); (repeat' (first | exact trivial | (refine cv_ptE rfl rfl rfl rfl rfl ?_; simp only [push_cast, Nat.reduceBEq, Nat.reduceLeDiff, Nat.reduceAdd]) | exact cv_slE rfl rfl ⟨rfl, rfl⟩ (by simp) (by simp [take_map_len]) | exact cv_slG rfl rfl ⟨rfl, rfl⟩ (by simp) (by first | rfl | (simp; done)) (by first | rfl | (simp; done) | (simp; omega)) (by simp [push_cast]) | exact cv_ros_self (by simp [push_cast]) | exact bel_ros_cl (by simp [push_cast]) | exact nilBk | exact cellsCv_eq (by simp [take_map_len]) (by simp [push_cast]) | refine And.intro ?_ ?_ | rfl | omega | (simp; done) | (simp; omega)))); (case hr => (try simp only [push_cast, Nat.reduceBEq, Nat.reduceLeDiff, Nat.reduceAdd]); (repeat' (first | exact trivial | (refine cv_ptE rfl rfl rfl rfl rfl ?_; simp only [push_cast, Nat.reduceBEq, Nat.reduceLeDiff, Nat.reduceAdd]) | exact cv_slE rfl rfl ⟨rfl, rfl⟩ (by simp) (by simp [take_map_len]) | exact cv_slG rfl rfl ⟨rfl, rfl⟩ (by simp) (by first | rfl | (simp; done)) (by first | rfl | (simp; done) | (simp; omega)) (by simp [push_cast]) | exact cv_ros_self (by simp [push_cast]) | exact bel_ros_cl (by simp [push_cast]) | exact nilBk | exact cellsCv_eq (by simp [take_map_len]) (by simp [push_cast]) | refine And.intro ?_ ?_ | rfl | omega | (simp; done) | (simp; omega)))); (case hinj => simp [rhoA_0, rhoA_1, rhoA_2]); all_goals exact 0)
  · -- Assign
    obtain ⟨k1, k2, k3⟩ := keep2 h8 a2
    simp only [h8, if_true, if_false, show ((2 : Int) = 0) = False by simp, show ((2 : Int) = 1) = False by simp, decide_true, cond_true] at hs2 hs3
    have hk2 : ((progR (plB m xs k) m x).bk.os.length : Int) = (plB m xs k).os.length := by rw [k1]
    have hgt : decide ((progR (plB m xs k) m x).id ≤ laU m xs k) = false := by have := v4 (progR (plB m xs k) m x).id (by rw [k2]; simp); simp; omega
    have hbl : (plB m xs k).q.length = (progR (plB m xs k) m x).bk.q.length + 1 := by rw [k2]; rfl
    have hw10 : IntKind.i64.wrap (((plB m xs k).os.length : Int) + 1 - 1) = (plB m xs k).os.length := by rw [IntWalk.i64_in _ (by omega)]; omega
    clear hx ht hf hN hd2 v2 v3 v4 hT hv q3 k1
    generalize progR (plB m xs k) m x = R at *
    generalize hB : plB m xs k = B at *
    generalize hJ : juU m xs k = J at *
    generalize hL : laU m xs k = L at *
    obtain ⟨Rb, Rid, Ro, Rt, Re⟩ := R
    simp only at a2 k2 k3 hk2 hs cb l1 l2 hs2 hs3 hqm hnn hbl hgt
    subst a2
    rcases J with _ | l
    · rw [v1 rfl] at k2; cases k2
    have hg2 := getD_map (enc := intc) (show (l ++ B.q)[l.length]? = some Rid by rw [k2]; simp)
    have hrow : l ++ [Rid] ++ Rb.q = l ++ B.q := by rw [k2]; simp
    have hsub : B.q.length - 1 = Rb.q.length := by omega
    have hne : decide ((B.q.length : Int) = 0) = false := decide_eq_false (by omega)
    have hpos : 0 < B.q.length := by omega
    clear k2 k3 v1 hbl
    simp only [Option.map_some] at hs2
    simp only [waV, waR, List.append_nil, List.cons_append, List.nil_append]
    (try simp only [push_cast, seval, reduceCtorEq, hg, hd, hw, h8, hg2, hne, hgt, hk2, hw10, hqm, hsub])
    repeat' (first
      | ((first | ((first | refine brX_split ?_ ?_ | refine gX_split ?_ ?_ | refine hX_split ?_ ?_ | refine outK_split ?_ ?_) <;> (intro xc; (try simp only [Bool.not_eq_true', Bool.not_eq_false'] at xc); have xp := xc; (try simp only [decide_eq_true_eq, decide_eq_false_iff_not, Int.not_lt, Int.not_le, ge_iff_le, gt_iff_lt, Bool.and_eq_true, Bool.or_eq_false_iff] at xp); have xq := xp; (first | simp only [← Int.not_le] at xq | simp only [← Int.not_lt] at xq | clear xq))) | refine ⟨.ret _, _, PCall.s (by first | assumption | exact cb) (by simp [push_cast, hg, hd, hw, h8, hg2, hne, hgt, hk2, hw10, hqm, hsub]), ?_⟩ | refine ⟨.ret _, _, RCall.s (RCall.sh (by first | assumption | exact cb)) (by simp [push_cast, hg, hd, hw, h8, hg2, hne, hgt, hk2, hw10, hqm, hsub]), ?_⟩ | refine ⟨_, _, SCall.lift (by first | assumption | exact cb) (outR_cl (by simp [push_cast]) (by simp [push_cast])) (by simp [push_cast, hg, hd, hw, h8, hg2, hne, hgt, hk2, hw10, hqm, hsub]), ?_⟩ | refine ⟨_, (by first | assumption | exact cb), ?_⟩ | refine ⟨0, [], _, PCall.r (by first | assumption | exact cb), ?_⟩ | refine ⟨_, _, (by first | assumption | exact cb), ?_⟩ | refine ⟨_, _, _, RCall.sh (by first | assumption | exact cb), ?_⟩ | refine ⟨_, _, _, (by first | assumption | exact cb), ?_⟩ | ((fail_if_success (refine ⟨_, ?_, ?_⟩)); refine ⟨AV.any, ?_⟩) | refine ret_frz rfl ?_ (by simp [push_cast]) (by simp [push_cast, hg, hd, hw, h8, hg2, hne, hgt, hk2, hw10, hqm, hsub]) (by simp [push_cast, hg, hd, hw, h8, hg2, hne, hgt, hk2, hw10, hqm, hsub]) | refine end_frz rfl ?_ (by simp [push_cast]) (by simp [push_cast, hg, hd, hw, h8, hg2, hne, hgt, hk2, hw10, hqm, hsub]) (by simp [push_cast, hg, hd, hw, h8, hg2, hne, hgt, hk2, hw10, hqm, hsub]) | refine ret_now (by simp [push_cast]) ?_ (by simp [push_cast]) | refine end_now (by simp [push_cast]) ?_ (by simp [push_cast])) <;> (try simp only [push_cast, seval, reduceCtorEq, *, hg, hd, hw, h8, hg2, hne, hgt, hk2, hw10, hqm, hsub]))
      | ((first | refine cv_ptE rfl rfl rfl rfl rfl ?_ | refine outQ_frz rfl ?_ (by simp [push_cast]) (by simp [push_cast, hg, hd, hw, h8, hg2, hne, hgt, hk2, hw10, hqm, hsub]) | refine dfr_end (by simp) rfl ?_ (by simp [push_cast]) (by simp [push_cast, hg, hd, hw, h8, hg2, hne, hgt, hk2, hw10, hqm, hsub])) <;> (try simp only [push_cast, seval, reduceCtorEq, hg, hd, hw, h8, hg2, hne, hgt, hk2, hw10, hqm, hsub]))
      | exact cv_slE rfl rfl ⟨rfl, rfl⟩ (by simp) (by simp [take_map_len])
      | refine outQ_pan ?_ (by simp [push_cast])
      | refine outQ_unit ?_
      | refine outQ_unitN ?_
      | refine And.intro ?_ ?_
      | omega)
    all_goals (try simp only [push_cast, seval, reduceCtorEq, hg, hd, hw, h8, hg2, hne, hgt, hk2, hw10, hqm, hsub])
    all_goals first
      | (simp only [*, hg, hd, hw, h8, hg2, hne, hgt, hk2, hw10, hqm, hsub]; done)
      | (simp [*, hg, hd, hw, h8, hg2, hne, hgt, hk2, hw10, hqm, hsub]; done)
      | (simp_all [hg, hd, hw, h8, hg2, hne, hgt, hk2, hw10, hqm, hsub]; done)
      | (simp_all [hg, hd, hw, h8, hg2, hne, hgt, hk2, hw10, hqm, hsub]; omega)
      | skip
    all_goals
      refine w_loopS (keIn m xs k Rb) (fun j => j ≤ Rb.q.length) (fun j => Rb.q.length - j) 0 (Nat.zero_le _) ?_ (keep_round m xs k Rb hk' hs hnn l2 h300)
      simp only [keIn, hs2, hs3, waV, waR, List.append_nil, List.cons_append, List.nil_append, List.length_append, List.length_cons, List.length_nil]
      rw [hrow]
      (apply Wk.renA (fun _ => false); (case he => (try simp only [push_cast, Nat.reduceBEq, Nat.reduceLeDiff, Nat.reduceAdd]); (repeat' (first | exact trivial | (refine cv_ptE rfl rfl rfl rfl rfl ?_; simp only [push_cast, Nat.reduceBEq, Nat.reduceLeDiff, Nat.reduceAdd]) | exact cv_slE rfl rfl ⟨rfl, rfl⟩ (by simp) (by simp [take_map_len]) | exact cv_slG rfl rfl ⟨rfl, rfl⟩ (by simp) (by first | rfl | (simp; done)) (by first | rfl | (simp; done) | (simp; omega)) (by simp [push_cast]) | exact cv_ros_self (by simp [push_cast]) | exact bel_ros_cl (by simp [push_cast]) | exact nilBk | exact cellsCv_eq (by simp [take_map_len]) (by simp [push_cast]) | refine And.intro ?_ ?_ | rfl | omega | (simp; done) | (simp; omega)))); (case hr => (try simp only [push_cast, Nat.reduceBEq, Nat.reduceLeDiff, Nat.reduceAdd]); (repeat' (first | exact trivial | (refine cv_ptE rfl rfl rfl rfl rfl ?_; simp only [push_cast, Nat.reduceBEq, Nat.reduceLeDiff, Nat.reduceAdd]) | exact cv_slE rfl rfl ⟨rfl, rfl⟩ (by simp) (by simp [take_map_len]) | exact cv_slG rfl rfl ⟨rfl, rfl⟩ (by simp) (by first | rfl | (simp; done)) (by first | rfl | (simp; done) | (simp; omega)) (by simp [push_cast]) | exact cv_ros_self (by simp [push_cast]) | exact bel_ros_cl (by simp [push_cast]) | exact nilBk | exact cellsCv_eq (by simp [take_map_len]) (by simp [push_cast]) | refine And.intro ?_ ?_ | rfl | omega | (simp; done) | (simp; omega)))); (case hinj => simp [rhoA_0, rhoA_1, rhoA_2]); all_goals exact 0)
  all_goals
    obtain ⟨k1, k2⟩ := keep34 n2 (by omega) a2
    simp only [h8, if_false, show ((3 : Int) = 0) = False by simp, show ((3 : Int) = 1) = False by simp, show ((3 : Int) = 2) = False by simp, show ((4 : Int) = 0) = False by simp, show ((4 : Int) = 1) = False by simp, show ((4 : Int) = 2) = False by simp, decide_false, cond_false] at hs2 hs3
    have hk2 : ((progR (plB m xs k) m x).bk.os.length : Int) = (plB m xs k).os.length := by rw [k1]
    have hbl : (plB m xs k).q.length = (progR (plB m xs k) m x).bk.q.length := by rw [k2]
    have hrow : ∀ l : List Int, l ++ (plB m xs k).q = l ++ (progR (plB m xs k) m x).bk.q := fun l => by rw [k2]
    have hw10 : IntKind.i64.wrap (((plB m xs k).os.length : Int) + 1 - 1) = (plB m xs k).os.length := by rw [IntWalk.i64_in _ (by omega)]; omega
    clear hx ht hf hN hd2 v2 v3 v4 hT hv q3 k1 k2
    generalize progR (plB m xs k) m x = R at *
    generalize hB : plB m xs k = B at *
    generalize hJ : juU m xs k = J at *
    generalize hL : laU m xs k = L at *
    obtain ⟨Rb, Rid, Ro, Rt, Re⟩ := R
    simp only at a2 hk2 hs cb l1 l2 hs2 hs3 hqm hnn hbl hrow
    subst a2
    rcases J with _ | l
    · have hz : Rb.q.length = 0 := by rw [← hbl, v1 rfl]; rfl
      rw [hz] at hqm
      clear hrow hbl v1
      simp only [waV, waR, List.append_nil, List.cons_append, List.nil_append]
      (try simp only [push_cast, seval, reduceCtorEq, hg, hd, hw, h8, hk2, hw10, hqm, hz])
      repeat' (first
        | ((first | ((first | refine brX_split ?_ ?_ | refine gX_split ?_ ?_ | refine hX_split ?_ ?_ | refine outK_split ?_ ?_) <;> (intro xc; (try simp only [Bool.not_eq_true', Bool.not_eq_false'] at xc); have xp := xc; (try simp only [decide_eq_true_eq, decide_eq_false_iff_not, Int.not_lt, Int.not_le, ge_iff_le, gt_iff_lt, Bool.and_eq_true, Bool.or_eq_false_iff] at xp); have xq := xp; (first | simp only [← Int.not_le] at xq | simp only [← Int.not_lt] at xq | clear xq))) | refine ⟨.ret _, _, PCall.s (by first | assumption | exact cb) (by simp [push_cast, hg, hd, hw, h8, hk2, hw10, hqm, hz]), ?_⟩ | refine ⟨.ret _, _, RCall.s (RCall.sh (by first | assumption | exact cb)) (by simp [push_cast, hg, hd, hw, h8, hk2, hw10, hqm, hz]), ?_⟩ | refine ⟨_, _, SCall.lift (by first | assumption | exact cb) (outR_cl (by simp [push_cast]) (by simp [push_cast])) (by simp [push_cast, hg, hd, hw, h8, hk2, hw10, hqm, hz]), ?_⟩ | refine ⟨_, (by first | assumption | exact cb), ?_⟩ | refine ⟨0, [], _, PCall.r (by first | assumption | exact cb), ?_⟩ | refine ⟨_, _, (by first | assumption | exact cb), ?_⟩ | refine ⟨_, _, _, RCall.sh (by first | assumption | exact cb), ?_⟩ | refine ⟨_, _, _, (by first | assumption | exact cb), ?_⟩ | ((fail_if_success (refine ⟨_, ?_, ?_⟩)); refine ⟨AV.any, ?_⟩) | refine ret_frz rfl ?_ (by simp [push_cast]) (by simp [push_cast, hg, hd, hw, h8, hk2, hw10, hqm, hz]) (by simp [push_cast, hg, hd, hw, h8, hk2, hw10, hqm, hz]) | refine end_frz rfl ?_ (by simp [push_cast]) (by simp [push_cast, hg, hd, hw, h8, hk2, hw10, hqm, hz]) (by simp [push_cast, hg, hd, hw, h8, hk2, hw10, hqm, hz]) | refine ret_now (by simp [push_cast]) ?_ (by simp [push_cast]) | refine end_now (by simp [push_cast]) ?_ (by simp [push_cast])) <;> (try simp only [push_cast, seval, reduceCtorEq, *, hg, hd, hw, h8, hk2, hw10, hqm, hz]))
        | ((first | refine cv_ptE rfl rfl rfl rfl rfl ?_ | refine outQ_frz rfl ?_ (by simp [push_cast]) (by simp [push_cast, hg, hd, hw, h8, hk2, hw10, hqm, hz]) | refine dfr_end (by simp) rfl ?_ (by simp [push_cast]) (by simp [push_cast, hg, hd, hw, h8, hk2, hw10, hqm, hz])) <;> (try simp only [push_cast, seval, reduceCtorEq, hg, hd, hw, h8, hk2, hw10, hqm, hz]))
        | exact cv_slE rfl rfl ⟨rfl, rfl⟩ (by simp) (by simp [take_map_len])
        | refine outQ_pan ?_ (by simp [push_cast])
        | refine outQ_unit ?_
        | refine outQ_unitN ?_
        | refine And.intro ?_ ?_
        | omega)
      all_goals (try simp only [push_cast, seval, reduceCtorEq, hg, hd, hw, h8, hk2, hw10, hqm, hz])
      all_goals first
        | (simp only [*, hg, hd, hw, h8, hk2, hw10, hqm, hz]; done)
        | (simp [*, hg, hd, hw, h8, hk2, hw10, hqm, hz]; done)
        | (simp_all [hg, hd, hw, h8, hk2, hw10, hqm, hz]; done)
        | (simp_all [hg, hd, hw, h8, hk2, hw10, hqm, hz]; omega)
        | skip
      all_goals
        refine w_loopS (keIn m xs k Rb) (fun j => j ≤ Rb.q.length) (fun j => Rb.q.length - j) 0 (Nat.zero_le _) ?_ (keep_round m xs k Rb hk' hs hnn l2 h300)
        simp only [keIn, hs2, hs3, hz, waV, waR, List.append_nil, List.cons_append, List.nil_append]
        (apply Wk.renA (fun _ => false); (case he => (try simp only [push_cast, Nat.reduceBEq, Nat.reduceLeDiff, Nat.reduceAdd]); (repeat' (first | exact trivial | (refine cv_ptE rfl rfl rfl rfl rfl ?_; simp only [push_cast, Nat.reduceBEq, Nat.reduceLeDiff, Nat.reduceAdd]) | exact cv_slE rfl rfl ⟨rfl, rfl⟩ (by simp) (by simp [take_map_len]) | exact cv_slG rfl rfl ⟨rfl, rfl⟩ (by simp) (by first | rfl | (simp; done)) (by first | rfl | (simp; done) | (simp; omega)) (by simp [push_cast]) | exact cv_ros_self (by simp [push_cast]) | exact bel_ros_cl (by simp [push_cast]) | exact nilBk | exact cellsCv_eq (by simp [take_map_len]) (by simp [push_cast]) | refine And.intro ?_ ?_ | rfl | omega | (simp; done) | (simp; omega)))); (case hr => (try simp only [push_cast, Nat.reduceBEq, Nat.reduceLeDiff, Nat.reduceAdd]); (repeat' (first | exact trivial | (refine cv_ptE rfl rfl rfl rfl rfl ?_; simp only [push_cast, Nat.reduceBEq, Nat.reduceLeDiff, Nat.reduceAdd]) | exact cv_slE rfl rfl ⟨rfl, rfl⟩ (by simp) (by simp [take_map_len]) | exact cv_slG rfl rfl ⟨rfl, rfl⟩ (by simp) (by first | rfl | (simp; done)) (by first | rfl | (simp; done) | (simp; omega)) (by simp [push_cast]) | exact cv_ros_self (by simp [push_cast]) | exact bel_ros_cl (by simp [push_cast]) | exact nilBk | exact cellsCv_eq (by simp [take_map_len]) (by simp [push_cast]) | refine And.intro ?_ ?_ | rfl | omega | (simp; done) | (simp; omega)))); (case hinj => simp [rhoA_0, rhoA_1, rhoA_2]); all_goals exact 0)
    · have hrow := hrow l
      clear v1
      simp only [waV, waR, List.append_nil, List.cons_append, List.nil_append]
      rw [hrow, hbl]
      (try simp only [push_cast, seval, reduceCtorEq, hg, hd, hw, h8, hk2, hw10, hqm])
      repeat' (first
        | ((first | ((first | refine brX_split ?_ ?_ | refine gX_split ?_ ?_ | refine hX_split ?_ ?_ | refine outK_split ?_ ?_) <;> (intro xc; (try simp only [Bool.not_eq_true', Bool.not_eq_false'] at xc); have xp := xc; (try simp only [decide_eq_true_eq, decide_eq_false_iff_not, Int.not_lt, Int.not_le, ge_iff_le, gt_iff_lt, Bool.and_eq_true, Bool.or_eq_false_iff] at xp); have xq := xp; (first | simp only [← Int.not_le] at xq | simp only [← Int.not_lt] at xq | clear xq))) | refine ⟨.ret _, _, PCall.s (by first | assumption | exact cb) (by simp [push_cast, hg, hd, hw, h8, hk2, hw10, hqm]), ?_⟩ | refine ⟨.ret _, _, RCall.s (RCall.sh (by first | assumption | exact cb)) (by simp [push_cast, hg, hd, hw, h8, hk2, hw10, hqm]), ?_⟩ | refine ⟨_, _, SCall.lift (by first | assumption | exact cb) (outR_cl (by simp [push_cast]) (by simp [push_cast])) (by simp [push_cast, hg, hd, hw, h8, hk2, hw10, hqm]), ?_⟩ | refine ⟨_, (by first | assumption | exact cb), ?_⟩ | refine ⟨0, [], _, PCall.r (by first | assumption | exact cb), ?_⟩ | refine ⟨_, _, (by first | assumption | exact cb), ?_⟩ | refine ⟨_, _, _, RCall.sh (by first | assumption | exact cb), ?_⟩ | refine ⟨_, _, _, (by first | assumption | exact cb), ?_⟩ | ((fail_if_success (refine ⟨_, ?_, ?_⟩)); refine ⟨AV.any, ?_⟩) | refine ret_frz rfl ?_ (by simp [push_cast]) (by simp [push_cast, hg, hd, hw, h8, hk2, hw10, hqm]) (by simp [push_cast, hg, hd, hw, h8, hk2, hw10, hqm]) | refine end_frz rfl ?_ (by simp [push_cast]) (by simp [push_cast, hg, hd, hw, h8, hk2, hw10, hqm]) (by simp [push_cast, hg, hd, hw, h8, hk2, hw10, hqm]) | refine ret_now (by simp [push_cast]) ?_ (by simp [push_cast]) | refine end_now (by simp [push_cast]) ?_ (by simp [push_cast])) <;> (try simp only [push_cast, seval, reduceCtorEq, *, hg, hd, hw, h8, hk2, hw10, hqm]))
        | ((first | refine cv_ptE rfl rfl rfl rfl rfl ?_ | refine outQ_frz rfl ?_ (by simp [push_cast]) (by simp [push_cast, hg, hd, hw, h8, hk2, hw10, hqm]) | refine dfr_end (by simp) rfl ?_ (by simp [push_cast]) (by simp [push_cast, hg, hd, hw, h8, hk2, hw10, hqm])) <;> (try simp only [push_cast, seval, reduceCtorEq, hg, hd, hw, h8, hk2, hw10, hqm]))
        | exact cv_slE rfl rfl ⟨rfl, rfl⟩ (by simp) (by simp [take_map_len])
        | refine outQ_pan ?_ (by simp [push_cast])
        | refine outQ_unit ?_
        | refine outQ_unitN ?_
        | refine And.intro ?_ ?_
        | omega)
      all_goals (try simp only [push_cast, seval, reduceCtorEq, hg, hd, hw, h8, hk2, hw10, hqm])
      all_goals first
        | (simp only [*, hg, hd, hw, h8, hk2, hw10, hqm]; done)
        | (simp [*, hg, hd, hw, h8, hk2, hw10, hqm]; done)
        | (simp_all [hg, hd, hw, h8, hk2, hw10, hqm]; done)
        | (simp_all [hg, hd, hw, h8, hk2, hw10, hqm]; omega)
        | skip
      all_goals
        refine w_loopS (keIn m xs k Rb) (fun j => j ≤ Rb.q.length) (fun j => Rb.q.length - j) 0 (Nat.zero_le _) ?_ (keep_round m xs k Rb hk' hs hnn l2 h300)
        simp only [keIn, hs2, hs3, waV, waR, List.append_nil, List.cons_append, List.nil_append]
        (apply Wk.renA (fun _ => false); (case he => (try simp only [push_cast, Nat.reduceBEq, Nat.reduceLeDiff, Nat.reduceAdd]); (repeat' (first | exact trivial | (refine cv_ptE rfl rfl rfl rfl rfl ?_; simp only [push_cast, Nat.reduceBEq, Nat.reduceLeDiff, Nat.reduceAdd]) | exact cv_slE rfl rfl ⟨rfl, rfl⟩ (by simp) (by simp [take_map_len]) | exact cv_slG rfl rfl ⟨rfl, rfl⟩ (by simp) (by first | rfl | (simp; done)) (by first | rfl | (simp; done) | (simp; omega)) (by simp [push_cast]) | exact cv_ros_self (by simp [push_cast]) | exact bel_ros_cl (by simp [push_cast]) | exact nilBk | exact cellsCv_eq (by simp [take_map_len]) (by simp [push_cast]) | refine And.intro ?_ ?_ | rfl | omega | (simp; done) | (simp; omega)))); (case hr => (try simp only [push_cast, Nat.reduceBEq, Nat.reduceLeDiff, Nat.reduceAdd]); (repeat' (first | exact trivial | (refine cv_ptE rfl rfl rfl rfl rfl ?_; simp only [push_cast, Nat.reduceBEq, Nat.reduceLeDiff, Nat.reduceAdd]) | exact cv_slE rfl rfl ⟨rfl, rfl⟩ (by simp) (by simp [take_map_len]) | exact cv_slG rfl rfl ⟨rfl, rfl⟩ (by simp) (by first | rfl | (simp; done)) (by first | rfl | (simp; done) | (simp; omega)) (by simp [push_cast]) | exact cv_ros_self (by simp [push_cast]) | exact bel_ros_cl (by simp [push_cast]) | exact nilBk | exact cellsCv_eq (by simp [take_map_len]) (by simp [push_cast]) | refine And.intro ?_ ?_ | rfl | omega | (simp; done) | (simp; omega)))); (case hinj => simp [rhoA_0, rhoA_1, rhoA_2]); all_goals exact 0)
end Go.Proofs.Ytffiicopifmmfaa
