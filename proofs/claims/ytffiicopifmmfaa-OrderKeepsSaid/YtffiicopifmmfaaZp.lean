/- Facts of the program over abstract values. No condition. -/
import Derived.Test.YtffiicopifmmfaaZo
import Derived.Test.YtffiicopifmmfaaYb
set_option linter.unusedSimpArgs false
set_option maxRecDepth 8000
namespace Go.Proofs.Ytffiicopifmmfaa
set_option linter.unusedSimpArgs false
set_option linter.unusedVariables false
set_option linter.unnecessarySimpa false
set_option linter.unusedSectionVars false
open Go.Proofs.Try
open Go.Proofs.Ytffiicopifmmfaa.Ai
set_option maxHeartbeats 4000000

def cU (j : Int) (os : List O) : Nat → Int
  | 0 => 0
  | k + 1 => cU j os k + (bif decide ((os.getD k default).s = j) then 1 else 0)
theorem cU_step {j : Int} {os : List O} {k : Nat} {x : O} (hx : os[k]? = some x) : cU j os (k + 1) = cU j os k + (bif decide (x.s = j) then 1 else 0) := by
  simp [cU, List.getD, hx]
theorem cU_le {j : Int} {os : List O} : ∀ k : Nat, 0 ≤ cU j os k ∧ cU j os k ≤ k
  | 0 => by simp [cU]
  | k + 1 => by
    have := cU_le (j := j) (os := os) k
    simp only [cU]
    cases decide ((os.getD k default).s = j) <;> simp <;> omega
abbrev totC (os : List O) (k : Nat) : List AV := [.int .i64 os.length, .int .i64 (cU 1 os k), .int .i64 (cU 2 os k), .int .i64 (cU 3 os k), .int .i64 (cU 4 os k), .int .i64 (cU 5 os k)]
abbrev ztot : List AV := [.int .i64 0, .int .i64 0, .int .i64 0, .int .i64 0, .int .i64 0, .int .i64 0]
theorem chk_state {i p d s a f : Int} (h : chkE i p d s a f = 0) : s = 1 ∨ s = 2 ∨ s = 3 ∨ s = 4 ∨ s = 5 := by
  unfold chkE orderB stateB at h
  by_cases h1 : 1 ≤ s <;> by_cases h2 : s ≤ 5
  · omega
  all_goals simp [h1, h2] at h
theorem book0_state {b : Bk} {m : Tm} (h : bookE b m = 0) {k : Nat} {x : O} (hx : b.os[k]? = some x) : x.s = 1 ∨ x.s = 2 ∨ x.s = 3 ∨ x.s = 4 ∨ x.s = 5 := by
  obtain ⟨_, h2, _, _⟩ := book0 h
  simp only [ordsB, Bool.and_eq_true] at h2
  have := okU_at hx h2.2
  simp only [okO, Bool.and_eq_true, decide_eq_true_eq] at this
  exact chk_state this.1.2
def totS (os : List O) (k : Nat) : Env × Store := ([(4, .pt 0 6 0 0), (8, .pt 1 6 0 0), (28, ordsV os), (29, .int .i64 os.length), (30, .int .i64 k)], ⟨2, [(0, ⟨6, [ztot]⟩), (1, ⟨6, [totC os k]⟩)]⟩)
theorem tot_rounds (os : List O) (hl : os.length ≤ 64) (hst : ∀ (k : Nat) (x : O), os[k]? = some x → x.s = 1 ∨ x.s = 2 ∨ x.s = 3 ∨ x.s = 4 ∨ x.s = 5) (k : Nat) (hk : k ≤ os.length) :
    rwp prog 0 q27_53 (thn (rndQ (totS os) (fun k => k ≤ os.length) (fun k => os.length - k) 0 (os.length - k)) (blk 0 (thn (rwp prog 0 q27_58 (retQ 0 [.c 4 true 6, .t 5] (.tup [.agg (totC os os.length), .int .i64 0]))) (retQ 0 [.c 4 true 6, .t 5] (.tup [.agg (totC os os.length), .int .i64 0]))))) (totS os k).1 (totS os k).2 := by
  simp only [totS]
  rcases Nat.lt_or_ge k os.length with hk' | hk'
  · obtain ⟨⟨i, p, d, s, a, f⟩, hx⟩ := lt_get hk'
    have hg := getD_map (enc := oc) hx
    have hd := dlt hk'
    have hw := inc64 (k := k) (by omega)
    have b1 := cU_le (j := 1) (os := os) k
    have b2 := cU_le (j := 2) (os := os) k
    have b3 := cU_le (j := 3) (os := os) k
    have b4 := cU_le (j := 4) (os := os) k
    have b5 := cU_le (j := 5) (os := os) k
    have w1 : IntKind.i64.wrap (cU 1 os k + 1) = cU 1 os k + 1 := IntWalk.i64_in _ (by omega)
    have w2 : IntKind.i64.wrap (cU 2 os k + 1) = cU 2 os k + 1 := IntWalk.i64_in _ (by omega)
    have w3 : IntKind.i64.wrap (cU 3 os k + 1) = cU 3 os k + 1 := IntWalk.i64_in _ (by omega)
    have w4 : IntKind.i64.wrap (cU 4 os k + 1) = cU 4 os k + 1 := IntWalk.i64_in _ (by omega)
    have w5 : IntKind.i64.wrap (cU 5 os k + 1) = cU 5 os k + 1 := IntWalk.i64_in _ (by omega)
    have hs := hst k _ hx
    simp only at hs
    rcases hs with rfl | rfl | rfl | rfl | rfl
    all_goals
    (try simp only [push_cast, seval, reduceCtorEq, hg, hd, hw, w1, w2, w3, w4, w5])
    repeat' (first
      | ((first | ((first | refine brX_split ?_ ?_ | refine gX_split ?_ ?_ | refine hX_split ?_ ?_ | refine outK_split ?_ ?_) <;> (intro xc; (try simp only [Bool.not_eq_true', Bool.not_eq_false'] at xc); have xp := xc; (try simp only [decide_eq_true_eq, decide_eq_false_iff_not, Int.not_lt, Int.not_le, ge_iff_le, gt_iff_lt, Bool.and_eq_true, Bool.or_eq_false_iff] at xp); have xq := xp; (first | simp only [← Int.not_le] at xq | simp only [← Int.not_lt] at xq | clear xq))) | ((fail_if_success (refine ⟨_, ?_, ?_⟩)); refine ⟨AV.any, ?_⟩) | refine ret_frz rfl ?_ (by simp [push_cast]) (by simp [push_cast, hg, hd, hw, w1, w2, w3, w4, w5]) (by simp [push_cast, hg, hd, hw, w1, w2, w3, w4, w5]) | refine end_frz rfl ?_ (by simp [push_cast]) (by simp [push_cast, hg, hd, hw, w1, w2, w3, w4, w5]) (by simp [push_cast, hg, hd, hw, w1, w2, w3, w4, w5]) | refine ret_now (by simp [push_cast]) ?_ (by simp [push_cast]) | refine end_now (by simp [push_cast]) ?_ (by simp [push_cast])) <;> (try simp only [push_cast, seval, reduceCtorEq, *, hg, hd, hw, w1, w2, w3, w4, w5]))
      | ((first | refine cv_ptE rfl rfl rfl rfl rfl ?_ | refine outQ_frz rfl ?_ (by simp [push_cast]) (by simp [push_cast, hg, hd, hw, w1, w2, w3, w4, w5]) | refine dfr_end (by simp) rfl ?_ (by simp [push_cast]) (by simp [push_cast, hg, hd, hw, w1, w2, w3, w4, w5])) <;> (try simp only [push_cast, seval, reduceCtorEq, hg, hd, hw, w1, w2, w3, w4, w5]))
      | exact cv_slE rfl rfl ⟨rfl, rfl⟩ (by simp) (by simp [take_map_len])
      | refine outQ_pan ?_ (by simp [push_cast])
      | refine outQ_unit ?_
      | refine outQ_unitN ?_
      | refine And.intro ?_ ?_
      | omega)
    all_goals (try simp only [push_cast, seval, reduceCtorEq, hg, hd, hw, w1, w2, w3, w4, w5])
    all_goals first
      | (simp only [*, hg, hd, hw, w1, w2, w3, w4, w5]; done)
      | (simp [*, hg, hd, hw, w1, w2, w3, w4, w5]; done)
      | (simp_all [hg, hd, hw, w1, w2, w3, w4, w5]; done)
      | (simp_all [hg, hd, hw, w1, w2, w3, w4, w5]; omega)
      | skip
    all_goals (refine rnd_to _ _ _ (k + 1) hk' (by first | omega | (dsimp only; omega)) ?_; simp only [totS, totC, cU_step hx])
    all_goals (apply Wk.renA (fun _ => false); (case he => (try simp only [push_cast, Nat.reduceBEq, Nat.reduceLeDiff, Nat.reduceAdd]); (repeat' (first | exact trivial | (refine cv_ptE rfl rfl rfl rfl rfl ?_; simp only [push_cast, Nat.reduceBEq, Nat.reduceLeDiff, Nat.reduceAdd]) | exact cv_slE rfl rfl ⟨rfl, rfl⟩ (by simp) (by simp [take_map_len]) | exact cv_slG rfl rfl ⟨rfl, rfl⟩ (by simp) (by first | rfl | (simp; done)) (by first | rfl | (simp; done) | (simp; omega)) (by simp [push_cast]) | exact cv_ros_self (by simp [push_cast]) | exact bel_ros_cl (by simp [push_cast]) | exact cellsCv_eq (by simp [take_map_len]) (by simp [push_cast]) | refine And.intro ?_ ?_ | rfl | omega | (simp; done) | (simp; omega)))); (case hr => (try simp only [push_cast, Nat.reduceBEq, Nat.reduceLeDiff, Nat.reduceAdd]); (repeat' (first | exact trivial | (refine cv_ptE rfl rfl rfl rfl rfl ?_; simp only [push_cast, Nat.reduceBEq, Nat.reduceLeDiff, Nat.reduceAdd]) | exact cv_slE rfl rfl ⟨rfl, rfl⟩ (by simp) (by simp [take_map_len]) | exact cv_slG rfl rfl ⟨rfl, rfl⟩ (by simp) (by first | rfl | (simp; done)) (by first | rfl | (simp; done) | (simp; omega)) (by simp [push_cast]) | exact cv_ros_self (by simp [push_cast]) | exact bel_ros_cl (by simp [push_cast]) | exact cellsCv_eq (by simp [take_map_len]) (by simp [push_cast]) | refine And.intro ?_ ?_ | rfl | omega | (simp; done) | (simp; omega)))); (case hinj => simp [rhoA_0, rhoA_1, rhoA_2]); all_goals exact 0)
  · have hd := dge hk'
    obtain rfl : k = os.length := by omega
    (try simp only [push_cast, seval, reduceCtorEq, hd])
    repeat' (first
      | ((first | ((first | refine brX_split ?_ ?_ | refine gX_split ?_ ?_ | refine hX_split ?_ ?_ | refine outK_split ?_ ?_) <;> (intro xc; (try simp only [Bool.not_eq_true', Bool.not_eq_false'] at xc); have xp := xc; (try simp only [decide_eq_true_eq, decide_eq_false_iff_not, Int.not_lt, Int.not_le, ge_iff_le, gt_iff_lt, Bool.and_eq_true, Bool.or_eq_false_iff] at xp); have xq := xp; (first | simp only [← Int.not_le] at xq | simp only [← Int.not_lt] at xq | clear xq))) | ((fail_if_success (refine ⟨_, ?_, ?_⟩)); refine ⟨AV.any, ?_⟩) | refine ret_frz rfl ?_ (by simp [push_cast]) (by simp [push_cast, hd]) (by simp [push_cast, hd]) | refine end_frz rfl ?_ (by simp [push_cast]) (by simp [push_cast, hd]) (by simp [push_cast, hd]) | refine ret_now (by simp [push_cast]) ?_ (by simp [push_cast]) | refine end_now (by simp [push_cast]) ?_ (by simp [push_cast])) <;> (try simp only [push_cast, seval, reduceCtorEq, *, hd]))
      | ((first | refine cv_ptE rfl rfl rfl rfl rfl ?_ | refine outQ_frz rfl ?_ (by simp [push_cast]) (by simp [push_cast, hd]) | refine dfr_end (by simp) rfl ?_ (by simp [push_cast]) (by simp [push_cast, hd])) <;> (try simp only [push_cast, seval, reduceCtorEq, hd]))
      | exact cv_slE rfl rfl ⟨rfl, rfl⟩ (by simp) (by simp [take_map_len])
      | refine outQ_pan ?_ (by simp [push_cast])
      | refine outQ_unit ?_
      | refine outQ_unitN ?_
      | refine And.intro ?_ ?_
      | omega)
    all_goals (try simp only [push_cast, seval, reduceCtorEq, hd])
    all_goals first
      | (simp only [*, hd]; done)
      | (simp [*, hd]; done)
      | (simp_all [hd]; done)
      | (simp_all [hd]; omega)
      | skip
theorem totals_v {oV qV : AV} {b : Bk} {m : Tm} (hO : isSl 6 oV (b.os.map oc)) (hQ : isSl 1 qV (b.q.map intc)) (h : Fit b m) :
    PCall prog 27 [.agg (tmc m), .agg (bkv oV qV b)] (.tup [.agg (bif decide (bookE b m = 0) then totC b.os b.os.length else ztot), .int .i64 (bookE b m)]) := by
  have o1 : oV.one = True := eq_true (isSl_one hO)
  have o2 : qV.one = True := eq_true (isSl_one hQ)
  have c1 := isSl_cl hO (cl_os _)
  have c2 := isSl_cl hQ (cl_is _)
  by_cases h0 : bookE b m = 0
  case neg =>
    have hk := ledgerOf_bad hO hQ h h0
    clear hO hQ
    simp only [h0, decide_false, cond_false]
    obtain ⟨c, hb, hl⟩ := l27
    refine pcall_of mixed e27 hb rfl hl r27 (by rw [n27]; simp) ?_
    clear hb hl c
    (try simp only [push_cast, seval, reduceCtorEq, c1, c2, o1, o2, h0])
    repeat' (first
      | ((first | ((first | refine brX_split ?_ ?_ | refine gX_split ?_ ?_ | refine hX_split ?_ ?_ | refine outK_split ?_ ?_) <;> (intro xc; (try simp only [Bool.not_eq_true', Bool.not_eq_false'] at xc); have xp := xc; (try simp only [decide_eq_true_eq, decide_eq_false_iff_not, Int.not_lt, Int.not_le, ge_iff_le, gt_iff_lt, Bool.and_eq_true, Bool.or_eq_false_iff] at xp); have xq := xp; (first | simp only [← Int.not_le] at xq | simp only [← Int.not_lt] at xq | clear xq))) | refine ⟨.ret _, _, PCall.s (by first | assumption) (by simp [push_cast, c1, c2, o1, o2, h0]), ?_⟩ | refine ⟨.ret _, _, RCall.s (RCall.sh (by first | assumption)) (by simp [push_cast, c1, c2, o1, o2, h0]), ?_⟩ | refine ⟨_, _, SCall.lift (by first | assumption) (outR_cl (by simp [push_cast]) (by simp [push_cast])) (by simp [push_cast, c1, c2, o1, o2, h0]), ?_⟩ | refine ⟨_, (by first | assumption), ?_⟩ | refine ⟨0, [], _, PCall.r (by first | assumption), ?_⟩ | refine ⟨_, _, (by first | assumption), ?_⟩ | refine ⟨_, _, _, RCall.sh (by first | assumption), ?_⟩ | refine ⟨_, _, _, (by first | assumption), ?_⟩ | ((fail_if_success (refine ⟨_, ?_, ?_⟩)); refine ⟨AV.any, ?_⟩) | refine ret_frz rfl ?_ (by simp [push_cast]) (by simp [push_cast, c1, c2, o1, o2, h0]) (by simp [push_cast, c1, c2, o1, o2, h0]) | refine end_frz rfl ?_ (by simp [push_cast]) (by simp [push_cast, c1, c2, o1, o2, h0]) (by simp [push_cast, c1, c2, o1, o2, h0]) | refine ret_now (by simp [push_cast]) ?_ (by simp [push_cast]) | refine end_now (by simp [push_cast]) ?_ (by simp [push_cast])) <;> (try simp only [push_cast, seval, reduceCtorEq, *, c1, c2, o1, o2, h0]))
      | ((first | refine cv_ptE rfl rfl rfl rfl rfl ?_ | refine outQ_frz rfl ?_ (by simp [push_cast]) (by simp [push_cast, c1, c2, o1, o2, h0]) | refine dfr_end (by simp) rfl ?_ (by simp [push_cast]) (by simp [push_cast, c1, c2, o1, o2, h0])) <;> (try simp only [push_cast, seval, reduceCtorEq, c1, c2, o1, o2, h0]))
      | exact cv_slE rfl rfl ⟨rfl, rfl⟩ (by simp) (by simp [take_map_len])
      | refine outQ_pan ?_ (by simp [push_cast])
      | refine outQ_unit ?_
      | refine outQ_unitN ?_
      | refine And.intro ?_ ?_
      | omega)
    all_goals (try simp only [push_cast, seval, reduceCtorEq, c1, c2, o1, o2, h0])
    all_goals first
      | (simp only [*, c1, c2, o1, o2, h0]; done)
      | (simp [*, c1, c2, o1, o2, h0]; done)
      | (simp_all [c1, c2, o1, o2, h0]; done)
      | (simp_all [c1, c2, o1, o2, h0]; omega)
      | skip
  have hl := ledgerOf_ok hO hQ h h0
  have hlen := book0_len h0
  have hst := fun k x hx => book0_state h0 (k := k) (x := x) hx
  simp only [h0, decide_true, cond_true]
  obtain ⟨os, q, cw, cm⟩ := b
  simp only at hst hlen
  have loop : ∀ (oV' : AV) (rows : Ai.Rows), (oV' = .nils ∧ os = [] ∧ rows = []) ∨ (oV' = .sl 0 6 0 0 (some 0) ∧ os = [] ∧ rows = [(0, ⟨6, []⟩)]) ∨ (oV' = .sl 0 6 0 os.length none ∧ rows = [(0, ⟨6, os.map oc⟩)]) → True := fun _ _ _ => trivial
  clear loop
  by_cases hne : os = []
  · subst hne
    have hq0 : q = [] := by
      obtain ⟨_, _, g, _⟩ := book0 h0
      simp [queB, nwU] at g; exact g.2
    subst hq0
    simp only [List.map_nil, isSl] at hO hQ
    rcases hO with rfl | rfl <;> rcases hQ with rfl | rfl
    all_goals
    simp only [clV, clR] at hl
    obtain ⟨c, hb, hl⟩ := l27
    refine pcall_of mixed e27 hb rfl hl r27 (by rw [n27]; simp) ?_
    clear hb hl c
    (try simp only [push_cast, seval, reduceCtorEq, h0])
    repeat' (first
      | ((first | ((first | refine brX_split ?_ ?_ | refine gX_split ?_ ?_ | refine hX_split ?_ ?_ | refine outK_split ?_ ?_) <;> (intro xc; (try simp only [Bool.not_eq_true', Bool.not_eq_false'] at xc); have xp := xc; (try simp only [decide_eq_true_eq, decide_eq_false_iff_not, Int.not_lt, Int.not_le, ge_iff_le, gt_iff_lt, Bool.and_eq_true, Bool.or_eq_false_iff] at xp); have xq := xp; (first | simp only [← Int.not_le] at xq | simp only [← Int.not_lt] at xq | clear xq))) | refine ⟨.ret _, _, PCall.s (by first | assumption) (by simp [push_cast, h0]), ?_⟩ | refine ⟨.ret _, _, RCall.s (RCall.sh (by first | assumption)) (by simp [push_cast, h0]), ?_⟩ | refine ⟨_, _, SCall.lift (by first | assumption) (outR_cl (by simp [push_cast]) (by simp [push_cast])) (by simp [push_cast, h0]), ?_⟩ | refine ⟨_, (by first | assumption), ?_⟩ | refine ⟨0, [], _, PCall.r (by first | assumption), ?_⟩ | refine ⟨_, _, (by first | assumption), ?_⟩ | refine ⟨_, _, _, RCall.sh (by first | assumption), ?_⟩ | refine ⟨_, _, _, (by first | assumption), ?_⟩ | ((fail_if_success (refine ⟨_, ?_, ?_⟩)); refine ⟨AV.any, ?_⟩) | refine ret_frz rfl ?_ (by simp [push_cast]) (by simp [push_cast, h0]) (by simp [push_cast, h0]) | refine end_frz rfl ?_ (by simp [push_cast]) (by simp [push_cast, h0]) (by simp [push_cast, h0]) | refine ret_now (by simp [push_cast]) ?_ (by simp [push_cast]) | refine end_now (by simp [push_cast]) ?_ (by simp [push_cast])) <;> (try simp only [push_cast, seval, reduceCtorEq, *, h0]))
      | ((first | refine cv_ptE rfl rfl rfl rfl rfl ?_ | refine outQ_frz rfl ?_ (by simp [push_cast]) (by simp [push_cast, h0]) | refine dfr_end (by simp) rfl ?_ (by simp [push_cast]) (by simp [push_cast, h0])) <;> (try simp only [push_cast, seval, reduceCtorEq, h0]))
      | exact cv_slE rfl rfl ⟨rfl, rfl⟩ (by simp) (by simp [take_map_len])
      | refine outQ_pan ?_ (by simp [push_cast])
      | refine outQ_unit ?_
      | refine outQ_unitN ?_
      | refine And.intro ?_ ?_
      | omega)
    all_goals (try simp only [push_cast, seval, reduceCtorEq, h0])
    all_goals first
      | (simp only [*, h0]; done)
      | (simp [*, h0]; done)
      | (simp_all [h0]; done)
      | (simp_all [h0]; omega)
      | skip
    all_goals
    refine w_loopS (totS _) (fun k => k ≤ _) (fun k => _ - k) 0 (Nat.zero_le _) ?_ (tot_rounds _ (by omega) hst)
    simp only [totS, totC, cU]
    (apply Wk.renA (fun i => i == 6 || i == 7); (case he => (try simp only [push_cast, Nat.reduceBEq, Nat.reduceLeDiff, Nat.reduceAdd]); (repeat' (first | exact trivial | (refine cv_ptE rfl rfl rfl rfl rfl ?_; simp only [push_cast, Nat.reduceBEq, Nat.reduceLeDiff, Nat.reduceAdd]) | exact cv_slE rfl rfl ⟨rfl, rfl⟩ (by simp) (by simp [take_map_len]) | exact cv_slG rfl rfl ⟨rfl, rfl⟩ (by simp) (by first | rfl | (simp; done)) (by first | rfl | (simp; done) | (simp; omega)) (by simp [push_cast]) | exact cv_ros_self (by simp [push_cast]) | exact bel_ros_cl (by simp [push_cast]) | exact cellsCv_eq (by simp [take_map_len]) (by simp [push_cast]) | refine And.intro ?_ ?_ | rfl | omega | (simp; done) | (simp; omega)))); (case hr => (try simp only [push_cast, Nat.reduceBEq, Nat.reduceLeDiff, Nat.reduceAdd]); (repeat' (first | exact trivial | (refine cv_ptE rfl rfl rfl rfl rfl ?_; simp only [push_cast, Nat.reduceBEq, Nat.reduceLeDiff, Nat.reduceAdd]) | exact cv_slE rfl rfl ⟨rfl, rfl⟩ (by simp) (by simp [take_map_len]) | exact cv_slG rfl rfl ⟨rfl, rfl⟩ (by simp) (by first | rfl | (simp; done)) (by first | rfl | (simp; done) | (simp; omega)) (by simp [push_cast]) | exact cv_ros_self (by simp [push_cast]) | exact bel_ros_cl (by simp [push_cast]) | exact cellsCv_eq (by simp [take_map_len]) (by simp [push_cast]) | refine And.intro ?_ ?_ | rfl | omega | (simp; done) | (simp; omega)))); (case hinj => simp [rhoA_0, rhoA_1, rhoA_2]); all_goals exact 0)
  · have hoV := isSl_ne hO (by simpa using hne)
    subst hoV
    have hqV : qV = .nils ∨ qV = .roe 1 ∨ ∃ i j, q = i :: j ∧ qV = intsV (i :: j) := by
      rcases q with _ | ⟨i, j⟩
      · simp only [List.map_nil, isSl] at hQ; rcases hQ with rfl | rfl <;> simp
      · simp only [List.map_cons, isSl] at hQ; subst hQ; exact .inr (.inr ⟨i, j, rfl, rfl⟩)
    rcases hqV with rfl | rfl | ⟨i, j, rfl, rfl⟩
    all_goals
    simp only [clV, clR] at hl
    obtain ⟨c, hb, hl⟩ := l27
    refine pcall_of mixed e27 hb rfl hl r27 (by rw [n27]; simp) ?_
    clear hb hl c
    (try simp only [push_cast, seval, reduceCtorEq, h0])
    repeat' (first
      | ((first | ((first | refine brX_split ?_ ?_ | refine gX_split ?_ ?_ | refine hX_split ?_ ?_ | refine outK_split ?_ ?_) <;> (intro xc; (try simp only [Bool.not_eq_true', Bool.not_eq_false'] at xc); have xp := xc; (try simp only [decide_eq_true_eq, decide_eq_false_iff_not, Int.not_lt, Int.not_le, ge_iff_le, gt_iff_lt, Bool.and_eq_true, Bool.or_eq_false_iff] at xp); have xq := xp; (first | simp only [← Int.not_le] at xq | simp only [← Int.not_lt] at xq | clear xq))) | refine ⟨.ret _, _, PCall.s (by first | assumption) (by simp [push_cast, h0]), ?_⟩ | refine ⟨.ret _, _, RCall.s (RCall.sh (by first | assumption)) (by simp [push_cast, h0]), ?_⟩ | refine ⟨_, _, SCall.lift (by first | assumption) (outR_cl (by simp [push_cast]) (by simp [push_cast])) (by simp [push_cast, h0]), ?_⟩ | refine ⟨_, (by first | assumption), ?_⟩ | refine ⟨0, [], _, PCall.r (by first | assumption), ?_⟩ | refine ⟨_, _, (by first | assumption), ?_⟩ | refine ⟨_, _, _, RCall.sh (by first | assumption), ?_⟩ | refine ⟨_, _, _, (by first | assumption), ?_⟩ | ((fail_if_success (refine ⟨_, ?_, ?_⟩)); refine ⟨AV.any, ?_⟩) | refine ret_frz rfl ?_ (by simp [push_cast]) (by simp [push_cast, h0]) (by simp [push_cast, h0]) | refine end_frz rfl ?_ (by simp [push_cast]) (by simp [push_cast, h0]) (by simp [push_cast, h0]) | refine ret_now (by simp [push_cast]) ?_ (by simp [push_cast]) | refine end_now (by simp [push_cast]) ?_ (by simp [push_cast])) <;> (try simp only [push_cast, seval, reduceCtorEq, *, h0]))
      | ((first | refine cv_ptE rfl rfl rfl rfl rfl ?_ | refine outQ_frz rfl ?_ (by simp [push_cast]) (by simp [push_cast, h0]) | refine dfr_end (by simp) rfl ?_ (by simp [push_cast]) (by simp [push_cast, h0])) <;> (try simp only [push_cast, seval, reduceCtorEq, h0]))
      | exact cv_slE rfl rfl ⟨rfl, rfl⟩ (by simp) (by simp [take_map_len])
      | refine outQ_pan ?_ (by simp [push_cast])
      | refine outQ_unit ?_
      | refine outQ_unitN ?_
      | refine And.intro ?_ ?_
      | omega)
    all_goals (try simp only [push_cast, seval, reduceCtorEq, h0])
    all_goals first
      | (simp only [*, h0]; done)
      | (simp [*, h0]; done)
      | (simp_all [h0]; done)
      | (simp_all [h0]; omega)
      | skip
    all_goals
    refine w_loopS (totS _) (fun k => k ≤ _) (fun k => _ - k) 0 (Nat.zero_le _) ?_ (tot_rounds _ (by omega) hst)
    simp only [totS, totC, cU]
    (apply Wk.renA (fun i => i == 6 || i == 7); (case he => (try simp only [push_cast, Nat.reduceBEq, Nat.reduceLeDiff, Nat.reduceAdd]); (repeat' (first | exact trivial | (refine cv_ptE rfl rfl rfl rfl rfl ?_; simp only [push_cast, Nat.reduceBEq, Nat.reduceLeDiff, Nat.reduceAdd]) | exact cv_slE rfl rfl ⟨rfl, rfl⟩ (by simp) (by simp [take_map_len]) | exact cv_slG rfl rfl ⟨rfl, rfl⟩ (by simp) (by first | rfl | (simp; done)) (by first | rfl | (simp; done) | (simp; omega)) (by simp [push_cast]) | exact cv_ros_self (by simp [push_cast]) | exact bel_ros_cl (by simp [push_cast]) | exact cellsCv_eq (by simp [take_map_len]) (by simp [push_cast]) | refine And.intro ?_ ?_ | rfl | omega | (simp; done) | (simp; omega)))); (case hr => (try simp only [push_cast, Nat.reduceBEq, Nat.reduceLeDiff, Nat.reduceAdd]); (repeat' (first | exact trivial | (refine cv_ptE rfl rfl rfl rfl rfl ?_; simp only [push_cast, Nat.reduceBEq, Nat.reduceLeDiff, Nat.reduceAdd]) | exact cv_slE rfl rfl ⟨rfl, rfl⟩ (by simp) (by simp [take_map_len]) | exact cv_slG rfl rfl ⟨rfl, rfl⟩ (by simp) (by first | rfl | (simp; done)) (by first | rfl | (simp; done) | (simp; omega)) (by simp [push_cast]) | exact cv_ros_self (by simp [push_cast]) | exact bel_ros_cl (by simp [push_cast]) | exact cellsCv_eq (by simp [take_map_len]) (by simp [push_cast]) | refine And.intro ?_ ?_ | rfl | omega | (simp; done) | (simp; omega)))); (case hinj => simp [rhoA_0, rhoA_1, rhoA_2]); all_goals exact 0)
theorem totals_r {b : Bk} {m : Tm} (h : Fit b m) : PCall prog 27 [.agg (tmc m), .agg (bkc b)] (.tup [.agg (bif decide (bookE b m = 0) then totC b.os b.os.length else ztot), .int .i64 (bookE b m)]) :=
  PCall.emp2 fun _ _ h1 h2 => totals_v h1 h2 h
end Go.Proofs.Ytffiicopifmmfaa
