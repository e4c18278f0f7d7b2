/- Facts of the program over abstract values. No condition. -/
import Derived.Test.YtffiicopifmmfaaZa
import Derived.Test.YtffiicopifmmfaaAiZb
set_option linter.unusedSimpArgs false
set_option maxRecDepth 8000
namespace Go.Proofs.Ytffiicopifmmfaa
set_option linter.unusedSimpArgs false
set_option linter.unusedVariables false
set_option linter.unnecessarySimpa false
set_option linter.unusedSectionVars false
open Go.Proofs.Try
open Go.Proofs.Ytffiicopifmmfaa.Ai
set_option maxHeartbeats 4000000

abbrev intc (n : Int) : List AV := [.int .i64 n]
abbrev intsV (xs : List Int) : AV := .ros 1 (xs.map intc)
theorem take_all {α : Type} {p : α → Bool} {xs : List α} {k : Nat} {x : α} (hx : xs[k]? = some x) : (xs.take (k + 1)).all p = ((xs.take k).all p && p x) := by
  simp [List.take_add_one, hx]
theorem all_false {α : Type} {p : α → Bool} {xs : List α} {k : Nat} {x : α} (hx : xs[k]? = some x) (h : p x = false) : xs.all p = false := by
  rw [Bool.eq_false_iff]; intro h2
  have := List.all_eq_true.1 h2 x (List.mem_of_getElem? hx)
  rw [h] at this; cases this
theorem lt_get {α : Type} {xs : List α} {k : Nat} (h : k < xs.length) : ∃ x, xs[k]? = some x := ⟨_, List.getElem?_eq_getElem h⟩
theorem dlt {k n : Nat} (h : k < n) : decide ((k : Int) < (n : Int)) = true := by simp [h]
theorem dge {k n : Nat} (h : n ≤ k) : decide ((k : Int) < (n : Int)) = false := by simp; omega
theorem inc64 {k : Nat} (h : k < 2 ^ 62) : IntKind.i64.wrap ((k : Int) + 1) = (k : Int) + 1 := IntWalk.i64_in _ (by omega)

theorem within_p (lo hi : Int) (xs : List Int) (hl : xs.length < 2 ^ 62) : PCall prog 50 [.int .i64 lo, .int .i64 hi, intsV xs] (.bool (xs.all (inB lo hi))) := by
  obtain ⟨c, hb, hl⟩ := l50
  refine pcall_of mixed e50 hb rfl hl r50 (by rw [n50]; simp) ?_
  clear hb hl c
  (try simp only [push_cast, seval, reduceCtorEq])
  repeat' (first
    | ((first | ((first | refine brX_split ?_ ?_ | refine gX_split ?_ ?_ | refine hX_split ?_ ?_ | refine outK_split ?_ ?_) <;> (intro xc; (try simp only [Bool.not_eq_true', Bool.not_eq_false'] at xc); have xp := xc; (try simp only [decide_eq_true_eq, decide_eq_false_iff_not, Int.not_lt, Int.not_le, ge_iff_le, gt_iff_lt, Bool.and_eq_true, Bool.or_eq_false_iff] at xp); have xq := xp; (first | simp only [← Int.not_le] at xq | simp only [← Int.not_lt] at xq | clear xq))) | ((fail_if_success (refine ⟨_, ?_, ?_⟩)); refine ⟨AV.any, ?_⟩) | refine ret_frz rfl ?_ (by simp [push_cast]) (by simp [push_cast]) (by simp [push_cast]) | refine end_frz rfl ?_ (by simp [push_cast]) (by simp [push_cast]) (by simp [push_cast]) | refine ret_now (by simp [push_cast]) ?_ (by simp [push_cast]) | refine end_now (by simp [push_cast]) ?_ (by simp [push_cast])) <;> (try simp only [push_cast, seval, reduceCtorEq, *]))
    | ((first | refine cv_ptE rfl rfl rfl rfl rfl ?_ | refine outQ_frz rfl ?_ (by simp [push_cast]) (by simp [push_cast]) | refine dfr_end (by simp) rfl ?_ (by simp [push_cast]) (by simp [push_cast])) <;> (try simp only [push_cast, seval, reduceCtorEq]))
    | exact cv_slE rfl rfl ⟨rfl, rfl⟩ (by simp) (by simp [take_map_len])
    | refine outQ_pan ?_ (by simp [push_cast])
    | refine outQ_unit ?_
    | refine outQ_unitN ?_
    | refine And.intro ?_ ?_
    | omega)
  all_goals (try simp only [push_cast, seval, reduceCtorEq])
  all_goals first
    | (simp only [*]; done)
    | (simp [*]; done)
    | (simp_all []; done)
    | (simp_all []; omega)
    | skip
  refine w_loopS (fun k : Nat => ([(0, .int .i64 lo), (1, .int .i64 hi), (9, intsV xs), (10, .int .i64 xs.length), (11, .int .i64 k)], ⟨0, []⟩)) (fun k => k ≤ xs.length ∧ (xs.take k).all (inB lo hi) = true) (fun k => xs.length - k) 0 ⟨Nat.zero_le _, rfl⟩ ?_ ?_
  · refine Wk.ren (fun _ => false) (fun i => i) (by simp) (by simp) ?_ ?_ (by simp) <;> (try simp only [push_cast, Nat.reduceBEq, Nat.reduceLeDiff, Nat.reduceAdd]) <;> (repeat' (first | exact trivial | (refine cv_ptE rfl rfl rfl rfl rfl ?_; simp only [push_cast, Nat.reduceBEq, Nat.reduceLeDiff, Nat.reduceAdd]) | exact cv_slE rfl rfl ⟨rfl, rfl⟩ (by simp) (by simp [take_map_len]) | exact cv_slG rfl rfl ⟨rfl, rfl⟩ (by simp) (by first | rfl | (simp; done)) (by first | rfl | (simp; done) | (simp; omega)) (by simp [push_cast]) | exact cv_ros_self (by simp [push_cast]) | exact bel_ros_cl (by simp [push_cast]) | exact cellsCv_eq (by simp [take_map_len]) (by simp [push_cast]) | refine And.intro ?_ ?_ | rfl | omega | (simp; done) | (simp; omega)))
  rintro k ⟨hk, hall⟩
  rcases Nat.lt_or_ge k xs.length with hk' | hk'
  · obtain ⟨x, hx⟩ := lt_get hk'
    have hg := getD_map (enc := intc) hx
    have hd := dlt hk'
    have hw := inc64 (k := k) (by omega)
    (try simp only [push_cast, seval, reduceCtorEq, hg, hd, hw])
    repeat' (first
      | ((first | ((first | refine brX_split ?_ ?_ | refine gX_split ?_ ?_ | refine hX_split ?_ ?_ | refine outK_split ?_ ?_) <;> (intro xc; (try simp only [Bool.not_eq_true', Bool.not_eq_false'] at xc); have xp := xc; (try simp only [decide_eq_true_eq, decide_eq_false_iff_not, Int.not_lt, Int.not_le, ge_iff_le, gt_iff_lt, Bool.and_eq_true, Bool.or_eq_false_iff] at xp); have xq := xp; (first | simp only [← Int.not_le] at xq | simp only [← Int.not_lt] at xq | clear xq))) | ((fail_if_success (refine ⟨_, ?_, ?_⟩)); refine ⟨AV.any, ?_⟩) | refine ret_frz rfl ?_ (by simp [push_cast]) (by simp [push_cast, hg, hd, hw]) (by simp [push_cast, hg, hd, hw]) | refine end_frz rfl ?_ (by simp [push_cast]) (by simp [push_cast, hg, hd, hw]) (by simp [push_cast, hg, hd, hw]) | refine ret_now (by simp [push_cast]) ?_ (by simp [push_cast]) | refine end_now (by simp [push_cast]) ?_ (by simp [push_cast])) <;> (try simp only [push_cast, seval, reduceCtorEq, *, hg, hd, hw]))
      | ((first | refine cv_ptE rfl rfl rfl rfl rfl ?_ | refine outQ_frz rfl ?_ (by simp [push_cast]) (by simp [push_cast, hg, hd, hw]) | refine dfr_end (by simp) rfl ?_ (by simp [push_cast]) (by simp [push_cast, hg, hd, hw])) <;> (try simp only [push_cast, seval, reduceCtorEq, hg, hd, hw]))
      | exact cv_slE rfl rfl ⟨rfl, rfl⟩ (by simp) (by simp [take_map_len])
      | refine outQ_pan ?_ (by simp [push_cast])
      | refine outQ_unit ?_
      | refine outQ_unitN ?_
      | refine And.intro ?_ ?_
      | omega)
    all_goals (try simp only [push_cast, seval, reduceCtorEq, hg, hd, hw])
    all_goals first
      | (simp only [*, hg, hd, hw]; done)
      | (simp [*, hg, hd, hw]; done)
      | (simp_all [hg, hd, hw]; done)
      | (simp_all [hg, hd, hw]; omega)
      | (rw [all_false hx (by simp [inB, *])]; done)
      | skip
    all_goals (refine rnd_to _ _ _ (k + 1) ⟨hk', by rw [take_all hx]; simp [inB, *]⟩ (by first | omega | (dsimp only; omega)) ?_; refine Wk.ren (fun _ => false) (fun i => i) (by simp) (by simp) ?_ ?_ (by simp) <;> (try simp only [push_cast, Nat.reduceBEq, Nat.reduceLeDiff, Nat.reduceAdd]) <;> (repeat' (first | exact trivial | (refine cv_ptE rfl rfl rfl rfl rfl ?_; simp only [push_cast, Nat.reduceBEq, Nat.reduceLeDiff, Nat.reduceAdd]) | exact cv_slE rfl rfl ⟨rfl, rfl⟩ (by simp) (by simp [take_map_len]) | exact cv_slG rfl rfl ⟨rfl, rfl⟩ (by simp) (by first | rfl | (simp; done)) (by first | rfl | (simp; done) | (simp; omega)) (by simp [push_cast]) | exact cv_ros_self (by simp [push_cast]) | exact bel_ros_cl (by simp [push_cast]) | exact cellsCv_eq (by simp [take_map_len]) (by simp [push_cast]) | refine And.intro ?_ ?_ | rfl | omega | (simp; done) | (simp; omega))))
  · have hd := dge hk'
    have hall' : xs.all (inB lo hi) = true := by rwa [List.take_of_length_le hk'] at hall
    (try simp only [push_cast, seval, reduceCtorEq, hd])
    repeat' (first
      | ((first | ((first | refine brX_split ?_ ?_ | refine gX_split ?_ ?_ | refine hX_split ?_ ?_ | refine outK_split ?_ ?_) <;> (intro xc; (try simp only [Bool.not_eq_true', Bool.not_eq_false'] at xc); have xp := xc; (try simp only [decide_eq_true_eq, decide_eq_false_iff_not, Int.not_lt, Int.not_le, ge_iff_le, gt_iff_lt, Bool.and_eq_true, Bool.or_eq_false_iff] at xp); have xq := xp; (first | simp only [← Int.not_le] at xq | simp only [← Int.not_lt] at xq | clear xq))) | ((fail_if_success (refine ⟨_, ?_, ?_⟩)); refine ⟨AV.any, ?_⟩) | refine ret_frz rfl ?_ (by simp [push_cast]) (by simp [push_cast, hd]) (by simp [push_cast, hd]) | refine end_frz rfl ?_ (by simp [push_cast]) (by simp [push_cast, hd]) (by simp [push_cast, hd]) | refine ret_now (by simp [push_cast]) ?_ (by simp [push_cast]) | refine end_now (by simp [push_cast]) ?_ (by simp [push_cast])) <;> (try simp only [push_cast, seval, reduceCtorEq, *, hd]))
      | ((first | refine cv_ptE rfl rfl rfl rfl rfl ?_ | refine outQ_frz rfl ?_ (by simp [push_cast]) (by simp [push_cast, hd]) | refine dfr_end (by simp) rfl ?_ (by simp [push_cast]) (by simp [push_cast, hd])) <;> (try simp only [push_cast, seval, reduceCtorEq, hd]))
      | exact cv_slE rfl rfl ⟨rfl, rfl⟩ (by simp) (by simp [take_map_len])
      | refine outQ_pan ?_ (by simp [push_cast])
      | refine outQ_unit ?_
      | refine outQ_unitN ?_
      | refine And.intro ?_ ?_
      | omega)
    all_goals (try simp only [push_cast, seval, reduceCtorEq, hd, hall'])
    all_goals first
      | (simp only [*, hd, hall']; done)
      | (simp [*, hd, hall']; done)
      | (simp_all [hd, hall']; done)
      | (simp_all [hd, hall']; omega)
      | skip

theorem within1 (lo hi n : Int) : PCall prog 50 [.int .i64 lo, .int .i64 hi, .ros 1 [[.int .i64 n]]] (.bool (inB lo hi n)) := by
  have := within_p lo hi [n] (by simp)
  simpa [intsV] using this
theorem within2 (lo hi n m : Int) : PCall prog 50 [.int .i64 lo, .int .i64 hi, .ros 1 [[.int .i64 n], [.int .i64 m]]] (.bool (inB lo hi n && inB lo hi m)) := by
  have := within_p lo hi [n, m] (by simp)
  simpa [intsV] using this
def chkE (i p d s a f : Int) : Int := bif orderB i p d s a f then 0 else 8
theorem check_p (i p d s a f : Int) : PCall prog 31 [.agg [.int .i64 i, .int .i64 p, .int .i64 d, .int .u8 s, .int .u64 a, .int .u64 f]] (.int .i64 (chkE i p d s a f)) := by
  obtain ⟨c, hb, hl⟩ := l31
  refine pcall_of mixed e31 hb rfl hl r31 (by rw [n31]; simp) ?_
  clear hb hl c
  (try simp only [push_cast, seval, reduceCtorEq])
  repeat' (first
    | ((first | ((first | refine brX_split ?_ ?_ | refine gX_split ?_ ?_ | refine hX_split ?_ ?_ | refine outK_split ?_ ?_) <;> (intro xc; (try simp only [Bool.not_eq_true', Bool.not_eq_false'] at xc); have xp := xc; (try simp only [decide_eq_true_eq, decide_eq_false_iff_not, Int.not_lt, Int.not_le, ge_iff_le, gt_iff_lt, Bool.and_eq_true, Bool.or_eq_false_iff] at xp); have xq := xp; (first | simp only [← Int.not_le] at xq | simp only [← Int.not_lt] at xq | clear xq))) | refine ⟨.ret _, _, PCall.s (by first | exact within1 _ _ _ | exact within2 _ _ _ _ | exact isState_p _ | exact done_p _ _ _ _ _ _) (by simp [push_cast]), ?_⟩ | refine ⟨.ret _, _, RCall.s (RCall.sh (by first | exact within1 _ _ _ | exact within2 _ _ _ _ | exact isState_p _ | exact done_p _ _ _ _ _ _)) (by simp [push_cast]), ?_⟩ | refine ⟨_, _, SCall.lift (by first | exact within1 _ _ _ | exact within2 _ _ _ _ | exact isState_p _ | exact done_p _ _ _ _ _ _) (outR_cl (by simp [push_cast]) (by simp [push_cast])) (by simp [push_cast]), ?_⟩ | refine ⟨_, (by first | exact within1 _ _ _ | exact within2 _ _ _ _ | exact isState_p _ | exact done_p _ _ _ _ _ _), ?_⟩ | refine ⟨0, [], _, PCall.r (by first | exact within1 _ _ _ | exact within2 _ _ _ _ | exact isState_p _ | exact done_p _ _ _ _ _ _), ?_⟩ | refine ⟨_, _, (by first | exact within1 _ _ _ | exact within2 _ _ _ _ | exact isState_p _ | exact done_p _ _ _ _ _ _), ?_⟩ | refine ⟨_, _, _, RCall.sh (by first | exact within1 _ _ _ | exact within2 _ _ _ _ | exact isState_p _ | exact done_p _ _ _ _ _ _), ?_⟩ | refine ⟨_, _, _, (by first | exact within1 _ _ _ | exact within2 _ _ _ _ | exact isState_p _ | exact done_p _ _ _ _ _ _), ?_⟩ | ((fail_if_success (refine ⟨_, ?_, ?_⟩)); refine ⟨AV.any, ?_⟩) | refine ret_frz rfl ?_ (by simp [push_cast]) (by simp [push_cast]) (by simp [push_cast]) | refine end_frz rfl ?_ (by simp [push_cast]) (by simp [push_cast]) (by simp [push_cast]) | refine ret_now (by simp [push_cast]) ?_ (by simp [push_cast]) | refine end_now (by simp [push_cast]) ?_ (by simp [push_cast])) <;> (try simp only [push_cast, seval, reduceCtorEq, *]))
    | ((first | refine cv_ptE rfl rfl rfl rfl rfl ?_ | refine outQ_frz rfl ?_ (by simp [push_cast]) (by simp [push_cast]) | refine dfr_end (by simp) rfl ?_ (by simp [push_cast]) (by simp [push_cast])) <;> (try simp only [push_cast, seval, reduceCtorEq]))
    | exact cv_slE rfl rfl ⟨rfl, rfl⟩ (by simp) (by simp [take_map_len])
    | refine outQ_pan ?_ (by simp [push_cast])
    | refine outQ_unit ?_
    | refine outQ_unitN ?_
    | refine And.intro ?_ ?_
    | omega)
  all_goals (try simp only [push_cast, seval, reduceCtorEq, chkE, orderB])
  all_goals first
    | (simp only [*, chkE, orderB]; done)
    | (simp [*, chkE, orderB]; done)
    | (simp_all [chkE, orderB]; done)
    | (simp_all [chkE, orderB]; omega)
    | skip

structure O where
  (i p d s a f : Int)
  deriving Inhabited
abbrev oc (o : O) : List AV := [.int .i64 o.i, .int .i64 o.p, .int .i64 o.d, .int .u8 o.s, .int .u64 o.a, .int .u64 o.f]
abbrev ordsV (os : List O) : AV := .ros 6 (os.map oc)
def isQ (o : O) : Bool := decide (o.s = 1)
theorem isQ_p (o : O) : PCall prog 86 [.agg (oc o)] (.bool (isQ o)) := by
  obtain ⟨c, hb, hl⟩ := l86
  refine pcall_of mixed e86 hb rfl hl r86 (by rw [n86]; simp) ?_
  clear hb hl c
  (try simp only [push_cast, seval, reduceCtorEq])
  repeat' (first
    | ((first | ((first | refine brX_split ?_ ?_ | refine gX_split ?_ ?_ | refine hX_split ?_ ?_ | refine outK_split ?_ ?_) <;> (intro xc; (try simp only [Bool.not_eq_true', Bool.not_eq_false'] at xc); have xp := xc; (try simp only [decide_eq_true_eq, decide_eq_false_iff_not, Int.not_lt, Int.not_le, ge_iff_le, gt_iff_lt, Bool.and_eq_true, Bool.or_eq_false_iff] at xp); have xq := xp; (first | simp only [← Int.not_le] at xq | simp only [← Int.not_lt] at xq | clear xq))) | ((fail_if_success (refine ⟨_, ?_, ?_⟩)); refine ⟨AV.any, ?_⟩) | refine ret_frz rfl ?_ (by simp [push_cast]) (by simp [push_cast]) (by simp [push_cast]) | refine end_frz rfl ?_ (by simp [push_cast]) (by simp [push_cast]) (by simp [push_cast]) | refine ret_now (by simp [push_cast]) ?_ (by simp [push_cast]) | refine end_now (by simp [push_cast]) ?_ (by simp [push_cast])) <;> (try simp only [push_cast, seval, reduceCtorEq, *]))
    | ((first | refine cv_ptE rfl rfl rfl rfl rfl ?_ | refine outQ_frz rfl ?_ (by simp [push_cast]) (by simp [push_cast]) | refine dfr_end (by simp) rfl ?_ (by simp [push_cast]) (by simp [push_cast])) <;> (try simp only [push_cast, seval, reduceCtorEq]))
    | exact cv_slE rfl rfl ⟨rfl, rfl⟩ (by simp) (by simp [take_map_len])
    | refine outQ_pan ?_ (by simp [push_cast])
    | refine outQ_unit ?_
    | refine outQ_unitN ?_
    | refine And.intro ?_ ?_
    | omega)
  all_goals (try simp only [push_cast, seval, reduceCtorEq, isQ])
  all_goals first
    | (simp only [*, isQ]; done)
    | (simp [*, isQ]; done)
    | (simp_all [isQ]; done)
    | (simp_all [isQ]; omega)
    | skip
def nwU (p : O → Bool) (os : List O) : Nat → List Int
  | 0 => []
  | k + 1 => nwU p os k ++ (bif p (os.getD k default) then [(k : Int) + 1] else [])
theorem nwU_step {p : O → Bool} {os : List O} {k : Nat} {x : O} (hx : os[k]? = some x) : nwU p os (k + 1) = nwU p os k ++ (bif p x then [(k : Int) + 1] else []) := by
  simp [nwU, List.getD, hx]
theorem nwU_len {p : O → Bool} {os : List O} : ∀ k, (nwU p os k).length ≤ k
  | 0 => Nat.le_refl _
  | k + 1 => by
    have := nwU_len (p := p) (os := os) k
    simp only [nwU, List.length_append]
    cases p (os.getD k default) <;> simp <;> omega
theorem numbersWhere_p (os : List O) (hl : os.length < 2 ^ 40) : PCall prog 85 [ordsV os, .fn (.func 86) [] []] (intsV (nwU isQ os os.length)) := by
  obtain ⟨c, hb, hl⟩ := l85
  refine pcall_of mixed e85 hb rfl hl r85 (by rw [n85]; simp) ?_
  clear hb hl c
  (try simp only [push_cast, seval, reduceCtorEq])
  repeat' (first
    | ((first | ((first | refine brX_split ?_ ?_ | refine gX_split ?_ ?_ | refine hX_split ?_ ?_ | refine outK_split ?_ ?_) <;> (intro xc; (try simp only [Bool.not_eq_true', Bool.not_eq_false'] at xc); have xp := xc; (try simp only [decide_eq_true_eq, decide_eq_false_iff_not, Int.not_lt, Int.not_le, ge_iff_le, gt_iff_lt, Bool.and_eq_true, Bool.or_eq_false_iff] at xp); have xq := xp; (first | simp only [← Int.not_le] at xq | simp only [← Int.not_lt] at xq | clear xq))) | ((fail_if_success (refine ⟨_, ?_, ?_⟩)); refine ⟨AV.any, ?_⟩) | refine ret_frz rfl ?_ (by simp [push_cast]) (by simp [push_cast]) (by simp [push_cast]) | refine end_frz rfl ?_ (by simp [push_cast]) (by simp [push_cast]) (by simp [push_cast]) | refine ret_now (by simp [push_cast]) ?_ (by simp [push_cast]) | refine end_now (by simp [push_cast]) ?_ (by simp [push_cast])) <;> (try simp only [push_cast, seval, reduceCtorEq, *]))
    | ((first | refine cv_ptE rfl rfl rfl rfl rfl ?_ | refine outQ_frz rfl ?_ (by simp [push_cast]) (by simp [push_cast]) | refine dfr_end (by simp) rfl ?_ (by simp [push_cast]) (by simp [push_cast])) <;> (try simp only [push_cast, seval, reduceCtorEq]))
    | exact cv_slE rfl rfl ⟨rfl, rfl⟩ (by simp) (by simp [take_map_len])
    | refine outQ_pan ?_ (by simp [push_cast])
    | refine outQ_unit ?_
    | refine outQ_unitN ?_
    | refine And.intro ?_ ?_
    | omega)
  all_goals (try simp only [push_cast, seval, reduceCtorEq])
  all_goals first
    | (simp only [*]; done)
    | (simp [*]; done)
    | (simp_all []; done)
    | (simp_all []; omega)
    | skip
  refine w_loopS (fun k : Nat => ([(1, .fn (.func 86) [] []), (5, accV 0 1 ((nwU isQ os k).map intc)), (8, ordsV os), (9, .int .i64 os.length), (10, .int .i64 k)], ⟨1, accR 0 1 ((nwU isQ os k).map intc)⟩)) (fun k => k ≤ os.length) (fun k => os.length - k) 0 (Nat.zero_le _) ?_ ?_
  · simp only [nwU, List.map_nil, accV, accR]
    refine Wk.ren (fun _ => false) (fun i => i) (by simp) (by simp) ?_ ?_ (by simp) <;> (try simp only [push_cast, Nat.reduceBEq, Nat.reduceLeDiff, Nat.reduceAdd]) <;> (repeat' (first | exact trivial | (refine cv_ptE rfl rfl rfl rfl rfl ?_; simp only [push_cast, Nat.reduceBEq, Nat.reduceLeDiff, Nat.reduceAdd]) | exact cv_slE rfl rfl ⟨rfl, rfl⟩ (by simp) (by simp [take_map_len]) | exact cv_slG rfl rfl ⟨rfl, rfl⟩ (by simp) (by first | rfl | (simp; done)) (by first | rfl | (simp; done) | (simp; omega)) (by simp [push_cast]) | exact cv_ros_self (by simp [push_cast]) | exact bel_ros_cl (by simp [push_cast]) | exact cellsCv_eq (by simp [take_map_len]) (by simp [push_cast]) | refine And.intro ?_ ?_ | rfl | omega | (simp; done) | (simp; omega)))
  intro k hk
  rcases Nat.lt_or_ge k os.length with hk' | hk'
  · obtain ⟨x, hx⟩ := lt_get hk'
    have hg := getD_map (enc := oc) hx
    have hd := dlt hk'
    have hw := inc64 (k := k) (by omega)
    have hs := nwU_step (p := isQ) hx
    have hln := nwU_len (p := isQ) (os := os) k
    generalize nwU isQ os k = acc at *
    rcases acc with _ | ⟨a, l⟩
    · simp only [List.map_nil, accV, accR]
      (try simp only [push_cast, seval, reduceCtorEq, hg, hd, hw])
      repeat' (first
        | ((first | ((first | refine brX_split ?_ ?_ | refine gX_split ?_ ?_ | refine hX_split ?_ ?_ | refine outK_split ?_ ?_) <;> (intro xc; (try simp only [Bool.not_eq_true', Bool.not_eq_false'] at xc); have xp := xc; (try simp only [decide_eq_true_eq, decide_eq_false_iff_not, Int.not_lt, Int.not_le, ge_iff_le, gt_iff_lt, Bool.and_eq_true, Bool.or_eq_false_iff] at xp); have xq := xp; (first | simp only [← Int.not_le] at xq | simp only [← Int.not_lt] at xq | clear xq))) | refine ⟨.ret _, _, PCall.s (by first | exact isQ_p _) (by simp [push_cast, hg, hd, hw]), ?_⟩ | refine ⟨.ret _, _, RCall.s (RCall.sh (by first | exact isQ_p _)) (by simp [push_cast, hg, hd, hw]), ?_⟩ | refine ⟨_, _, SCall.lift (by first | exact isQ_p _) (outR_cl (by simp [push_cast]) (by simp [push_cast])) (by simp [push_cast, hg, hd, hw]), ?_⟩ | refine ⟨_, (by first | exact isQ_p _), ?_⟩ | refine ⟨0, [], _, PCall.r (by first | exact isQ_p _), ?_⟩ | refine ⟨_, _, (by first | exact isQ_p _), ?_⟩ | refine ⟨_, _, _, RCall.sh (by first | exact isQ_p _), ?_⟩ | refine ⟨_, _, _, (by first | exact isQ_p _), ?_⟩ | ((fail_if_success (refine ⟨_, ?_, ?_⟩)); refine ⟨AV.any, ?_⟩) | refine ret_frz rfl ?_ (by simp [push_cast]) (by simp [push_cast, hg, hd, hw]) (by simp [push_cast, hg, hd, hw]) | refine end_frz rfl ?_ (by simp [push_cast]) (by simp [push_cast, hg, hd, hw]) (by simp [push_cast, hg, hd, hw]) | refine ret_now (by simp [push_cast]) ?_ (by simp [push_cast]) | refine end_now (by simp [push_cast]) ?_ (by simp [push_cast])) <;> (try simp only [push_cast, seval, reduceCtorEq, *, hg, hd, hw]))
        | ((first | refine cv_ptE rfl rfl rfl rfl rfl ?_ | refine outQ_frz rfl ?_ (by simp [push_cast]) (by simp [push_cast, hg, hd, hw]) | refine dfr_end (by simp) rfl ?_ (by simp [push_cast]) (by simp [push_cast, hg, hd, hw])) <;> (try simp only [push_cast, seval, reduceCtorEq, hg, hd, hw]))
        | exact cv_slE rfl rfl ⟨rfl, rfl⟩ (by simp) (by simp [take_map_len])
        | refine outQ_pan ?_ (by simp [push_cast])
        | refine outQ_unit ?_
        | refine outQ_unitN ?_
        | refine And.intro ?_ ?_
        | omega)
      all_goals (try simp only [push_cast, seval, reduceCtorEq, hg, hd, hw])
      all_goals first
        | (simp only [*, hg, hd, hw]; done)
        | (simp [*, hg, hd, hw]; done)
        | (simp_all [hg, hd, hw]; done)
        | (simp_all [hg, hd, hw]; omega)
        | skip
      · (refine rnd_to _ _ _ (k + 1) hk' (by first | omega | (dsimp only; omega)) ?_; (try simp [hs, List.map_append, accV, accR, accV_snoc, accR_snoc, List.length_append, *]); refine Wk.ren (fun _ => false) (fun i => (bif i == 0 then 14 else i)) (by simp) (by simp) ?_ ?_ (by simp) <;> (try simp only [push_cast, Nat.reduceBEq, Nat.reduceLeDiff, Nat.reduceAdd]) <;> (repeat' (first | exact trivial | (refine cv_ptE rfl rfl rfl rfl rfl ?_; simp only [push_cast, Nat.reduceBEq, Nat.reduceLeDiff, Nat.reduceAdd]) | exact cv_slE rfl rfl ⟨rfl, rfl⟩ (by simp) (by simp [take_map_len]) | exact cv_slG rfl rfl ⟨rfl, rfl⟩ (by simp) (by first | rfl | (simp; done)) (by first | rfl | (simp; done) | (simp; omega)) (by simp [push_cast]) | exact cv_ros_self (by simp [push_cast]) | exact bel_ros_cl (by simp [push_cast]) | exact cellsCv_eq (by simp [take_map_len]) (by simp [push_cast]) | refine And.intro ?_ ?_ | rfl | omega | (simp; done) | (simp; omega))))
      · (refine rnd_to _ _ _ (k + 1) hk' (by first | omega | (dsimp only; omega)) ?_; (try simp [hs, List.map_append, accV, accR, accV_snoc, accR_snoc, List.length_append, *]); refine Wk.ren (fun _ => false) (fun i => i) (by simp) (by simp) ?_ ?_ (by simp) <;> (try simp only [push_cast, Nat.reduceBEq, Nat.reduceLeDiff, Nat.reduceAdd]) <;> (repeat' (first | exact trivial | (refine cv_ptE rfl rfl rfl rfl rfl ?_; simp only [push_cast, Nat.reduceBEq, Nat.reduceLeDiff, Nat.reduceAdd]) | exact cv_slE rfl rfl ⟨rfl, rfl⟩ (by simp) (by simp [take_map_len]) | exact cv_slG rfl rfl ⟨rfl, rfl⟩ (by simp) (by first | rfl | (simp; done)) (by first | rfl | (simp; done) | (simp; omega)) (by simp [push_cast]) | exact cv_ros_self (by simp [push_cast]) | exact bel_ros_cl (by simp [push_cast]) | exact cellsCv_eq (by simp [take_map_len]) (by simp [push_cast]) | refine And.intro ?_ ?_ | rfl | omega | (simp; done) | (simp; omega))))
    · simp only [List.map_cons, accV, accR]
      (try simp only [push_cast, seval, reduceCtorEq, hg, hd, hw])
      repeat' (first
        | ((first | ((first | refine brX_split ?_ ?_ | refine gX_split ?_ ?_ | refine hX_split ?_ ?_ | refine outK_split ?_ ?_) <;> (intro xc; (try simp only [Bool.not_eq_true', Bool.not_eq_false'] at xc); have xp := xc; (try simp only [decide_eq_true_eq, decide_eq_false_iff_not, Int.not_lt, Int.not_le, ge_iff_le, gt_iff_lt, Bool.and_eq_true, Bool.or_eq_false_iff] at xp); have xq := xp; (first | simp only [← Int.not_le] at xq | simp only [← Int.not_lt] at xq | clear xq))) | refine ⟨.ret _, _, PCall.s (by first | exact isQ_p _) (by simp [push_cast, hg, hd, hw]), ?_⟩ | refine ⟨.ret _, _, RCall.s (RCall.sh (by first | exact isQ_p _)) (by simp [push_cast, hg, hd, hw]), ?_⟩ | refine ⟨_, _, SCall.lift (by first | exact isQ_p _) (outR_cl (by simp [push_cast]) (by simp [push_cast])) (by simp [push_cast, hg, hd, hw]), ?_⟩ | refine ⟨_, (by first | exact isQ_p _), ?_⟩ | refine ⟨0, [], _, PCall.r (by first | exact isQ_p _), ?_⟩ | refine ⟨_, _, (by first | exact isQ_p _), ?_⟩ | refine ⟨_, _, _, RCall.sh (by first | exact isQ_p _), ?_⟩ | refine ⟨_, _, _, (by first | exact isQ_p _), ?_⟩ | ((fail_if_success (refine ⟨_, ?_, ?_⟩)); refine ⟨AV.any, ?_⟩) | refine ret_frz rfl ?_ (by simp [push_cast]) (by simp [push_cast, hg, hd, hw]) (by simp [push_cast, hg, hd, hw]) | refine end_frz rfl ?_ (by simp [push_cast]) (by simp [push_cast, hg, hd, hw]) (by simp [push_cast, hg, hd, hw]) | refine ret_now (by simp [push_cast]) ?_ (by simp [push_cast]) | refine end_now (by simp [push_cast]) ?_ (by simp [push_cast])) <;> (try simp only [push_cast, seval, reduceCtorEq, *, hg, hd, hw]))
        | ((first | refine cv_ptE rfl rfl rfl rfl rfl ?_ | refine outQ_frz rfl ?_ (by simp [push_cast]) (by simp [push_cast, hg, hd, hw]) | refine dfr_end (by simp) rfl ?_ (by simp [push_cast]) (by simp [push_cast, hg, hd, hw])) <;> (try simp only [push_cast, seval, reduceCtorEq, hg, hd, hw]))
        | exact cv_slE rfl rfl ⟨rfl, rfl⟩ (by simp) (by simp [take_map_len])
        | refine outQ_pan ?_ (by simp [push_cast])
        | refine outQ_unit ?_
        | refine outQ_unitN ?_
        | refine And.intro ?_ ?_
        | omega)
      all_goals (try simp only [push_cast, seval, reduceCtorEq, hg, hd, hw])
      all_goals first
        | (simp only [*, hg, hd, hw]; done)
        | (simp [*, hg, hd, hw]; done)
        | (simp_all [hg, hd, hw]; done)
        | (simp_all [hg, hd, hw]; omega)
        | skip
      · (refine rnd_to _ _ _ (k + 1) hk' (by first | omega | (dsimp only; omega)) ?_; (try simp [hs, List.map_append, accV, accR, accV_snoc, accR_snoc, List.length_append, *]); refine Wk.ren (fun _ => false) (fun i => (bif i == 0 then 14 else i)) (by simp) (by simp) ?_ ?_ (by simp) <;> (try simp only [push_cast, Nat.reduceBEq, Nat.reduceLeDiff, Nat.reduceAdd]) <;> (repeat' (first | exact trivial | (refine cv_ptE rfl rfl rfl rfl rfl ?_; simp only [push_cast, Nat.reduceBEq, Nat.reduceLeDiff, Nat.reduceAdd]) | exact cv_slE rfl rfl ⟨rfl, rfl⟩ (by simp) (by simp [take_map_len]) | exact cv_slG rfl rfl ⟨rfl, rfl⟩ (by simp) (by first | rfl | (simp; done)) (by first | rfl | (simp; done) | (simp; omega)) (by simp [push_cast]) | exact cv_ros_self (by simp [push_cast]) | exact bel_ros_cl (by simp [push_cast]) | exact cellsCv_eq (by simp [take_map_len]) (by simp [push_cast]) | refine And.intro ?_ ?_ | rfl | omega | (simp; done) | (simp; omega))))
      · (refine rnd_to _ _ _ (k + 1) hk' (by first | omega | (dsimp only; omega)) ?_; (try simp [hs, List.map_append, accV, accR, accV_snoc, accR_snoc, List.length_append, *]); refine Wk.ren (fun _ => false) (fun i => i) (by simp) (by simp) ?_ ?_ (by simp) <;> (try simp only [push_cast, Nat.reduceBEq, Nat.reduceLeDiff, Nat.reduceAdd]) <;> (repeat' (first | exact trivial | (refine cv_ptE rfl rfl rfl rfl rfl ?_; simp only [push_cast, Nat.reduceBEq, Nat.reduceLeDiff, Nat.reduceAdd]) | exact cv_slE rfl rfl ⟨rfl, rfl⟩ (by simp) (by simp [take_map_len]) | exact cv_slG rfl rfl ⟨rfl, rfl⟩ (by simp) (by first | rfl | (simp; done)) (by first | rfl | (simp; done) | (simp; omega)) (by simp [push_cast]) | exact cv_ros_self (by simp [push_cast]) | exact bel_ros_cl (by simp [push_cast]) | exact cellsCv_eq (by simp [take_map_len]) (by simp [push_cast]) | refine And.intro ?_ ?_ | rfl | omega | (simp; done) | (simp; omega))))
  · have hd := dge hk'
    obtain rfl : k = os.length := by omega
    generalize nwU isQ os os.length = acc at *
    rcases acc with _ | ⟨a, l⟩
    · simp only [List.map_nil, accV, accR]
      (try simp only [push_cast, seval, reduceCtorEq, hd])
      repeat' (first
        | ((first | ((first | refine brX_split ?_ ?_ | refine gX_split ?_ ?_ | refine hX_split ?_ ?_ | refine outK_split ?_ ?_) <;> (intro xc; (try simp only [Bool.not_eq_true', Bool.not_eq_false'] at xc); have xp := xc; (try simp only [decide_eq_true_eq, decide_eq_false_iff_not, Int.not_lt, Int.not_le, ge_iff_le, gt_iff_lt, Bool.and_eq_true, Bool.or_eq_false_iff] at xp); have xq := xp; (first | simp only [← Int.not_le] at xq | simp only [← Int.not_lt] at xq | clear xq))) | ((fail_if_success (refine ⟨_, ?_, ?_⟩)); refine ⟨AV.any, ?_⟩) | refine ret_frz rfl ?_ (by simp [push_cast]) (by simp [push_cast, hd]) (by simp [push_cast, hd]) | refine end_frz rfl ?_ (by simp [push_cast]) (by simp [push_cast, hd]) (by simp [push_cast, hd]) | refine ret_now (by simp [push_cast]) ?_ (by simp [push_cast]) | refine end_now (by simp [push_cast]) ?_ (by simp [push_cast])) <;> (try simp only [push_cast, seval, reduceCtorEq, *, hd]))
        | ((first | refine cv_ptE rfl rfl rfl rfl rfl ?_ | refine outQ_frz rfl ?_ (by simp [push_cast]) (by simp [push_cast, hd]) | refine dfr_end (by simp) rfl ?_ (by simp [push_cast]) (by simp [push_cast, hd])) <;> (try simp only [push_cast, seval, reduceCtorEq, hd]))
        | exact cv_slE rfl rfl ⟨rfl, rfl⟩ (by simp) (by simp [take_map_len])
        | refine outQ_pan ?_ (by simp [push_cast])
        | refine outQ_unit ?_
        | refine outQ_unitN ?_
        | refine And.intro ?_ ?_
        | omega)
      all_goals (try simp only [push_cast, seval, reduceCtorEq, hd])
      all_goals first
        | (simp only [*, hd]; done)
        | (simp [*, hd]; done)
        | (simp_all [hd]; done)
        | (simp_all [hd]; omega)
        | skip
      all_goals trace_state
      all_goals sorry
    · simp only [List.map_cons, accV, accR]
      (try simp only [push_cast, seval, reduceCtorEq, hd])
      repeat' (first
        | ((first | ((first | refine brX_split ?_ ?_ | refine gX_split ?_ ?_ | refine hX_split ?_ ?_ | refine outK_split ?_ ?_) <;> (intro xc; (try simp only [Bool.not_eq_true', Bool.not_eq_false'] at xc); have xp := xc; (try simp only [decide_eq_true_eq, decide_eq_false_iff_not, Int.not_lt, Int.not_le, ge_iff_le, gt_iff_lt, Bool.and_eq_true, Bool.or_eq_false_iff] at xp); have xq := xp; (first | simp only [← Int.not_le] at xq | simp only [← Int.not_lt] at xq | clear xq))) | ((fail_if_success (refine ⟨_, ?_, ?_⟩)); refine ⟨AV.any, ?_⟩) | refine ret_frz rfl ?_ (by simp [push_cast]) (by simp [push_cast, hd]) (by simp [push_cast, hd]) | refine end_frz rfl ?_ (by simp [push_cast]) (by simp [push_cast, hd]) (by simp [push_cast, hd]) | refine ret_now (by simp [push_cast]) ?_ (by simp [push_cast]) | refine end_now (by simp [push_cast]) ?_ (by simp [push_cast])) <;> (try simp only [push_cast, seval, reduceCtorEq, *, hd]))
        | ((first | refine cv_ptE rfl rfl rfl rfl rfl ?_ | refine outQ_frz rfl ?_ (by simp [push_cast]) (by simp [push_cast, hd]) | refine dfr_end (by simp) rfl ?_ (by simp [push_cast]) (by simp [push_cast, hd])) <;> (try simp only [push_cast, seval, reduceCtorEq, hd]))
        | exact cv_slE rfl rfl ⟨rfl, rfl⟩ (by simp) (by simp [take_map_len])
        | refine outQ_pan ?_ (by simp [push_cast])
        | refine outQ_unit ?_
        | refine outQ_unitN ?_
        | refine And.intro ?_ ?_
        | omega)
      all_goals (try simp only [push_cast, seval, reduceCtorEq, hd])
      all_goals first
        | (simp only [*, hd]; done)
        | (simp [*, hd]; done)
        | (simp_all [hd]; done)
        | (simp_all [hd]; omega)
        | skip
      all_goals trace_state
      all_goals sorry
end Go.Proofs.Ytffiicopifmmfaa
