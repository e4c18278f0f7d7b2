/- Facts of the program over abstract values. No condition. -/
import Derived.Test.YtffiicopifmmfaaZw
import Derived.Test.YtffiicopifmmfaaZp
set_option linter.unusedSimpArgs false
set_option linter.unusedVariables false
set_option maxRecDepth 8000
namespace Go.Proofs.Ytffiicopifmmfaa
set_option linter.unusedSimpArgs false
set_option linter.unusedVariables false
set_option linter.unnecessarySimpa false
set_option linter.unusedSectionVars false
open Go.Proofs.Try
open Go.Proofs.Ytffiicopifmmfaa.Ai
set_option maxHeartbeats 4000000

/-! The law's calls: what the program returns -/
structure Cc where
  (dv p d id now : Int)
abbrev clc (x : Cc) : List AV := [.int .u8 x.dv, .int .i64 x.p, .int .i64 x.d, .int .i64 x.id, .int .u64 x.now]
structure Ts where
  (a b c d e f : Int)
abbrev tsc (t : Ts) : List AV := [.int .i64 t.a, .int .i64 t.b, .int .i64 t.c, .int .i64 t.d, .int .i64 t.e, .int .i64 t.f]
structure Rs where
  bk : Bk
  id : Int
  o : O
  t : Ts
  e : Int
abbrev rsc (r : Rs) : List AV := [ordsV r.bk.os, intsV r.bk.q, .int .u64 r.bk.cw, .int .i64 r.bk.cm, .int .i64 r.id, .int .i64 r.o.i, .int .i64 r.o.p, .int .i64 r.o.d, .int .u8 r.o.s, .int .u64 r.o.a, .int .u64 r.o.f, .int .i64 r.t.a, .int .i64 r.t.b, .int .i64 r.t.c, .int .i64 r.t.d, .int .i64 r.t.e, .int .i64 r.t.f, .int .i64 r.e]
def zT : Ts := ⟨0, 0, 0, 0, 0, 0⟩
def gtO (b : Bk) (m : Tm) (id : Int) : O := bif decide (ordE b m id = 0) then ordAt b id else zO
def ttT (b : Bk) (m : Tm) : Ts := bif decide (bookE b m = 0) then ⟨b.os.length, cU 1 b.os b.os.length, cU 2 b.os b.os.length, cU 3 b.os b.os.length, cU 4 b.os b.os.length, cU 5 b.os b.os.length⟩ else zT
theorem get_p {b : Bk} {m : Tm} (h : Fit b m) (id : Int) : PCall prog 45 [.agg (tmc m), .agg (bkc b), .int .i64 id] (.tup [.agg (oc (gtO b m id)), .int .i64 (ordE b m id)]) := by
  have := get_r h id
  unfold gtO
  by_cases h0 : ordE b m id = 0 <;> simp only [h0, decide_true, decide_false, cond_true, cond_false] at this ⊢ <;> exact this
theorem totals_p {b : Bk} {m : Tm} (h : Fit b m) : PCall prog 27 [.agg (tmc m), .agg (bkc b)] (.tup [.agg (tsc (ttT b m)), .int .i64 (bookE b m)]) := by
  have := totals_r h
  unfold ttT
  by_cases h0 : bookE b m = 0 <;> simp only [h0, decide_true, decide_false, cond_true, cond_false] at this ⊢ <;> exact this
def progR (b : Bk) (m : Tm) (x : Cc) : Rs :=
  if x.dv.tmod 7 = 0 then ⟨subR b m x.p x.d x.now, subI b m x.p x.d x.now, zO, zT, subE b m x.p x.d x.now⟩
  else if x.dv.tmod 7 = 1 then ⟨avR b m x.id 5 0, 0, zO, zT, avE b m x.id 5 0⟩
  else if x.dv.tmod 7 = 2 then ⟨asR b m, asI b m, zO, zT, asE b m⟩
  else if x.dv.tmod 7 = 3 then ⟨avR b m x.id 3 0, 0, zO, zT, avE b m x.id 3 0⟩
  else if x.dv.tmod 7 = 4 then ⟨avR b m x.id 4 x.now, 0, zO, zT, avE b m x.id 4 x.now⟩
  else if x.dv.tmod 7 = 5 then ⟨zB, 0, gtO b m x.id, zT, ordE b m x.id⟩
  else ⟨zB, 0, zO, ttT b m, bookE b m⟩
theorem tmod7 {n : Int} (h : 0 ≤ n) : n.tmod 7 = 0 ∨ n.tmod 7 = 1 ∨ n.tmod 7 = 2 ∨ n.tmod 7 = 3 ∨ n.tmod 7 = 4 ∨ n.tmod 7 = 5 ∨ n.tmod 7 = 6 := by
  rw [Int.tmod_eq_emod_of_nonneg h]; omega
theorem program_p {b : Bk} {m : Tm} (h : Fit b m) (x : Cc) (hx : 0 ≤ x.dv) : PCall prog 24 [.agg (tmc m), .agg (bkc b), .agg (clc x)] (.agg (rsc (progR b m x))) := by
  have h1 := submit_p h x.p x.d x.now
  have h2 := cancel_p h x.id
  have h3 := assign_p h
  have h4 := carry_p h x.id
  have h5 := doneO_p h x.id x.now
  have h6 := get_p h x.id
  have h7 := totals_p h
  have h8 := tmod7 hx
  rcases h8 with h8 | h8 | h8 | h8 | h8 | h8 | h8
  · have e : progR b m x = ⟨subR b m x.p x.d x.now, subI b m x.p x.d x.now, zO, zT, subE b m x.p x.d x.now⟩ := by simp [progR, h8]
    rw [e]
    clear e h2 h3 h4 h5 h6 h7
    generalize subR b m x.p x.d x.now = B at *
    obtain ⟨c, hb, hl⟩ := l24
    refine pcall_of mixed e24 hb rfl hl r24 (by rw [n24]; simp) ?_
    clear hb hl c
    (try simp only [push_cast, seval, reduceCtorEq, h8])
    repeat' (first
      | ((first | ((first | refine brX_split ?_ ?_ | refine gX_split ?_ ?_ | refine hX_split ?_ ?_ | refine outK_split ?_ ?_) <;> (intro xc; (try simp only [Bool.not_eq_true', Bool.not_eq_false'] at xc); have xp := xc; (try simp only [decide_eq_true_eq, decide_eq_false_iff_not, Int.not_lt, Int.not_le, ge_iff_le, gt_iff_lt, Bool.and_eq_true, Bool.or_eq_false_iff] at xp); have xq := xp; (first | simp only [← Int.not_le] at xq | simp only [← Int.not_lt] at xq | clear xq))) | refine ⟨.ret _, _, PCall.s (by first | assumption) (by simp [push_cast, h8]), ?_⟩ | refine ⟨.ret _, _, RCall.s (RCall.sh (by first | assumption)) (by simp [push_cast, h8]), ?_⟩ | refine ⟨_, _, SCall.lift (by first | assumption) (outR_cl (by simp [push_cast]) (by simp [push_cast])) (by simp [push_cast, h8]), ?_⟩ | refine ⟨_, (by first | assumption), ?_⟩ | refine ⟨0, [], _, PCall.r (by first | assumption), ?_⟩ | refine ⟨_, _, (by first | assumption), ?_⟩ | refine ⟨_, _, _, RCall.sh (by first | assumption), ?_⟩ | refine ⟨_, _, _, (by first | assumption), ?_⟩ | ((fail_if_success (refine ⟨_, ?_, ?_⟩)); refine ⟨AV.any, ?_⟩) | refine ret_frz rfl ?_ (by simp [push_cast]) (by simp [push_cast, h8]) (by simp [push_cast, h8]) | refine end_frz rfl ?_ (by simp [push_cast]) (by simp [push_cast, h8]) (by simp [push_cast, h8]) | refine ret_now (by simp [push_cast]) ?_ (by simp [push_cast]) | refine end_now (by simp [push_cast]) ?_ (by simp [push_cast])) <;> (try simp only [push_cast, seval, reduceCtorEq, *, h8]))
      | ((first | refine cv_ptE rfl rfl rfl rfl rfl ?_ | refine outQ_frz rfl ?_ (by simp [push_cast]) (by simp [push_cast, h8]) | refine dfr_end (by simp) rfl ?_ (by simp [push_cast]) (by simp [push_cast, h8])) <;> (try simp only [push_cast, seval, reduceCtorEq, h8]))
      | exact cv_slE rfl rfl ⟨rfl, rfl⟩ (by simp) (by simp [take_map_len])
      | refine outQ_pan ?_ (by simp [push_cast])
      | refine outQ_unit ?_
      | refine outQ_unitN ?_
      | refine And.intro ?_ ?_
      | omega)
    all_goals (try simp only [push_cast, seval, reduceCtorEq, h8, zO, zT])
    all_goals first
      | (simp only [*, h8, zO, zT]; done)
      | (simp [*, h8, zO, zT]; done)
      | (simp_all [h8, zO, zT]; done)
      | (simp_all [h8, zO, zT]; omega)
      | skip
  · have e : progR b m x = ⟨avR b m x.id 5 0, 0, zO, zT, avE b m x.id 5 0⟩ := by simp [progR, h8]
    rw [e]
    clear e h1 h3 h4 h5 h6 h7
    generalize avR b m x.id 5 0 = B at *
    obtain ⟨c, hb, hl⟩ := l24
    refine pcall_of mixed e24 hb rfl hl r24 (by rw [n24]; simp) ?_
    clear hb hl c
    (try simp only [push_cast, seval, reduceCtorEq, h8])
    repeat' (first
      | ((first | ((first | refine brX_split ?_ ?_ | refine gX_split ?_ ?_ | refine hX_split ?_ ?_ | refine outK_split ?_ ?_) <;> (intro xc; (try simp only [Bool.not_eq_true', Bool.not_eq_false'] at xc); have xp := xc; (try simp only [decide_eq_true_eq, decide_eq_false_iff_not, Int.not_lt, Int.not_le, ge_iff_le, gt_iff_lt, Bool.and_eq_true, Bool.or_eq_false_iff] at xp); have xq := xp; (first | simp only [← Int.not_le] at xq | simp only [← Int.not_lt] at xq | clear xq))) | refine ⟨.ret _, _, PCall.s (by first | assumption) (by simp [push_cast, h8]), ?_⟩ | refine ⟨.ret _, _, RCall.s (RCall.sh (by first | assumption)) (by simp [push_cast, h8]), ?_⟩ | refine ⟨_, _, SCall.lift (by first | assumption) (outR_cl (by simp [push_cast]) (by simp [push_cast])) (by simp [push_cast, h8]), ?_⟩ | refine ⟨_, (by first | assumption), ?_⟩ | refine ⟨0, [], _, PCall.r (by first | assumption), ?_⟩ | refine ⟨_, _, (by first | assumption), ?_⟩ | refine ⟨_, _, _, RCall.sh (by first | assumption), ?_⟩ | refine ⟨_, _, _, (by first | assumption), ?_⟩ | ((fail_if_success (refine ⟨_, ?_, ?_⟩)); refine ⟨AV.any, ?_⟩) | refine ret_frz rfl ?_ (by simp [push_cast]) (by simp [push_cast, h8]) (by simp [push_cast, h8]) | refine end_frz rfl ?_ (by simp [push_cast]) (by simp [push_cast, h8]) (by simp [push_cast, h8]) | refine ret_now (by simp [push_cast]) ?_ (by simp [push_cast]) | refine end_now (by simp [push_cast]) ?_ (by simp [push_cast])) <;> (try simp only [push_cast, seval, reduceCtorEq, *, h8]))
      | ((first | refine cv_ptE rfl rfl rfl rfl rfl ?_ | refine outQ_frz rfl ?_ (by simp [push_cast]) (by simp [push_cast, h8]) | refine dfr_end (by simp) rfl ?_ (by simp [push_cast]) (by simp [push_cast, h8])) <;> (try simp only [push_cast, seval, reduceCtorEq, h8]))
      | exact cv_slE rfl rfl ⟨rfl, rfl⟩ (by simp) (by simp [take_map_len])
      | refine outQ_pan ?_ (by simp [push_cast])
      | refine outQ_unit ?_
      | refine outQ_unitN ?_
      | refine And.intro ?_ ?_
      | omega)
    all_goals (try simp only [push_cast, seval, reduceCtorEq, h8, zO, zT])
    all_goals first
      | (simp only [*, h8, zO, zT]; done)
      | (simp [*, h8, zO, zT]; done)
      | (simp_all [h8, zO, zT]; done)
      | (simp_all [h8, zO, zT]; omega)
      | skip
  · have e : progR b m x = ⟨asR b m, asI b m, zO, zT, asE b m⟩ := by simp [progR, h8]
    rw [e]
    clear e h1 h2 h4 h5 h6 h7
    generalize asR b m = B at *
    obtain ⟨c, hb, hl⟩ := l24
    refine pcall_of mixed e24 hb rfl hl r24 (by rw [n24]; simp) ?_
    clear hb hl c
    (try simp only [push_cast, seval, reduceCtorEq, h8])
    repeat' (first
      | ((first | ((first | refine brX_split ?_ ?_ | refine gX_split ?_ ?_ | refine hX_split ?_ ?_ | refine outK_split ?_ ?_) <;> (intro xc; (try simp only [Bool.not_eq_true', Bool.not_eq_false'] at xc); have xp := xc; (try simp only [decide_eq_true_eq, decide_eq_false_iff_not, Int.not_lt, Int.not_le, ge_iff_le, gt_iff_lt, Bool.and_eq_true, Bool.or_eq_false_iff] at xp); have xq := xp; (first | simp only [← Int.not_le] at xq | simp only [← Int.not_lt] at xq | clear xq))) | refine ⟨.ret _, _, PCall.s (by first | assumption) (by simp [push_cast, h8]), ?_⟩ | refine ⟨.ret _, _, RCall.s (RCall.sh (by first | assumption)) (by simp [push_cast, h8]), ?_⟩ | refine ⟨_, _, SCall.lift (by first | assumption) (outR_cl (by simp [push_cast]) (by simp [push_cast])) (by simp [push_cast, h8]), ?_⟩ | refine ⟨_, (by first | assumption), ?_⟩ | refine ⟨0, [], _, PCall.r (by first | assumption), ?_⟩ | refine ⟨_, _, (by first | assumption), ?_⟩ | refine ⟨_, _, _, RCall.sh (by first | assumption), ?_⟩ | refine ⟨_, _, _, (by first | assumption), ?_⟩ | ((fail_if_success (refine ⟨_, ?_, ?_⟩)); refine ⟨AV.any, ?_⟩) | refine ret_frz rfl ?_ (by simp [push_cast]) (by simp [push_cast, h8]) (by simp [push_cast, h8]) | refine end_frz rfl ?_ (by simp [push_cast]) (by simp [push_cast, h8]) (by simp [push_cast, h8]) | refine ret_now (by simp [push_cast]) ?_ (by simp [push_cast]) | refine end_now (by simp [push_cast]) ?_ (by simp [push_cast])) <;> (try simp only [push_cast, seval, reduceCtorEq, *, h8]))
      | ((first | refine cv_ptE rfl rfl rfl rfl rfl ?_ | refine outQ_frz rfl ?_ (by simp [push_cast]) (by simp [push_cast, h8]) | refine dfr_end (by simp) rfl ?_ (by simp [push_cast]) (by simp [push_cast, h8])) <;> (try simp only [push_cast, seval, reduceCtorEq, h8]))
      | exact cv_slE rfl rfl ⟨rfl, rfl⟩ (by simp) (by simp [take_map_len])
      | refine outQ_pan ?_ (by simp [push_cast])
      | refine outQ_unit ?_
      | refine outQ_unitN ?_
      | refine And.intro ?_ ?_
      | omega)
    all_goals (try simp only [push_cast, seval, reduceCtorEq, h8, zO, zT])
    all_goals first
      | (simp only [*, h8, zO, zT]; done)
      | (simp [*, h8, zO, zT]; done)
      | (simp_all [h8, zO, zT]; done)
      | (simp_all [h8, zO, zT]; omega)
      | skip
  · have e : progR b m x = ⟨avR b m x.id 3 0, 0, zO, zT, avE b m x.id 3 0⟩ := by simp [progR, h8]
    rw [e]
    clear e h1 h2 h3 h5 h6 h7
    generalize avR b m x.id 3 0 = B at *
    obtain ⟨c, hb, hl⟩ := l24
    refine pcall_of mixed e24 hb rfl hl r24 (by rw [n24]; simp) ?_
    clear hb hl c
    (try simp only [push_cast, seval, reduceCtorEq, h8])
    repeat' (first
      | ((first | ((first | refine brX_split ?_ ?_ | refine gX_split ?_ ?_ | refine hX_split ?_ ?_ | refine outK_split ?_ ?_) <;> (intro xc; (try simp only [Bool.not_eq_true', Bool.not_eq_false'] at xc); have xp := xc; (try simp only [decide_eq_true_eq, decide_eq_false_iff_not, Int.not_lt, Int.not_le, ge_iff_le, gt_iff_lt, Bool.and_eq_true, Bool.or_eq_false_iff] at xp); have xq := xp; (first | simp only [← Int.not_le] at xq | simp only [← Int.not_lt] at xq | clear xq))) | refine ⟨.ret _, _, PCall.s (by first | assumption) (by simp [push_cast, h8]), ?_⟩ | refine ⟨.ret _, _, RCall.s (RCall.sh (by first | assumption)) (by simp [push_cast, h8]), ?_⟩ | refine ⟨_, _, SCall.lift (by first | assumption) (outR_cl (by simp [push_cast]) (by simp [push_cast])) (by simp [push_cast, h8]), ?_⟩ | refine ⟨_, (by first | assumption), ?_⟩ | refine ⟨0, [], _, PCall.r (by first | assumption), ?_⟩ | refine ⟨_, _, (by first | assumption), ?_⟩ | refine ⟨_, _, _, RCall.sh (by first | assumption), ?_⟩ | refine ⟨_, _, _, (by first | assumption), ?_⟩ | ((fail_if_success (refine ⟨_, ?_, ?_⟩)); refine ⟨AV.any, ?_⟩) | refine ret_frz rfl ?_ (by simp [push_cast]) (by simp [push_cast, h8]) (by simp [push_cast, h8]) | refine end_frz rfl ?_ (by simp [push_cast]) (by simp [push_cast, h8]) (by simp [push_cast, h8]) | refine ret_now (by simp [push_cast]) ?_ (by simp [push_cast]) | refine end_now (by simp [push_cast]) ?_ (by simp [push_cast])) <;> (try simp only [push_cast, seval, reduceCtorEq, *, h8]))
      | ((first | refine cv_ptE rfl rfl rfl rfl rfl ?_ | refine outQ_frz rfl ?_ (by simp [push_cast]) (by simp [push_cast, h8]) | refine dfr_end (by simp) rfl ?_ (by simp [push_cast]) (by simp [push_cast, h8])) <;> (try simp only [push_cast, seval, reduceCtorEq, h8]))
      | exact cv_slE rfl rfl ⟨rfl, rfl⟩ (by simp) (by simp [take_map_len])
      | refine outQ_pan ?_ (by simp [push_cast])
      | refine outQ_unit ?_
      | refine outQ_unitN ?_
      | refine And.intro ?_ ?_
      | omega)
    all_goals (try simp only [push_cast, seval, reduceCtorEq, h8, zO, zT])
    all_goals first
      | (simp only [*, h8, zO, zT]; done)
      | (simp [*, h8, zO, zT]; done)
      | (simp_all [h8, zO, zT]; done)
      | (simp_all [h8, zO, zT]; omega)
      | skip
  · have e : progR b m x = ⟨avR b m x.id 4 x.now, 0, zO, zT, avE b m x.id 4 x.now⟩ := by simp [progR, h8]
    rw [e]
    clear e h1 h2 h3 h4 h6 h7
    generalize avR b m x.id 4 x.now = B at *
    obtain ⟨c, hb, hl⟩ := l24
    refine pcall_of mixed e24 hb rfl hl r24 (by rw [n24]; simp) ?_
    clear hb hl c
    (try simp only [push_cast, seval, reduceCtorEq, h8])
    repeat' (first
      | ((first | ((first | refine brX_split ?_ ?_ | refine gX_split ?_ ?_ | refine hX_split ?_ ?_ | refine outK_split ?_ ?_) <;> (intro xc; (try simp only [Bool.not_eq_true', Bool.not_eq_false'] at xc); have xp := xc; (try simp only [decide_eq_true_eq, decide_eq_false_iff_not, Int.not_lt, Int.not_le, ge_iff_le, gt_iff_lt, Bool.and_eq_true, Bool.or_eq_false_iff] at xp); have xq := xp; (first | simp only [← Int.not_le] at xq | simp only [← Int.not_lt] at xq | clear xq))) | refine ⟨.ret _, _, PCall.s (by first | assumption) (by simp [push_cast, h8]), ?_⟩ | refine ⟨.ret _, _, RCall.s (RCall.sh (by first | assumption)) (by simp [push_cast, h8]), ?_⟩ | refine ⟨_, _, SCall.lift (by first | assumption) (outR_cl (by simp [push_cast]) (by simp [push_cast])) (by simp [push_cast, h8]), ?_⟩ | refine ⟨_, (by first | assumption), ?_⟩ | refine ⟨0, [], _, PCall.r (by first | assumption), ?_⟩ | refine ⟨_, _, (by first | assumption), ?_⟩ | refine ⟨_, _, _, RCall.sh (by first | assumption), ?_⟩ | refine ⟨_, _, _, (by first | assumption), ?_⟩ | ((fail_if_success (refine ⟨_, ?_, ?_⟩)); refine ⟨AV.any, ?_⟩) | refine ret_frz rfl ?_ (by simp [push_cast]) (by simp [push_cast, h8]) (by simp [push_cast, h8]) | refine end_frz rfl ?_ (by simp [push_cast]) (by simp [push_cast, h8]) (by simp [push_cast, h8]) | refine ret_now (by simp [push_cast]) ?_ (by simp [push_cast]) | refine end_now (by simp [push_cast]) ?_ (by simp [push_cast])) <;> (try simp only [push_cast, seval, reduceCtorEq, *, h8]))
      | ((first | refine cv_ptE rfl rfl rfl rfl rfl ?_ | refine outQ_frz rfl ?_ (by simp [push_cast]) (by simp [push_cast, h8]) | refine dfr_end (by simp) rfl ?_ (by simp [push_cast]) (by simp [push_cast, h8])) <;> (try simp only [push_cast, seval, reduceCtorEq, h8]))
      | exact cv_slE rfl rfl ⟨rfl, rfl⟩ (by simp) (by simp [take_map_len])
      | refine outQ_pan ?_ (by simp [push_cast])
      | refine outQ_unit ?_
      | refine outQ_unitN ?_
      | refine And.intro ?_ ?_
      | omega)
    all_goals (try simp only [push_cast, seval, reduceCtorEq, h8, zO, zT])
    all_goals first
      | (simp only [*, h8, zO, zT]; done)
      | (simp [*, h8, zO, zT]; done)
      | (simp_all [h8, zO, zT]; done)
      | (simp_all [h8, zO, zT]; omega)
      | skip
  · have e : progR b m x = ⟨zB, 0, gtO b m x.id, zT, ordE b m x.id⟩ := by simp [progR, h8]
    rw [e]
    clear e h1 h2 h3 h4 h5 h7
    generalize gtO b m x.id = B at *
    obtain ⟨c, hb, hl⟩ := l24
    refine pcall_of mixed e24 hb rfl hl r24 (by rw [n24]; simp) ?_
    clear hb hl c
    (try simp only [push_cast, seval, reduceCtorEq, h8])
    repeat' (first
      | ((first | ((first | refine brX_split ?_ ?_ | refine gX_split ?_ ?_ | refine hX_split ?_ ?_ | refine outK_split ?_ ?_) <;> (intro xc; (try simp only [Bool.not_eq_true', Bool.not_eq_false'] at xc); have xp := xc; (try simp only [decide_eq_true_eq, decide_eq_false_iff_not, Int.not_lt, Int.not_le, ge_iff_le, gt_iff_lt, Bool.and_eq_true, Bool.or_eq_false_iff] at xp); have xq := xp; (first | simp only [← Int.not_le] at xq | simp only [← Int.not_lt] at xq | clear xq))) | refine ⟨.ret _, _, PCall.s (by first | assumption) (by simp [push_cast, h8]), ?_⟩ | refine ⟨.ret _, _, RCall.s (RCall.sh (by first | assumption)) (by simp [push_cast, h8]), ?_⟩ | refine ⟨_, _, SCall.lift (by first | assumption) (outR_cl (by simp [push_cast]) (by simp [push_cast])) (by simp [push_cast, h8]), ?_⟩ | refine ⟨_, (by first | assumption), ?_⟩ | refine ⟨0, [], _, PCall.r (by first | assumption), ?_⟩ | refine ⟨_, _, (by first | assumption), ?_⟩ | refine ⟨_, _, _, RCall.sh (by first | assumption), ?_⟩ | refine ⟨_, _, _, (by first | assumption), ?_⟩ | ((fail_if_success (refine ⟨_, ?_, ?_⟩)); refine ⟨AV.any, ?_⟩) | refine ret_frz rfl ?_ (by simp [push_cast]) (by simp [push_cast, h8]) (by simp [push_cast, h8]) | refine end_frz rfl ?_ (by simp [push_cast]) (by simp [push_cast, h8]) (by simp [push_cast, h8]) | refine ret_now (by simp [push_cast]) ?_ (by simp [push_cast]) | refine end_now (by simp [push_cast]) ?_ (by simp [push_cast])) <;> (try simp only [push_cast, seval, reduceCtorEq, *, h8]))
      | ((first | refine cv_ptE rfl rfl rfl rfl rfl ?_ | refine outQ_frz rfl ?_ (by simp [push_cast]) (by simp [push_cast, h8]) | refine dfr_end (by simp) rfl ?_ (by simp [push_cast]) (by simp [push_cast, h8])) <;> (try simp only [push_cast, seval, reduceCtorEq, h8]))
      | exact cv_slE rfl rfl ⟨rfl, rfl⟩ (by simp) (by simp [take_map_len])
      | refine outQ_pan ?_ (by simp [push_cast])
      | refine outQ_unit ?_
      | refine outQ_unitN ?_
      | refine And.intro ?_ ?_
      | omega)
    all_goals (try simp only [push_cast, seval, reduceCtorEq, h8, zB, zO, zT])
    all_goals first
      | (simp only [*, h8, zB, zO, zT]; done)
      | (simp [*, h8, zB, zO, zT]; done)
      | (simp_all [h8, zB, zO, zT]; done)
      | (simp_all [h8, zB, zO, zT]; omega)
      | skip
  · have e : progR b m x = ⟨zB, 0, zO, ttT b m, bookE b m⟩ := by simp [progR, h8]
    rw [e]
    clear e h1 h2 h3 h4 h5 h6
    generalize ttT b m = B at *
    obtain ⟨c, hb, hl⟩ := l24
    refine pcall_of mixed e24 hb rfl hl r24 (by rw [n24]; simp) ?_
    clear hb hl c
    (try simp only [push_cast, seval, reduceCtorEq, h8])
    repeat' (first
      | ((first | ((first | refine brX_split ?_ ?_ | refine gX_split ?_ ?_ | refine hX_split ?_ ?_ | refine outK_split ?_ ?_) <;> (intro xc; (try simp only [Bool.not_eq_true', Bool.not_eq_false'] at xc); have xp := xc; (try simp only [decide_eq_true_eq, decide_eq_false_iff_not, Int.not_lt, Int.not_le, ge_iff_le, gt_iff_lt, Bool.and_eq_true, Bool.or_eq_false_iff] at xp); have xq := xp; (first | simp only [← Int.not_le] at xq | simp only [← Int.not_lt] at xq | clear xq))) | refine ⟨.ret _, _, PCall.s (by first | assumption) (by simp [push_cast, h8]), ?_⟩ | refine ⟨.ret _, _, RCall.s (RCall.sh (by first | assumption)) (by simp [push_cast, h8]), ?_⟩ | refine ⟨_, _, SCall.lift (by first | assumption) (outR_cl (by simp [push_cast]) (by simp [push_cast])) (by simp [push_cast, h8]), ?_⟩ | refine ⟨_, (by first | assumption), ?_⟩ | refine ⟨0, [], _, PCall.r (by first | assumption), ?_⟩ | refine ⟨_, _, (by first | assumption), ?_⟩ | refine ⟨_, _, _, RCall.sh (by first | assumption), ?_⟩ | refine ⟨_, _, _, (by first | assumption), ?_⟩ | ((fail_if_success (refine ⟨_, ?_, ?_⟩)); refine ⟨AV.any, ?_⟩) | refine ret_frz rfl ?_ (by simp [push_cast]) (by simp [push_cast, h8]) (by simp [push_cast, h8]) | refine end_frz rfl ?_ (by simp [push_cast]) (by simp [push_cast, h8]) (by simp [push_cast, h8]) | refine ret_now (by simp [push_cast]) ?_ (by simp [push_cast]) | refine end_now (by simp [push_cast]) ?_ (by simp [push_cast])) <;> (try simp only [push_cast, seval, reduceCtorEq, *, h8]))
      | ((first | refine cv_ptE rfl rfl rfl rfl rfl ?_ | refine outQ_frz rfl ?_ (by simp [push_cast]) (by simp [push_cast, h8]) | refine dfr_end (by simp) rfl ?_ (by simp [push_cast]) (by simp [push_cast, h8])) <;> (try simp only [push_cast, seval, reduceCtorEq, h8]))
      | exact cv_slE rfl rfl ⟨rfl, rfl⟩ (by simp) (by simp [take_map_len])
      | refine outQ_pan ?_ (by simp [push_cast])
      | refine outQ_unit ?_
      | refine outQ_unitN ?_
      | refine And.intro ?_ ?_
      | omega)
    all_goals (try simp only [push_cast, seval, reduceCtorEq, h8, zB, zO, zT])
    all_goals first
      | (simp only [*, h8, zB, zO, zT]; done)
      | (simp [*, h8, zB, zO, zT]; done)
      | (simp_all [h8, zB, zO, zT]; done)
      | (simp_all [h8, zB, zO, zT]; omega)
      | skip
end Go.Proofs.Ytffiicopifmmfaa
