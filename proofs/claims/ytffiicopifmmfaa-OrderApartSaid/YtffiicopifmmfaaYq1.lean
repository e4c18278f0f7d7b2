/- Facts of the program over abstract values. No condition. -/
import Derived.Test.YtffiicopifmmfaaYl
import Derived.Test.YtffiicopifmmfaaZs
import Derived.Test.YtffiicopifmmfaaOrAl2
set_option linter.unusedSimpArgs false
set_option linter.unusedVariables false
set_option maxRecDepth 8000
namespace Go.Proofs.Ytffiicopifmmfaa
set_option linter.unusedSimpArgs false
set_option linter.unusedVariables false
set_option linter.unnecessarySimpa false
set_option linter.unusedSectionVars false
open Go.Proofs.Try
open Go.Proofs.Ytffiicopifmmfaa.Ai
set_option maxHeartbeats 4000000

/-! A call changes the order that it names alone -/
def namedId (b : Bk) (m : Tm) (x : Cc) : Int := bif decide (x.dv.tmod 7 = 2) || decide (x.dv.tmod 7 = 0) then (progR b m x).id else x.id
theorem prog_apart {b : Bk} {m : Tm} {x : Cc} (hx : 0 ≤ x.dv) (hn : 0 ≤ x.now) (hd : x.dv.tmod 7 ≤ 4) (he : (progR b m x).e = 0) :
    ((progR b m x).bk.os.length : Int) = b.os.length + (bif decide (x.dv.tmod 7 = 0) then 1 else 0)
    ∧ (x.dv.tmod 7 = 0 ∨ (progR b m x).bk.cw = b.cw ∧ (progR b m x).bk.cm = b.cm)
    ∧ ∀ k : Nat, k < b.os.length → ∀ (y z : O), b.os[k]? = some y → (progR b m x).bk.os[k]? = some z → (((k : Int) + 1 ≠ namedId b m x → z = y) ∧ ((k : Int) + 1 = namedId b m x → ¬ z.s = y.s)) := by
  have h8 := tmod7 hx
  have av : ∀ (id st now : Int), 0 ≤ now → avE b m id st now = 0 → (avR b m id st now).os.length = b.os.length ∧ ((avR b m id st now).cw = b.cw ∧ (avR b m id st now).cm = b.cm) ∧ ∀ k : Nat, k < b.os.length → ∀ (y z : O), b.os[k]? = some y → (avR b m id st now).os[k]? = some z → (((k : Int) + 1 ≠ id → z = y) ∧ ((k : Int) + 1 = id → ¬ z.s = y.s)) := by
    intro id st now h0 h1
    obtain ⟨j, rfl⟩ := av_id h1
    obtain ⟨hb, hj, ha⟩ := av0 h1
    obtain ⟨_, c2, c3, c4, c5, c6, _⟩ := adv0 h0 ha
    have c7 := (chk0.1 c2).2.2.1
    rw [av_eq h1]
    refine ⟨avB_len, ⟨rfl, rfl⟩, fun k hk y z hy hz => ?_⟩
    simp only [avB] at hz
    by_cases e : k = j
    · subst e
      rw [List.getElem?_set_self hk] at hz
      rw [hj] at hy
      simp only [Option.some.injEq] at hz hy
      refine ⟨fun h => absurd rfl h, fun _ => ?_⟩
      rw [← hz, ← hy]
      simp only [advO]
      omega
    · rw [List.getElem?_set_ne (fun h => e h.symm), hy] at hz
      simp only [Option.some.injEq] at hz
      exact ⟨fun _ => hz.symm, fun h => absurd (by omega) e⟩
  rcases h8 with h8 | h8 | h8 | h8 | h8 | h8 | h8 <;> try (exfalso; omega)
  · have e : progR b m x = ⟨subR b m x.p x.d x.now, subI b m x.p x.d x.now, zO, zT, subE b m x.p x.d x.now⟩ := by simp [progR, h8]
    rw [e] at he ⊢
    simp only at he ⊢
    simp only [namedId, e, h8, subR, subI, he, decide_true, cond_true, Bool.or_true]
    refine ⟨by simp [subB], .inl trivial, fun k hk y z hy hz => ?_⟩
    simp only [subB, List.getElem?_append_left hk, hy, Option.some.injEq] at hz
    exact ⟨fun _ => hz.symm, fun h => by omega⟩
  · have e : progR b m x = ⟨avR b m x.id 5 0, 0, zO, zT, avE b m x.id 5 0⟩ := by simp [progR, h8]
    rw [e] at he ⊢
    simp only at he ⊢
    obtain ⟨v1, v2, v3⟩ := av x.id 5 0 (Int.le_refl 0) he
    refine ⟨by simp [v1, h8], .inr v2, ?_⟩
    simpa [namedId, h8] using v3
  · have e : progR b m x = ⟨asR b m, asI b m, zO, zT, asE b m⟩ := by simp [progR, h8]
    have e2 : namedId b m x = asI b m := by simp [namedId, e, h8]
    rw [e2]
    rw [e] at he ⊢
    simp only at he ⊢
    obtain ⟨_, j, hq, hi, hr, ha⟩ := as_valid he
    have v := av ((j : Int) + 1) 2 0 (Int.le_refl 0) ha
    rw [av_eq ha, ← hr] at v
    obtain ⟨v1, v2, v3⟩ := v
    rw [hi]
    exact ⟨by simp [v1, h8], .inr v2, v3⟩
  · have e : progR b m x = ⟨avR b m x.id 3 0, 0, zO, zT, avE b m x.id 3 0⟩ := by simp [progR, h8]
    rw [e] at he ⊢
    simp only at he ⊢
    obtain ⟨v1, v2, v3⟩ := av x.id 3 0 (Int.le_refl 0) he
    refine ⟨by simp [v1, h8], .inr v2, ?_⟩
    simpa [namedId, h8] using v3
  · have e : progR b m x = ⟨avR b m x.id 4 x.now, 0, zO, zT, avE b m x.id 4 x.now⟩ := by simp [progR, h8]
    rw [e] at he ⊢
    simp only at he ⊢
    obtain ⟨v1, v2, v3⟩ := av x.id 4 x.now hn he
    refine ⟨by simp [v1, h8], .inr v2, ?_⟩
    simpa [namedId, h8] using v3
theorem law_apart (b : Bk) (m : Tm) (x : Cc) (h : Fit b m) (hx : 0 ≤ x.dv) (hn : 0 ≤ x.now) : PCall prog 12 [.agg (tmc m), .agg (bkc b), .agg (clc x)] (.bool true) := by
  have hv := refValidBook_p b m h
  by_cases h0 : bookE b m = 0
  case neg =>
    simp only [h0, decide_false] at hv
    obtain ⟨c, hb, hl⟩ := l12
    refine pcall_of mixed e12 hb rfl hl r12 (by rw [n12]; simp) ?_
    clear hb hl c
    (try simp only [push_cast, seval, reduceCtorEq])
    repeat' (first
      | ((first | ((first | refine brX_split ?_ ?_ | refine gX_split ?_ ?_ | refine hX_split ?_ ?_ | refine outK_split ?_ ?_) <;> (intro xc; (try simp only [Bool.not_eq_true', Bool.not_eq_false'] at xc); have xp := xc; (try simp only [decide_eq_true_eq, decide_eq_false_iff_not, Int.not_lt, Int.not_le, ge_iff_le, gt_iff_lt, Bool.and_eq_true, Bool.or_eq_false_iff] at xp); have xq := xp; (first | simp only [← Int.not_le] at xq | simp only [← Int.not_lt] at xq | clear xq))) | refine ⟨.ret _, _, PCall.s (by first | assumption | exact alive_p) (by simp [push_cast]), ?_⟩ | refine ⟨.ret _, _, RCall.s (RCall.sh (by first | assumption | exact alive_p)) (by simp [push_cast]), ?_⟩ | refine ⟨_, _, SCall.lift (by first | assumption | exact alive_p) (outR_cl (by simp [push_cast]) (by simp [push_cast])) (by simp [push_cast]), ?_⟩ | refine ⟨_, (by first | assumption | exact alive_p), ?_⟩ | refine ⟨0, [], _, PCall.r (by first | assumption | exact alive_p), ?_⟩ | refine ⟨_, _, (by first | assumption | exact alive_p), ?_⟩ | refine ⟨_, _, _, RCall.sh (by first | assumption | exact alive_p), ?_⟩ | refine ⟨_, _, _, (by first | assumption | exact alive_p), ?_⟩ | ((fail_if_success (refine ⟨_, ?_, ?_⟩)); refine ⟨AV.any, ?_⟩) | refine ret_frz rfl ?_ (by simp [push_cast]) (by simp [push_cast]) (by simp [push_cast]) | refine end_frz rfl ?_ (by simp [push_cast]) (by simp [push_cast]) (by simp [push_cast]) | refine ret_now (by simp [push_cast]) ?_ (by simp [push_cast]) | refine end_now (by simp [push_cast]) ?_ (by simp [push_cast])) <;> (try simp only [push_cast, seval, reduceCtorEq, *]))
      | ((first | refine cv_ptE rfl rfl rfl rfl rfl ?_ | refine outQ_frz rfl ?_ (by simp [push_cast]) (by simp [push_cast]) | refine dfr_end (by simp) rfl ?_ (by simp [push_cast]) (by simp [push_cast])) <;> (try simp only [push_cast, seval, reduceCtorEq]))
      | exact cv_slE rfl rfl ⟨rfl, rfl⟩ (by simp) (by simp [take_map_len])
      | refine outQ_pan ?_ (by simp [push_cast])
      | refine outQ_unit ?_
      | refine outQ_unitN ?_
      | refine And.intro ?_ ?_
      | omega)
    all_goals (try simp only [push_cast, seval, reduceCtorEq])
    all_goals first
      | (simp only [*]; done)
      | (simp [*]; done)
      | (simp_all []; done)
      | (simp_all []; omega)
      | skip
  simp only [h0, decide_true] at hv
  have hc := changes_p x
  by_cases hd : x.dv.tmod 7 ≤ 4
  case neg =>
    simp only [hd, decide_false] at hc
    obtain ⟨c, hb, hl⟩ := l12
    refine pcall_of mixed e12 hb rfl hl r12 (by rw [n12]; simp) ?_
    clear hb hl c
    (try simp only [push_cast, seval, reduceCtorEq])
    repeat' (first
      | ((first | ((first | refine brX_split ?_ ?_ | refine gX_split ?_ ?_ | refine hX_split ?_ ?_ | refine outK_split ?_ ?_) <;> (intro xc; (try simp only [Bool.not_eq_true', Bool.not_eq_false'] at xc); have xp := xc; (try simp only [decide_eq_true_eq, decide_eq_false_iff_not, Int.not_lt, Int.not_le, ge_iff_le, gt_iff_lt, Bool.and_eq_true, Bool.or_eq_false_iff] at xp); have xq := xp; (first | simp only [← Int.not_le] at xq | simp only [← Int.not_lt] at xq | clear xq))) | refine ⟨.ret _, _, PCall.s (by first | assumption | exact alive_p) (by simp [push_cast]), ?_⟩ | refine ⟨.ret _, _, RCall.s (RCall.sh (by first | assumption | exact alive_p)) (by simp [push_cast]), ?_⟩ | refine ⟨_, _, SCall.lift (by first | assumption | exact alive_p) (outR_cl (by simp [push_cast]) (by simp [push_cast])) (by simp [push_cast]), ?_⟩ | refine ⟨_, (by first | assumption | exact alive_p), ?_⟩ | refine ⟨0, [], _, PCall.r (by first | assumption | exact alive_p), ?_⟩ | refine ⟨_, _, (by first | assumption | exact alive_p), ?_⟩ | refine ⟨_, _, _, RCall.sh (by first | assumption | exact alive_p), ?_⟩ | refine ⟨_, _, _, (by first | assumption | exact alive_p), ?_⟩ | ((fail_if_success (refine ⟨_, ?_, ?_⟩)); refine ⟨AV.any, ?_⟩) | refine ret_frz rfl ?_ (by simp [push_cast]) (by simp [push_cast]) (by simp [push_cast]) | refine end_frz rfl ?_ (by simp [push_cast]) (by simp [push_cast]) (by simp [push_cast]) | refine ret_now (by simp [push_cast]) ?_ (by simp [push_cast]) | refine end_now (by simp [push_cast]) ?_ (by simp [push_cast])) <;> (try simp only [push_cast, seval, reduceCtorEq, *]))
      | ((first | refine cv_ptE rfl rfl rfl rfl rfl ?_ | refine outQ_frz rfl ?_ (by simp [push_cast]) (by simp [push_cast]) | refine dfr_end (by simp) rfl ?_ (by simp [push_cast]) (by simp [push_cast])) <;> (try simp only [push_cast, seval, reduceCtorEq]))
      | exact cv_slE rfl rfl ⟨rfl, rfl⟩ (by simp) (by simp [take_map_len])
      | refine outQ_pan ?_ (by simp [push_cast])
      | refine outQ_unit ?_
      | refine outQ_unitN ?_
      | refine And.intro ?_ ?_
      | omega)
    all_goals (try simp only [push_cast, seval, reduceCtorEq])
    all_goals first
      | (simp only [*]; done)
      | (simp [*]; done)
      | (simp_all []; done)
      | (simp_all []; omega)
      | skip
  simp only [hd, decide_true] at hc
  have hp := program_p h x hx
  by_cases he : (progR b m x).e = 0
  case neg =>
    generalize progR b m x = R at *
    obtain ⟨c, hb, hl⟩ := l12
    refine pcall_of mixed e12 hb rfl hl r12 (by rw [n12]; simp) ?_
    clear hb hl c
    (try simp only [push_cast, seval, reduceCtorEq, he])
    repeat' (first
      | ((first | ((first | refine brX_split ?_ ?_ | refine gX_split ?_ ?_ | refine hX_split ?_ ?_ | refine outK_split ?_ ?_) <;> (intro xc; (try simp only [Bool.not_eq_true', Bool.not_eq_false'] at xc); have xp := xc; (try simp only [decide_eq_true_eq, decide_eq_false_iff_not, Int.not_lt, Int.not_le, ge_iff_le, gt_iff_lt, Bool.and_eq_true, Bool.or_eq_false_iff] at xp); have xq := xp; (first | simp only [← Int.not_le] at xq | simp only [← Int.not_lt] at xq | clear xq))) | refine ⟨.ret _, _, PCall.s (by first | assumption | exact alive_p) (by simp [push_cast, he]), ?_⟩ | refine ⟨.ret _, _, RCall.s (RCall.sh (by first | assumption | exact alive_p)) (by simp [push_cast, he]), ?_⟩ | refine ⟨_, _, SCall.lift (by first | assumption | exact alive_p) (outR_cl (by simp [push_cast]) (by simp [push_cast])) (by simp [push_cast, he]), ?_⟩ | refine ⟨_, (by first | assumption | exact alive_p), ?_⟩ | refine ⟨0, [], _, PCall.r (by first | assumption | exact alive_p), ?_⟩ | refine ⟨_, _, (by first | assumption | exact alive_p), ?_⟩ | refine ⟨_, _, _, RCall.sh (by first | assumption | exact alive_p), ?_⟩ | refine ⟨_, _, _, (by first | assumption | exact alive_p), ?_⟩ | ((fail_if_success (refine ⟨_, ?_, ?_⟩)); refine ⟨AV.any, ?_⟩) | refine ret_frz rfl ?_ (by simp [push_cast]) (by simp [push_cast, he]) (by simp [push_cast, he]) | refine end_frz rfl ?_ (by simp [push_cast]) (by simp [push_cast, he]) (by simp [push_cast, he]) | refine ret_now (by simp [push_cast]) ?_ (by simp [push_cast]) | refine end_now (by simp [push_cast]) ?_ (by simp [push_cast])) <;> (try simp only [push_cast, seval, reduceCtorEq, *, he]))
      | ((first | refine cv_ptE rfl rfl rfl rfl rfl ?_ | refine outQ_frz rfl ?_ (by simp [push_cast]) (by simp [push_cast, he]) | refine dfr_end (by simp) rfl ?_ (by simp [push_cast]) (by simp [push_cast, he])) <;> (try simp only [push_cast, seval, reduceCtorEq, he]))
      | exact cv_slE rfl rfl ⟨rfl, rfl⟩ (by simp) (by simp [take_map_len])
      | refine outQ_pan ?_ (by simp [push_cast])
      | refine outQ_unit ?_
      | refine outQ_unitN ?_
      | refine And.intro ?_ ?_
      | omega)
    all_goals (try simp only [push_cast, seval, reduceCtorEq, he])
    all_goals first
      | (simp only [*, he]; done)
      | (simp [*, he]; done)
      | (simp_all [he]; done)
      | (simp_all [he]; omega)
      | skip
  obtain ⟨a1, a2, a3⟩ := prog_apart hx hn hd he
  have hb := prog_valid hx hn hd he
  obtain ⟨l1, _⟩ := book0_len h0
  obtain ⟨l2, _⟩ := book0_len hb
  have g1 := fun (k : Nat) (y : O) (hy : b.os[k]? = some y) => get_q h ((k : Int) + 1) (ordE_in h0 (List.getElem?_eq_some_iff.1 hy).1)
  have g2 := fun (k : Nat) (y : O) (hy : (progR b m x).bk.os[k]? = some y) => get_q (fit_of h hb) ((k : Int) + 1) (ordE_in hb (List.getElem?_eq_some_iff.1 hy).1)
  have hid : namedId b m x = bif decide (x.dv.tmod 7 = 2) || decide (x.dv.tmod 7 = 0) then (progR b m x).id else x.id := rfl
  generalize namedId b m x = I at *
  clear hb
  generalize progR b m x = R at *
  obtain ⟨Rb, Rid, Ro, Rt, Re⟩ := R
  simp only at he a1 a2 a3 l2 g2 hid
  subst he
  have h8 := tmod7 hx
  have loop : ∀ k : Nat, k ≤ b.os.length → True := fun _ _ => trivial
  clear loop h
  rcases h8 with h8 | h8 | h8 | h8 | h8 | h8 | h8 <;> try (exfalso; omega)
  all_goals
    simp only [h8, show ((0 : Int) = 2) = False by simp, show ((1 : Int) = 2) = False by simp, show ((3 : Int) = 2) = False by simp, show ((4 : Int) = 2) = False by simp, show ((1 : Int) = 0) = False by simp, show ((2 : Int) = 0) = False by simp, show ((3 : Int) = 0) = False by simp, show ((4 : Int) = 0) = False by simp, decide_true, decide_false, Bool.or_true, Bool.true_or, Bool.or_false, cond_true, cond_false, Int.add_zero] at hid a1 a2
    obtain ⟨c, hb, hl⟩ := l12
    refine pcall_of mixed e12 hb rfl hl r12 (by rw [n12]; simp) ?_
    clear hb hl c
    (try simp only [push_cast, seval, reduceCtorEq, h8])
    repeat' (first
      | ((first | ((first | refine brX_split ?_ ?_ | refine gX_split ?_ ?_ | refine hX_split ?_ ?_ | refine outK_split ?_ ?_) <;> (intro xc; (try simp only [Bool.not_eq_true', Bool.not_eq_false'] at xc); have xp := xc; (try simp only [decide_eq_true_eq, decide_eq_false_iff_not, Int.not_lt, Int.not_le, ge_iff_le, gt_iff_lt, Bool.and_eq_true, Bool.or_eq_false_iff] at xp); have xq := xp; (first | simp only [← Int.not_le] at xq | simp only [← Int.not_lt] at xq | clear xq))) | refine ⟨.ret _, _, PCall.s (by first | assumption | exact alive_p) (by simp [push_cast, h8]), ?_⟩ | refine ⟨.ret _, _, RCall.s (RCall.sh (by first | assumption | exact alive_p)) (by simp [push_cast, h8]), ?_⟩ | refine ⟨_, _, SCall.lift (by first | assumption | exact alive_p) (outR_cl (by simp [push_cast]) (by simp [push_cast])) (by simp [push_cast, h8]), ?_⟩ | refine ⟨_, (by first | assumption | exact alive_p), ?_⟩ | refine ⟨0, [], _, PCall.r (by first | assumption | exact alive_p), ?_⟩ | refine ⟨_, _, (by first | assumption | exact alive_p), ?_⟩ | refine ⟨_, _, _, RCall.sh (by first | assumption | exact alive_p), ?_⟩ | refine ⟨_, _, _, (by first | assumption | exact alive_p), ?_⟩ | ((fail_if_success (refine ⟨_, ?_, ?_⟩)); refine ⟨AV.any, ?_⟩) | refine ret_frz rfl ?_ (by simp [push_cast]) (by simp [push_cast, h8]) (by simp [push_cast, h8]) | refine end_frz rfl ?_ (by simp [push_cast]) (by simp [push_cast, h8]) (by simp [push_cast, h8]) | refine ret_now (by simp [push_cast]) ?_ (by simp [push_cast]) | refine end_now (by simp [push_cast]) ?_ (by simp [push_cast])) <;> (try simp only [push_cast, seval, reduceCtorEq, *, h8]))
      | ((first | refine cv_ptE rfl rfl rfl rfl rfl ?_ | refine outQ_frz rfl ?_ (by simp [push_cast]) (by simp [push_cast, h8]) | refine dfr_end (by simp) rfl ?_ (by simp [push_cast]) (by simp [push_cast, h8])) <;> (try simp only [push_cast, seval, reduceCtorEq, h8]))
      | exact cv_slE rfl rfl ⟨rfl, rfl⟩ (by simp) (by simp [take_map_len])
      | refine outQ_pan ?_ (by simp [push_cast])
      | refine outQ_unit ?_
      | refine outQ_unitN ?_
      | refine And.intro ?_ ?_
      | omega)
    all_goals (try simp only [push_cast, seval, reduceCtorEq, h8])
    all_goals first
      | (simp only [*, h8]; done)
      | (simp [*, h8]; done)
      | (simp_all [h8]; done)
      | (simp_all [h8]; omega)
      | skip
    clear hv hc hp
    refine w_loopS (fun k : Nat => ([(3, .pt 0 8 0 0), (4, .pt 1 4 0 0), (5, .pt 2 5 0 0), (7, .bool true), (8, .pt 3 18 0 0), (9, .int .i64 I), (10, .int .i64 ((k : Int) + 1))], ⟨4, [(0, ⟨8, [tmc m]⟩), (1, ⟨4, [bkc b]⟩), (2, ⟨5, [clc x]⟩), (3, ⟨18, [rsc ⟨Rb, Rid, Ro, Rt, 0⟩]⟩)]⟩)) (fun k => k ≤ b.os.length) (fun k => b.os.length - k) 0 (Nat.zero_le _) ?_ ?_
    · rw [hid]
      refine Wk.ren (fun _ => false) (fun i => (bif i == 3 then 16 else i)) (by simp) (by simp) ?_ ?_ (by simp) <;> (try simp only [push_cast, Nat.reduceBEq, Nat.reduceLeDiff, Nat.reduceAdd]) <;> (repeat' (first | exact trivial | (refine cv_ptE rfl rfl rfl rfl rfl ?_; simp only [push_cast, Nat.reduceBEq, Nat.reduceLeDiff, Nat.reduceAdd]) | exact cv_slE rfl rfl ⟨rfl, rfl⟩ (by simp) (by simp [take_map_len]) | exact cv_slG rfl rfl ⟨rfl, rfl⟩ (by simp) (by first | rfl | (simp; done)) (by first | rfl | (simp; done) | (simp; omega)) (by simp [push_cast]) | exact cv_ros_self (by simp [push_cast]) | exact bel_ros_cl (by simp [push_cast]) | exact cellsCv_eq (by simp [take_map_len]) (by simp [push_cast]) | refine And.intro ?_ ?_ | rfl | omega | (simp; done) | (simp; omega)))
    clear hid
    intro k hk
    rcases Nat.lt_or_ge k b.os.length with hk' | hk'
    · obtain ⟨y, hy⟩ := lt_get hk'
      obtain ⟨z, hz⟩ : ∃ z, Rb.os[k]? = some z := lt_get (by omega)
      have c1 := g1 k y hy
      have c2 := g2 k z hz
      rw [ordAt_in hy] at c1
      rw [ordAt_in hz] at c2
      obtain ⟨r1, r2⟩ := a3 k hk' y z hy hz
      have hd : decide ((k : Int) + 1 ≤ b.os.length) = true := by simp; omega
      have hw2 : IntKind.i64.wrap ((k : Int) + 1 + 1) = (k : Int) + 1 + 1 := IntWalk.i64_in _ (by omega)
      clear g1 g2 a3 hy hz
      clear l1 l2 h0 hd
      have hd : decide ((k : Int) + 1 ≤ b.os.length) = true := by simp; omega
      by_cases hI : (k : Int) + 1 = I
      · have hne := r2 hI
        have hne2 : ¬ y.s = z.s := fun e => hne e.symm
        clear r1 r2
        subst hI
        (try simp only [push_cast, seval, reduceCtorEq, hd, hw2, hne, hne2])
        repeat' (first
          | ((first | ((first | refine brX_split ?_ ?_ | refine gX_split ?_ ?_ | refine hX_split ?_ ?_ | refine outK_split ?_ ?_) <;> (intro xc; (try simp only [Bool.not_eq_true', Bool.not_eq_false'] at xc); have xp := xc; (try simp only [decide_eq_true_eq, decide_eq_false_iff_not, Int.not_lt, Int.not_le, ge_iff_le, gt_iff_lt, Bool.and_eq_true, Bool.or_eq_false_iff] at xp); have xq := xp; (first | simp only [← Int.not_le] at xq | simp only [← Int.not_lt] at xq | clear xq))) | refine ⟨.ret _, _, PCall.s (by first | assumption) (by simp [push_cast, hd, hw2, hne, hne2]), ?_⟩ | refine ⟨.ret _, _, RCall.s (RCall.sh (by first | assumption)) (by simp [push_cast, hd, hw2, hne, hne2]), ?_⟩ | refine ⟨_, _, SCall.lift (by first | assumption) (outR_cl (by simp [push_cast]) (by simp [push_cast])) (by simp [push_cast, hd, hw2, hne, hne2]), ?_⟩ | refine ⟨_, (by first | assumption), ?_⟩ | refine ⟨0, [], _, PCall.r (by first | assumption), ?_⟩ | refine ⟨_, _, (by first | assumption), ?_⟩ | refine ⟨_, _, _, RCall.sh (by first | assumption), ?_⟩ | refine ⟨_, _, _, (by first | assumption), ?_⟩ | ((fail_if_success (refine ⟨_, ?_, ?_⟩)); refine ⟨AV.any, ?_⟩) | refine ret_frz rfl ?_ (by simp [push_cast]) (by simp [push_cast, hd, hw2, hne, hne2]) (by simp [push_cast, hd, hw2, hne, hne2]) | refine end_frz rfl ?_ (by simp [push_cast]) (by simp [push_cast, hd, hw2, hne, hne2]) (by simp [push_cast, hd, hw2, hne, hne2]) | refine ret_now (by simp [push_cast]) ?_ (by simp [push_cast]) | refine end_now (by simp [push_cast]) ?_ (by simp [push_cast])) <;> (try simp only [push_cast, seval, reduceCtorEq, *, hd, hw2, hne, hne2]))
          | ((first | refine cv_ptE rfl rfl rfl rfl rfl ?_ | refine outQ_frz rfl ?_ (by simp [push_cast]) (by simp [push_cast, hd, hw2, hne, hne2]) | refine dfr_end (by simp) rfl ?_ (by simp [push_cast]) (by simp [push_cast, hd, hw2, hne, hne2])) <;> (try simp only [push_cast, seval, reduceCtorEq, hd, hw2, hne, hne2]))
          | exact cv_slE rfl rfl ⟨rfl, rfl⟩ (by simp) (by simp [take_map_len])
          | refine outQ_pan ?_ (by simp [push_cast])
          | refine outQ_unit ?_
          | refine outQ_unitN ?_
          | refine And.intro ?_ ?_
          | omega)
        all_goals (try simp only [push_cast, seval, reduceCtorEq, hd, hw2, hne, hne2])
        all_goals first
          | (simp only [*, hd, hw2, hne, hne2]; done)
          | (simp [*, hd, hw2, hne, hne2]; done)
          | (simp_all [hd, hw2, hne, hne2]; done)
          | (simp_all [hd, hw2, hne, hne2]; omega)
          | skip
        all_goals
          (refine rnd_to _ _ _ (k + 1) hk' (by first | omega | (dsimp only; omega)) ?_; refine Wk.ren (fun _ => false) (fun i => i) (by simp) (by simp) ?_ ?_ (by simp) <;> (try simp only [push_cast, Nat.reduceBEq, Nat.reduceLeDiff, Nat.reduceAdd]) <;> (repeat' (first | exact trivial | (refine cv_ptE rfl rfl rfl rfl rfl ?_; simp only [push_cast, Nat.reduceBEq, Nat.reduceLeDiff, Nat.reduceAdd]) | exact cv_slE rfl rfl ⟨rfl, rfl⟩ (by simp) (by simp [take_map_len]) | exact cv_slG rfl rfl ⟨rfl, rfl⟩ (by simp) (by first | rfl | (simp; done)) (by first | rfl | (simp; done) | (simp; omega)) (by simp [push_cast]) | exact cv_ros_self (by simp [push_cast]) | exact bel_ros_cl (by simp [push_cast]) | exact cellsCv_eq (by simp [take_map_len]) (by simp [push_cast]) | refine And.intro ?_ ?_ | rfl | omega | (simp; done) | (simp; omega))))
      · have hyz := r1 hI
        clear r1 r2
        subst hyz
        (try simp only [push_cast, seval, reduceCtorEq, hd, hw2, hI])
        repeat' (first
          | ((first | ((first | refine brX_split ?_ ?_ | refine gX_split ?_ ?_ | refine hX_split ?_ ?_ | refine outK_split ?_ ?_) <;> (intro xc; (try simp only [Bool.not_eq_true', Bool.not_eq_false'] at xc); have xp := xc; (try simp only [decide_eq_true_eq, decide_eq_false_iff_not, Int.not_lt, Int.not_le, ge_iff_le, gt_iff_lt, Bool.and_eq_true, Bool.or_eq_false_iff] at xp); have xq := xp; (first | simp only [← Int.not_le] at xq | simp only [← Int.not_lt] at xq | clear xq))) | refine ⟨.ret _, _, PCall.s (by first | assumption) (by simp [push_cast, hd, hw2, hI]), ?_⟩ | refine ⟨.ret _, _, RCall.s (RCall.sh (by first | assumption)) (by simp [push_cast, hd, hw2, hI]), ?_⟩ | refine ⟨_, _, SCall.lift (by first | assumption) (outR_cl (by simp [push_cast]) (by simp [push_cast])) (by simp [push_cast, hd, hw2, hI]), ?_⟩ | refine ⟨_, (by first | assumption), ?_⟩ | refine ⟨0, [], _, PCall.r (by first | assumption), ?_⟩ | refine ⟨_, _, (by first | assumption), ?_⟩ | refine ⟨_, _, _, RCall.sh (by first | assumption), ?_⟩ | refine ⟨_, _, _, (by first | assumption), ?_⟩ | ((fail_if_success (refine ⟨_, ?_, ?_⟩)); refine ⟨AV.any, ?_⟩) | refine ret_frz rfl ?_ (by simp [push_cast]) (by simp [push_cast, hd, hw2, hI]) (by simp [push_cast, hd, hw2, hI]) | refine end_frz rfl ?_ (by simp [push_cast]) (by simp [push_cast, hd, hw2, hI]) (by simp [push_cast, hd, hw2, hI]) | refine ret_now (by simp [push_cast]) ?_ (by simp [push_cast]) | refine end_now (by simp [push_cast]) ?_ (by simp [push_cast])) <;> (try simp only [push_cast, seval, reduceCtorEq, *, hd, hw2, hI]))
          | ((first | refine cv_ptE rfl rfl rfl rfl rfl ?_ | refine outQ_frz rfl ?_ (by simp [push_cast]) (by simp [push_cast, hd, hw2, hI]) | refine dfr_end (by simp) rfl ?_ (by simp [push_cast]) (by simp [push_cast, hd, hw2, hI])) <;> (try simp only [push_cast, seval, reduceCtorEq, hd, hw2, hI]))
          | exact cv_slE rfl rfl ⟨rfl, rfl⟩ (by simp) (by simp [take_map_len])
          | refine outQ_pan ?_ (by simp [push_cast])
          | refine outQ_unit ?_
          | refine outQ_unitN ?_
          | refine And.intro ?_ ?_
          | omega)
        all_goals (try simp only [push_cast, seval, reduceCtorEq, hd, hw2, hI])
        all_goals first
          | (simp only [*, hd, hw2, hI]; done)
          | (simp [*, hd, hw2, hI]; done)
          | (simp_all [hd, hw2, hI]; done)
          | (simp_all [hd, hw2, hI]; omega)
          | skip
        all_goals
          (refine rnd_to _ _ _ (k + 1) hk' (by first | omega | (dsimp only; omega)) ?_; refine Wk.ren (fun _ => false) (fun i => i) (by simp) (by simp) ?_ ?_ (by simp) <;> (try simp only [push_cast, Nat.reduceBEq, Nat.reduceLeDiff, Nat.reduceAdd]) <;> (repeat' (first | exact trivial | (refine cv_ptE rfl rfl rfl rfl rfl ?_; simp only [push_cast, Nat.reduceBEq, Nat.reduceLeDiff, Nat.reduceAdd]) | exact cv_slE rfl rfl ⟨rfl, rfl⟩ (by simp) (by simp [take_map_len]) | exact cv_slG rfl rfl ⟨rfl, rfl⟩ (by simp) (by first | rfl | (simp; done)) (by first | rfl | (simp; done) | (simp; omega)) (by simp [push_cast]) | exact cv_ros_self (by simp [push_cast]) | exact bel_ros_cl (by simp [push_cast]) | exact cellsCv_eq (by simp [take_map_len]) (by simp [push_cast]) | refine And.intro ?_ ?_ | rfl | omega | (simp; done) | (simp; omega))))
    · have hd : decide ((k : Int) + 1 ≤ b.os.length) = false := by simp; omega
      obtain rfl : k = b.os.length := by omega
      have hw := inc64 (k := b.os.length) (by omega)
      clear g1 g2 a3
      (try simp only [push_cast, seval, reduceCtorEq, hd, h8, hw, a1])
      repeat' (first
        | ((first | ((first | refine brX_split ?_ ?_ | refine gX_split ?_ ?_ | refine hX_split ?_ ?_ | refine outK_split ?_ ?_) <;> (intro xc; (try simp only [Bool.not_eq_true', Bool.not_eq_false'] at xc); have xp := xc; (try simp only [decide_eq_true_eq, decide_eq_false_iff_not, Int.not_lt, Int.not_le, ge_iff_le, gt_iff_lt, Bool.and_eq_true, Bool.or_eq_false_iff] at xp); have xq := xp; (first | simp only [← Int.not_le] at xq | simp only [← Int.not_lt] at xq | clear xq))) | ((fail_if_success (refine ⟨_, ?_, ?_⟩)); refine ⟨AV.any, ?_⟩) | refine ret_frz rfl ?_ (by simp [push_cast]) (by simp [push_cast, hd, h8, hw, a1]) (by simp [push_cast, hd, h8, hw, a1]) | refine end_frz rfl ?_ (by simp [push_cast]) (by simp [push_cast, hd, h8, hw, a1]) (by simp [push_cast, hd, h8, hw, a1]) | refine ret_now (by simp [push_cast]) ?_ (by simp [push_cast]) | refine end_now (by simp [push_cast]) ?_ (by simp [push_cast])) <;> (try simp only [push_cast, seval, reduceCtorEq, *, hd, h8, hw, a1]))
        | ((first | refine cv_ptE rfl rfl rfl rfl rfl ?_ | refine outQ_frz rfl ?_ (by simp [push_cast]) (by simp [push_cast, hd, h8, hw, a1]) | refine dfr_end (by simp) rfl ?_ (by simp [push_cast]) (by simp [push_cast, hd, h8, hw, a1])) <;> (try simp only [push_cast, seval, reduceCtorEq, hd, h8, hw, a1]))
        | exact cv_slE rfl rfl ⟨rfl, rfl⟩ (by simp) (by simp [take_map_len])
        | refine outQ_pan ?_ (by simp [push_cast])
        | refine outQ_unit ?_
        | refine outQ_unitN ?_
        | refine And.intro ?_ ?_
        | omega)
      all_goals (try simp only [push_cast, seval, reduceCtorEq, hd, h8, hw, a1])
      all_goals first
        | (simp only [*, hd, h8, hw, a1]; done)
        | (simp [*, hd, h8, hw, a1]; done)
        | (simp_all [hd, h8, hw, a1]; done)
        | (simp_all [hd, h8, hw, a1]; omega)
        | skip
end Go.Proofs.Ytffiicopifmmfaa
