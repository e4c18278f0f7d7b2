/- Facts of the program over abstract values. No condition. -/
import Derived.Test.YtffiicopifmmfaaZw
import Derived.Test.YtffiicopifmmfaaZs
import Derived.Test.YtffiicopifmmfaaOrAl2
set_option linter.unusedSimpArgs false
set_option linter.unusedVariables false
set_option maxRecDepth 8000
namespace Go.Proofs.Ytffiicopifmmfaa
set_option linter.unusedSimpArgs false
set_option linter.unusedVariables false
set_option linter.unnecessarySimpa false
set_option linter.unusedSectionVars false
open Go.Proofs.Try
open Go.Proofs.Ytffiicopifmmfaa.Ai
set_option maxHeartbeats 4000000

/-! A full queue has room again -/
theorem take01 {b : Bk} {m : Tm} {now : Int} (h : bookE b m = 0) (hn : now ≤ 4611686018427387904) : takE b.cw b.cm m.w m.qo now = 0 ∨ takE b.cw b.cm m.w m.qo now = 160 := by
  obtain ⟨_, _, _, q4⟩ := book0 h
  have ha : askE b.cw b.cm m.w m.qo now = 0 := by simp [askE, q4, hn]
  unfold takE
  simp only [ha, decide_true, cond_true]
  cases decide (remN b.cw b.cm m.w m.qo now = 0) <;> simp
theorem sub_err {b : Bk} {m : Tm} {p d now : Int} (h : bookE b m = 0) (h0 : ¬ subE b m p d now = 0) (h9 : ¬ subE b m p d now = 9) : subE b m p d now = 2 ∨ subE b m p d now = 4 ∨ subE b m p d now = 160 := by
  unfold subE at h0 h9 ⊢
  simp only [h, decide_true, cond_true] at h0 h9 ⊢
  cases ha : spotsB m p d && decide (now ≤ 4611686018427387904)
  · simp
  · simp only [ha, cond_true] at h0 h9 ⊢
    by_cases h1 : (b.os.length : Int) = 64
    · simp [h1]
    by_cases h2 : (b.q.length : Int) = m.qu
    · simp [h1, h2] at h9
    simp only [h1, h2, decide_false, cond_false] at h0 ⊢
    simp only [Bool.and_eq_true, decide_eq_true_eq] at ha
    have := take01 h ha.2
    omega
theorem sub9 {b : Bk} {m : Tm} {p d now : Int} (h : bookE b m = 0) (h9 : subE b m p d now = 9) : (spotsB m p d && decide (now ≤ 4611686018427387904)) = true ∧ ¬ (b.os.length : Int) = 64 ∧ (b.q.length : Int) = m.qu := by
  unfold subE at h9
  simp only [h, decide_true, cond_true] at h9
  cases ha : spotsB m p d && decide (now ≤ 4611686018427387904)
  · simp [ha] at h9
  · simp only [ha, cond_true] at h9
    by_cases h1 : (b.os.length : Int) = 64
    · simp [h1] at h9
    by_cases h2 : (b.q.length : Int) = m.qu
    · exact ⟨rfl, h1, h2⟩
    simp only [h1, h2, decide_false, cond_false] at h9
    simp only [Bool.and_eq_true, decide_eq_true_eq] at ha
    have := take01 h ha.2
    omega
theorem sub_after {b b' : Bk} {m : Tm} {p d now : Int} (h : bookE b m = 0) (h9 : subE b m p d now = 9) (h' : bookE b' m = 0) (hl : b'.os.length = b.os.length) (hq : b'.q.length < b.q.length) (hw : b'.cw = b.cw) (hm : b'.cm = b.cm) : subE b' m p d now = takE b.cw b.cm m.w m.qo now := by
  obtain ⟨h1, h2, h3⟩ := sub9 h h9
  have h4 : ¬ (b'.q.length : Int) = m.qu := by omega
  unfold subE
  simp only [h', h1, hl, h2, h4, hw, hm, decide_true, decide_false, cond_true, cond_false]
theorem can_cancel {b : Bk} {m : Tm} (h : bookE b m = 0) {i : Int} (hi : i ∈ b.q) : ∃ k : Nat, i = (k : Int) + 1 ∧ avE b m ((k : Int) + 1) 5 0 = 0 := by
  obtain ⟨q1, q2, q3, q4⟩ := book0 h
  simp only [ordsB, queB, Bool.and_eq_true, decide_eq_true_eq] at q2 q3
  have hm : i ∈ nwU isQ b.os b.os.length := by rw [← q3.2]; exact hi
  have hb := (nwU_lt (p := isQ) (os := b.os) b.os.length).2 i hm
  obtain ⟨k, rfl⟩ : ∃ k : Nat, i = (k : Int) + 1 := ⟨(i - 1).toNat, by omega⟩
  obtain ⟨hk, hs⟩ := (nwU_mem _).1 hm
  obtain ⟨x, hx⟩ := lt_get hk
  have hxx : b.os.getD k default = x := by simp [List.getD, hx]
  rw [hxx] at hs
  have ho := okU_at hx q2.2
  simp only [okO, Bool.and_eq_true, decide_eq_true_eq] at ho
  simp only [isQ, decide_eq_true_eq] at hs
  refine ⟨k, rfl, ?_⟩
  have hc := ho.1.2
  rw [hs] at hc
  simp only [avE, ordE_in h hk, ordAt_in hx, advE, hc, hs]
  rfl
theorem law_room (b : Bk) (m : Tm) (p d now at_ : Int) (h : Fit b m) (hn : 0 ≤ now) (ha0 : 0 ≤ at_) (ha1 : at_ ≤ 255) : PCall prog 14 [.agg (tmc m), .agg (bkc b), .int .i64 p, .int .i64 d, .int .u64 now, .int .u8 at_] (.bool true) := by
  have hv := refValidBook_p b m h
  by_cases h0 : bookE b m = 0
  case neg =>
    simp only [h0, decide_false] at hv
    obtain ⟨c, hb, hl⟩ := l14
    refine pcall_of mixed e14 hb rfl hl r14 (by rw [n14]; simp) ?_
    clear hb hl c
    (try simp only [push_cast, seval, reduceCtorEq])
    repeat' (first
      | ((first | ((first | refine brX_split ?_ ?_ | refine gX_split ?_ ?_ | refine hX_split ?_ ?_ | refine outK_split ?_ ?_) <;> (intro xc; (try simp only [Bool.not_eq_true', Bool.not_eq_false'] at xc); have xp := xc; (try simp only [decide_eq_true_eq, decide_eq_false_iff_not, Int.not_lt, Int.not_le, ge_iff_le, gt_iff_lt, Bool.and_eq_true, Bool.or_eq_false_iff] at xp); have xq := xp; (first | simp only [← Int.not_le] at xq | simp only [← Int.not_lt] at xq | clear xq))) | refine ⟨.ret _, _, PCall.s (by first | assumption | exact alive_p) (by simp [push_cast]), ?_⟩ | refine ⟨.ret _, _, RCall.s (RCall.sh (by first | assumption | exact alive_p)) (by simp [push_cast]), ?_⟩ | refine ⟨_, _, SCall.lift (by first | assumption | exact alive_p) (outR_cl (by simp [push_cast]) (by simp [push_cast])) (by simp [push_cast]), ?_⟩ | refine ⟨_, (by first | assumption | exact alive_p), ?_⟩ | refine ⟨0, [], _, PCall.r (by first | assumption | exact alive_p), ?_⟩ | refine ⟨_, _, (by first | assumption | exact alive_p), ?_⟩ | refine ⟨_, _, _, RCall.sh (by first | assumption | exact alive_p), ?_⟩ | refine ⟨_, _, _, (by first | assumption | exact alive_p), ?_⟩ | ((fail_if_success (refine ⟨_, ?_, ?_⟩)); refine ⟨AV.any, ?_⟩) | refine ret_frz rfl ?_ (by simp [push_cast]) (by simp [push_cast]) (by simp [push_cast]) | refine end_frz rfl ?_ (by simp [push_cast]) (by simp [push_cast]) (by simp [push_cast]) | refine ret_now (by simp [push_cast]) ?_ (by simp [push_cast]) | refine end_now (by simp [push_cast]) ?_ (by simp [push_cast])) <;> (try simp only [push_cast, seval, reduceCtorEq, *]))
      | ((first | refine cv_ptE rfl rfl rfl rfl rfl ?_ | refine outQ_frz rfl ?_ (by simp [push_cast]) (by simp [push_cast]) | refine dfr_end (by simp) rfl ?_ (by simp [push_cast]) (by simp [push_cast])) <;> (try simp only [push_cast, seval, reduceCtorEq]))
      | exact cv_slE rfl rfl ⟨rfl, rfl⟩ (by simp) (by simp [take_map_len])
      | refine outQ_pan ?_ (by simp [push_cast])
      | refine outQ_unit ?_
      | refine outQ_unitN ?_
      | refine And.intro ?_ ?_
      | omega)
    all_goals (try simp only [push_cast, seval, reduceCtorEq])
    all_goals first
      | (simp only [*]; done)
      | (simp [*]; done)
      | (simp_all []; done)
      | (simp_all []; omega)
      | skip
  simp only [h0, decide_true] at hv
  have hs := submit_p h p d now
  have hlen := book0_len h0
  by_cases hE : subE b m p d now = 0
  · have hvs := sub_valid hn hE
    have e1 : subR b m p d now = subB b m p d now := by simp [subR, hE]
    have e2 : subI b m p d now = (b.os.length : Int) + 1 := by simp [subI, hE]
    rw [e1, e2, hE] at hs
    have hx : (subB b m p d now).os[b.os.length]? = some ⟨(b.os.length : Int) + 1, p, d, 1, now, 0⟩ := by simp [subB]
    have hg := get_q (fit_of h hvs) ((b.os.length : Int) + 1) (ordE_in hvs (by simp [subB]))
    rw [ordAt_in hx] at hg
    have hql : ((subB b m p d now).q.length : Int) = b.q.length + 1 := by simp [subB]
    have hgd := getD_map (enc := intc) (show (subB b m p d now).q[b.q.length]? = some ((b.os.length : Int) + 1) by simp [subB])
    have hw := inc64 (k := b.os.length) (by omega)
    have hw2 := inc64 (k := b.q.length) (by omega)
    have hw3 : IntKind.i64.wrap ((b.q.length : Int) + 1 - 1) = b.q.length := by rw [IntWalk.i64_in _ (by omega)]; omega
    clear e1 e2 hx hvs
    generalize subB b m p d now = B at *
    obtain ⟨c, hb, hl⟩ := l14
    refine pcall_of mixed e14 hb rfl hl r14 (by rw [n14]; simp) ?_
    clear hb hl c
    (try simp only [push_cast, seval, reduceCtorEq, hql, hgd, hw, hw2, hw3])
    repeat' (first
      | ((first | ((first | refine brX_split ?_ ?_ | refine gX_split ?_ ?_ | refine hX_split ?_ ?_ | refine outK_split ?_ ?_) <;> (intro xc; (try simp only [Bool.not_eq_true', Bool.not_eq_false'] at xc); have xp := xc; (try simp only [decide_eq_true_eq, decide_eq_false_iff_not, Int.not_lt, Int.not_le, ge_iff_le, gt_iff_lt, Bool.and_eq_true, Bool.or_eq_false_iff] at xp); have xq := xp; (first | simp only [← Int.not_le] at xq | simp only [← Int.not_lt] at xq | clear xq))) | refine ⟨.ret _, _, PCall.s (by first | assumption | exact alive_p) (by simp [push_cast, hql, hgd, hw, hw2, hw3]), ?_⟩ | refine ⟨.ret _, _, RCall.s (RCall.sh (by first | assumption | exact alive_p)) (by simp [push_cast, hql, hgd, hw, hw2, hw3]), ?_⟩ | refine ⟨_, _, SCall.lift (by first | assumption | exact alive_p) (outR_cl (by simp [push_cast]) (by simp [push_cast])) (by simp [push_cast, hql, hgd, hw, hw2, hw3]), ?_⟩ | refine ⟨_, (by first | assumption | exact alive_p), ?_⟩ | refine ⟨0, [], _, PCall.r (by first | assumption | exact alive_p), ?_⟩ | refine ⟨_, _, (by first | assumption | exact alive_p), ?_⟩ | refine ⟨_, _, _, RCall.sh (by first | assumption | exact alive_p), ?_⟩ | refine ⟨_, _, _, (by first | assumption | exact alive_p), ?_⟩ | ((fail_if_success (refine ⟨_, ?_, ?_⟩)); refine ⟨AV.any, ?_⟩) | refine ret_frz rfl ?_ (by simp [push_cast]) (by simp [push_cast, hql, hgd, hw, hw2, hw3]) (by simp [push_cast, hql, hgd, hw, hw2, hw3]) | refine end_frz rfl ?_ (by simp [push_cast]) (by simp [push_cast, hql, hgd, hw, hw2, hw3]) (by simp [push_cast, hql, hgd, hw, hw2, hw3]) | refine ret_now (by simp [push_cast]) ?_ (by simp [push_cast]) | refine end_now (by simp [push_cast]) ?_ (by simp [push_cast])) <;> (try simp only [push_cast, seval, reduceCtorEq, *, hql, hgd, hw, hw2, hw3]))
      | ((first | refine cv_ptE rfl rfl rfl rfl rfl ?_ | refine outQ_frz rfl ?_ (by simp [push_cast]) (by simp [push_cast, hql, hgd, hw, hw2, hw3]) | refine dfr_end (by simp) rfl ?_ (by simp [push_cast]) (by simp [push_cast, hql, hgd, hw, hw2, hw3])) <;> (try simp only [push_cast, seval, reduceCtorEq, hql, hgd, hw, hw2, hw3]))
      | exact cv_slE rfl rfl ⟨rfl, rfl⟩ (by simp) (by simp [take_map_len])
      | refine outQ_pan ?_ (by simp [push_cast])
      | refine outQ_unit ?_
      | refine outQ_unitN ?_
      | refine And.intro ?_ ?_
      | omega)
    all_goals (try simp only [push_cast, seval, reduceCtorEq, hql, hgd, hw, hw2, hw3])
    all_goals first
      | (simp only [*, hql, hgd, hw, hw2, hw3]; done)
      | (simp [*, hql, hgd, hw, hw2, hw3]; done)
      | (simp_all [hql, hgd, hw, hw2, hw3]; done)
      | (simp_all [hql, hgd, hw, hw2, hw3]; omega)
      | skip
  by_cases h9 : subE b m p d now = 9
  case neg =>
    have he := sub_err h0 hE h9
    generalize subR b m p d now = B at *
    generalize subI b m p d now = I at *
    generalize subE b m p d now = E at *
    rcases he with rfl | rfl | rfl
    all_goals
    obtain ⟨c, hb, hl⟩ := l14
    refine pcall_of mixed e14 hb rfl hl r14 (by rw [n14]; simp) ?_
    clear hb hl c
    (try simp only [push_cast, seval, reduceCtorEq])
    repeat' (first
      | ((first | ((first | refine brX_split ?_ ?_ | refine gX_split ?_ ?_ | refine hX_split ?_ ?_ | refine outK_split ?_ ?_) <;> (intro xc; (try simp only [Bool.not_eq_true', Bool.not_eq_false'] at xc); have xp := xc; (try simp only [decide_eq_true_eq, decide_eq_false_iff_not, Int.not_lt, Int.not_le, ge_iff_le, gt_iff_lt, Bool.and_eq_true, Bool.or_eq_false_iff] at xp); have xq := xp; (first | simp only [← Int.not_le] at xq | simp only [← Int.not_lt] at xq | clear xq))) | refine ⟨.ret _, _, PCall.s (by first | assumption | exact alive_p) (by simp [push_cast]), ?_⟩ | refine ⟨.ret _, _, RCall.s (RCall.sh (by first | assumption | exact alive_p)) (by simp [push_cast]), ?_⟩ | refine ⟨_, _, SCall.lift (by first | assumption | exact alive_p) (outR_cl (by simp [push_cast]) (by simp [push_cast])) (by simp [push_cast]), ?_⟩ | refine ⟨_, (by first | assumption | exact alive_p), ?_⟩ | refine ⟨0, [], _, PCall.r (by first | assumption | exact alive_p), ?_⟩ | refine ⟨_, _, (by first | assumption | exact alive_p), ?_⟩ | refine ⟨_, _, _, RCall.sh (by first | assumption | exact alive_p), ?_⟩ | refine ⟨_, _, _, (by first | assumption | exact alive_p), ?_⟩ | ((fail_if_success (refine ⟨_, ?_, ?_⟩)); refine ⟨AV.any, ?_⟩) | refine ret_frz rfl ?_ (by simp [push_cast]) (by simp [push_cast]) (by simp [push_cast]) | refine end_frz rfl ?_ (by simp [push_cast]) (by simp [push_cast]) (by simp [push_cast]) | refine ret_now (by simp [push_cast]) ?_ (by simp [push_cast]) | refine end_now (by simp [push_cast]) ?_ (by simp [push_cast])) <;> (try simp only [push_cast, seval, reduceCtorEq, *]))
      | ((first | refine cv_ptE rfl rfl rfl rfl rfl ?_ | refine outQ_frz rfl ?_ (by simp [push_cast]) (by simp [push_cast]) | refine dfr_end (by simp) rfl ?_ (by simp [push_cast]) (by simp [push_cast])) <;> (try simp only [push_cast, seval, reduceCtorEq]))
      | exact cv_slE rfl rfl ⟨rfl, rfl⟩ (by simp) (by simp [take_map_len])
      | refine outQ_pan ?_ (by simp [push_cast])
      | refine outQ_unit ?_
      | refine outQ_unitN ?_
      | refine And.intro ?_ ?_
      | omega)
    all_goals (try simp only [push_cast, seval, reduceCtorEq])
    all_goals first
      | (simp only [*]; done)
      | (simp [*]; done)
      | (simp_all []; done)
      | (simp_all []; omega)
      | skip
  obtain ⟨k1, k2, k3⟩ := sub9 h0 h9
  obtain ⟨q1, q2, q3, q4⟩ := book0 h0
  have hqu : 1 ≤ m.qu := by simp [teamB, inB] at q1; omega
  have hql : 0 < b.q.length := by omega
  have hne : b.q ≠ [] := by intro e; rw [e] at hql; simp at hql
  obtain ⟨j, hj⟩ : ∃ j : Nat, at_.tmod (b.q.length : Int) = (j : Int) ∧ j < b.q.length := by
    have := Int.tmod_nonneg (b.q.length : Int) ha0
    have h3 := Int.tmod_lt_of_pos at_ (show (0 : Int) < b.q.length by omega)
    exact ⟨(at_.tmod (b.q.length : Int)).toNat, by omega, by omega⟩
  obtain ⟨hj, hjl⟩ := hj
  obtain ⟨i, hi⟩ := lt_get hjl
  obtain ⟨k, rfl, hav⟩ := can_cancel h0 (List.mem_of_getElem? hi)
  obtain ⟨v1, v2⟩ := av_set (Int.le_refl 0) hav
  have hc := cancel_p h ((k : Int) + 1)
  rw [hav, av_eq hav] at hc
  have hs1 := submit_p (fit_of h v1) p d now
  rw [sub_after h0 h9 v1 avB_len (by rw [v2]; exact List.length_filter_lt_length_iff_exists.2 ⟨_, List.mem_of_getElem? hi, by simp⟩) rfl rfl] at hs1
  have ha := assign_p h
  have haz := as_zero h0 hne
  obtain ⟨w1, k', hq', hi', he', hav'⟩ := as_valid haz
  rw [haz] at ha
  have hs2 := submit_p (fit_of h w1) p d now
  have hq2 := congrArg List.length hq'
  simp only [List.length_cons] at hq2
  rw [sub_after h0 h9 w1 (by rw [he', avB_len]) (by omega) (by rw [he']; rfl) (by rw [he']; rfl)] at hs2
  simp only [Bool.and_eq_true, decide_eq_true_eq] at k1
  have ht := take01 h0 k1.2
  have hgd := getD_map (enc := intc) hi
  have hw : IntKind.i64.wrap at_ = at_ := IntWalk.i64_in _ (by omega)
  have hz : ¬ m.qu = 0 := by omega
  rw [k3] at hj
  rw [h9] at hs
  clear hq2 v1 v2 w1 hq' he' hav' haz hav q1 q2 q3 hi hE h9 k1 k2
  generalize subR b m p d now = B at *
  generalize subI b m p d now = I at *
  generalize subR (avB b k (ordAt b ((k : Int) + 1)) 5 0) m p d now = B1 at *
  generalize subI (avB b k (ordAt b ((k : Int) + 1)) 5 0) m p d now = I1 at *
  generalize avB b k (ordAt b ((k : Int) + 1)) 5 0 = B2 at *
  generalize subR (asR b m) m p d now = B3 at *
  generalize subI (asR b m) m p d now = I3 at *
  generalize asR b m = B4 at *
  generalize asI b m = I4 at *
  generalize takE b.cw b.cm m.w m.qo now = E at *
  rcases ht with rfl | rfl
  all_goals
  obtain ⟨c, hb, hl⟩ := l14
  refine pcall_of mixed e14 hb rfl hl r14 (by rw [n14]; simp) ?_
  clear hb hl c
  (try simp only [push_cast, seval, reduceCtorEq, k3, hj, hgd, hw, hz])
  repeat' (first
    | ((first | ((first | refine brX_split ?_ ?_ | refine gX_split ?_ ?_ | refine hX_split ?_ ?_ | refine outK_split ?_ ?_) <;> (intro xc; (try simp only [Bool.not_eq_true', Bool.not_eq_false'] at xc); have xp := xc; (try simp only [decide_eq_true_eq, decide_eq_false_iff_not, Int.not_lt, Int.not_le, ge_iff_le, gt_iff_lt, Bool.and_eq_true, Bool.or_eq_false_iff] at xp); have xq := xp; (first | simp only [← Int.not_le] at xq | simp only [← Int.not_lt] at xq | clear xq))) | refine ⟨.ret _, _, PCall.s (by first | assumption | exact alive_p) (by simp [push_cast, k3, hj, hgd, hw, hz]), ?_⟩ | refine ⟨.ret _, _, RCall.s (RCall.sh (by first | assumption | exact alive_p)) (by simp [push_cast, k3, hj, hgd, hw, hz]), ?_⟩ | refine ⟨_, _, SCall.lift (by first | assumption | exact alive_p) (outR_cl (by simp [push_cast]) (by simp [push_cast])) (by simp [push_cast, k3, hj, hgd, hw, hz]), ?_⟩ | refine ⟨_, (by first | assumption | exact alive_p), ?_⟩ | refine ⟨0, [], _, PCall.r (by first | assumption | exact alive_p), ?_⟩ | refine ⟨_, _, (by first | assumption | exact alive_p), ?_⟩ | refine ⟨_, _, _, RCall.sh (by first | assumption | exact alive_p), ?_⟩ | refine ⟨_, _, _, (by first | assumption | exact alive_p), ?_⟩ | ((fail_if_success (refine ⟨_, ?_, ?_⟩)); refine ⟨AV.any, ?_⟩) | refine ret_frz rfl ?_ (by simp [push_cast]) (by simp [push_cast, k3, hj, hgd, hw, hz]) (by simp [push_cast, k3, hj, hgd, hw, hz]) | refine end_frz rfl ?_ (by simp [push_cast]) (by simp [push_cast, k3, hj, hgd, hw, hz]) (by simp [push_cast, k3, hj, hgd, hw, hz]) | refine ret_now (by simp [push_cast]) ?_ (by simp [push_cast]) | refine end_now (by simp [push_cast]) ?_ (by simp [push_cast])) <;> (try simp only [push_cast, seval, reduceCtorEq, *, k3, hj, hgd, hw, hz]))
    | ((first | refine cv_ptE rfl rfl rfl rfl rfl ?_ | refine outQ_frz rfl ?_ (by simp [push_cast]) (by simp [push_cast, k3, hj, hgd, hw, hz]) | refine dfr_end (by simp) rfl ?_ (by simp [push_cast]) (by simp [push_cast, k3, hj, hgd, hw, hz])) <;> (try simp only [push_cast, seval, reduceCtorEq, k3, hj, hgd, hw, hz]))
    | exact cv_slE rfl rfl ⟨rfl, rfl⟩ (by simp) (by simp [take_map_len])
    | refine outQ_pan ?_ (by simp [push_cast])
    | refine outQ_unit ?_
    | refine outQ_unitN ?_
    | refine And.intro ?_ ?_
    | omega)
  all_goals (try simp only [push_cast, seval, reduceCtorEq, k3, hj, hgd, hw, hz])
  all_goals first
    | (simp only [*, k3, hj, hgd, hw, hz]; done)
    | (simp [*, k3, hj, hgd, hw, hz]; done)
    | (simp_all [k3, hj, hgd, hw, hz]; done)
    | (simp_all [k3, hj, hgd, hw, hz]; omega)
    | skip
end Go.Proofs.Ytffiicopifmmfaa
