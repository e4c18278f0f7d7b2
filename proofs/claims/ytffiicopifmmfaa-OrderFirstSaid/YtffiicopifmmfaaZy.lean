/- Facts of the program over abstract values. No condition. -/
import Derived.Test.YtffiicopifmmfaaZw
import Derived.Test.YtffiicopifmmfaaZs
import Derived.Test.YtffiicopifmmfaaOrAl4
set_option linter.unusedSimpArgs false
set_option linter.unusedVariables false
set_option maxRecDepth 8000
namespace Go.Proofs.Ytffiicopifmmfaa
set_option linter.unusedSimpArgs false
set_option linter.unusedVariables false
set_option linter.unnecessarySimpa false
set_option linter.unusedSectionVars false
open Go.Proofs.Try
open Go.Proofs.Ytffiicopifmmfaa.Ai
set_option maxHeartbeats 4000000
attribute [local push_cast] outK_ret outK_pan vis frs low oneR flId tgt w_skip w_ret w_exit w_seq x_cond w_block x_reg x_drw seqX_nil seqX_none seqX_some gX_1 gX_2 gX_3 gX_4 kS kP kG dX_nil dX_st dX_none dX_some hX_1 hX_2 calC kD_0 kD_1 kH iss_mv iss_pick iss_nc iss_alloc iss_box iss_build iss_bslice iss_ld iss_fa iss_fd iss_ias iss_iaa iss_ixa iss_ixs iss_ext iss_bin iss_eqb iss_eqn iss_not iss_neg iss_cv iss_b2s iss_s2b iss_mkf iss_mki iss_len iss_lens iss_cap iss_max2 iss_min2 iss_slc iss_sls iss_mks iss_app iss_eqv iss_cal iss_cav iss_pan iss_tas iss_eqi brX_true brX_false opR opG opD thn_n thn_r thn_e thn_p blk_n blk_r blk_e blk_p argE Ai.put Ai.next Ai.push prow pcond pval sv lv ev Ai.get beq_iff_eq cond_true cond_false AV.strip AV.live binC binV intC intV gv gvA norow pickC pickV sel ncC partsC partsV splice elemsC elemsV rdc rdv Ai.look Ai.over Ai.drop faC faV fdC fdV partV iasC iasV iaaC iaaV ixaC ixaV extC extV boolC intIs strIs eqbV notV negV cvV maxV minV lenV lenC eqaC eqaV eqvC eqvV skC skE stC stR AV.cells AV.known allLv intOr List.length_cons List.length_nil List.take_succ_cons List.take_zero List.drop_succ_cons List.drop_zero List.append_nil List.nil_append List.contains_nil List.contains_cons List.cons_append List.getD_cons_zero List.getD_cons_succ List.headD_cons List.set_cons_zero List.set_cons_succ List.replicate_succ List.replicate_zero List.map_cons List.map_nil Int.toNat_natCast true_and and_true Nat.zero_add Nat.add_zero Nat.zero_mul Nat.mul_one Nat.one_mul Bool.not_true Bool.not_false Bool.and_true Bool.and_false Bool.true_and Bool.false_and Nat.lt_add_one Nat.le_refl List.take_nil List.drop_nil true_implies false_implies List.mem_cons List.not_mem_nil or_false forall_eq_or_imp forall_eq ibne or_true true_or false_or and_false false_and ne_eq not_true_eq_false not_false_eq_true beq_true beq_false Bool.true_beq Bool.false_beq ibeq decide_true decide_false rvsC rvC rvV tupV cl_any cl_bool cl_int cl_str cl_nilp cl_nils cl_nilf cl_nili cl_nilm cl_roe cl_agg cl_tup cl_ros cl_rop cl_opt bel_any bel_bool bel_int bel_str bel_nilp bel_nils bel_nilf bel_nili bel_nilm bel_roe bel_agg bel_tup bel_ros bel_rop bel_opt bel_sl bel_pt beq_self_eq_true cvAll cv_refl cv_agg cv_tup cv_rop all2_cons all2_nil cv_bool cv_int cv_str cv_nilsR cv_ifc cv_opt List.length_map List.forall_mem_map appC appV appR appT elsC elsV one_int one_bool one_str one_nils one_ros one_sl cl_ros List.length_append List.mem_append or_imp forall_and take_map_len isIfc cl_ifc cl_fn bel_ifc bel_fn dfrQ dfrG_eq shR AV.sh fl_any fl_bool fl_int fl_str fl_nilp fl_nils fl_nilf fl_nili fl_nilm fl_roe fl_sl fl_pt fl_agg fl_tup fl_ifc flRows Bool.cond_true Bool.cond_false bits2 strC strV nilC nilV byteOf isByte bound boundL sliceC ixsC ixsV nilsIs s2bV s2bR lensV capC capV slcSz slsC slsV mksC sliceV tasC tasV ifcIs niliV shL shLL_cl shR_append accV_sh accR_sh le0 one_roe envAll rowsAll rowCv rhoA_0 rhoA_1 rhoA_2 cv_any cv_bool cv_int cv_str cv_nilp cv_nils cv_nilf cv_nili cv_nilm cv_agg cv_tup cv_rop cv_sl cv_pt cv_fn cv_ifc cv_opt bel_any bel_bool forall_const implies_true eq_self imp_self

/-! Assign empties the queue -/
theorem get_q {b : Bk} {m : Tm} (h : Fit b m) (id : Int) (h0 : ordE b m id = 0) : PCall prog 45 [.agg (tmc m), .agg (bkc b), .int .i64 id] (.tup [.agg (oc (ordAt b id)), .int .i64 0]) := by
  have := get_r h id
  simp only [h0, decide_true, cond_true] at this
  exact this
theorem as_zero {b : Bk} {m : Tm} (h : bookE b m = 0) (hq : b.q ≠ []) : asE b m = 0 := by
  obtain ⟨q1, q2, q3, q4⟩ := book0 h
  simp only [ordsB, queB, Bool.and_eq_true, decide_eq_true_eq] at q2 q3
  rcases hq' : b.q with _ | ⟨i, j⟩
  · exact absurd hq' hq
  have hm : i ∈ nwU isQ b.os b.os.length := by rw [← q3.2, hq']; simp
  have hb := (nwU_lt (p := isQ) (os := b.os) b.os.length).2 i hm
  obtain ⟨k, rfl⟩ : ∃ k : Nat, i = (k : Int) + 1 := ⟨(i - 1).toNat, by omega⟩
  obtain ⟨hk, hs⟩ := (nwU_mem _).1 hm
  obtain ⟨x, hx⟩ := lt_get hk
  have hxx : b.os.getD k default = x := by simp [List.getD, hx]
  rw [hxx] at hs
  have ho := okU_at hx q2.2
  simp only [okO, Bool.and_eq_true, decide_eq_true_eq] at ho
  simp only [isQ, decide_eq_true_eq] at hs
  have hc := ho.1.2
  rw [hs] at hc
  simp only [asE, h, hq', decide_true, cond_true, avE, ordE_in h hk, ordAt_in hx, advE, hc, hs]
  rfl
theorem ordAt_set {b : Bk} {k j : Nat} {o : O} {st now : Int} (hk : k < b.os.length) : ordAt (avB b k o st now) ((j : Int) + 1) = if j = k then advO o st now else ordAt b ((j : Int) + 1) := by
  simp only [ordAt, avB, show ((j : Int) + 1 - 1).toNat = j by omega]
  by_cases h : j = k
  · subst h; rw [getD_setS hk, if_pos rfl]
  · rw [getD_setN h, if_neg h]
theorem as_get {b : Bk} {m : Tm} (h : asE b m = 0) : ordE (asR b m) m (asI b m) = 0 ∧ (ordAt (asR b m) (asI b m)).s = 2 := by
  obtain ⟨v, k, hq, hi, he, ha⟩ := as_valid h
  obtain ⟨h0, hk, _⟩ := av0 ha
  have hlt : k < b.os.length := (List.getElem?_eq_some_iff.1 hk).1
  rw [hi]
  refine ⟨ordE_in v (by rw [he, avB_len]; exact hlt), ?_⟩
  rw [he, ordAt_set hlt, if_pos rfl]
  rfl
def fiU (b : Bk) (m : Tm) : Nat → Bk
  | 0 => b
  | k + 1 => asR (fiU b m k) m
theorem fi_inv {b : Bk} {m : Tm} (h : bookE b m = 0) : ∀ k, k ≤ b.q.length → bookE (fiU b m k) m = 0 ∧ (fiU b m k).q = b.q.drop k
  | 0, _ => ⟨h, rfl⟩
  | k + 1, hk => by
    obtain ⟨h1, h2⟩ := fi_inv h k (by omega)
    have ha : asE (fiU b m k) m = 0 := as_zero h1 (by rw [h2]; intro hn; have := congrArg List.length hn; simp at this; omega)
    obtain ⟨v, j, hq, _⟩ := as_valid ha
    refine ⟨v, ?_⟩
    have h3 : (fiU b m k).q.tail = b.q.drop (k + 1) := by rw [h2, List.tail_drop]
    rw [hq] at h3
    exact h3
theorem fi_round {b : Bk} {m : Tm} (h : bookE b m = 0) {k : Nat} {x : Int} (hx : b.q[k]? = some x) : asE (fiU b m k) m = 0 ∧ asI (fiU b m k) m = x ∧ (fiU b m (k + 1)).q.length = b.q.length - (k + 1) ∧ ordE (fiU b m (k + 1)) m x = 0 ∧ (ordAt (fiU b m (k + 1)) x).s = 2 := by
  have hk : k < b.q.length := (List.getElem?_eq_some_iff.1 hx).1
  obtain ⟨h1, h2⟩ := fi_inv h k (by omega)
  obtain ⟨h3, h4⟩ := fi_inv h (k + 1) (by omega)
  have hne : (fiU b m k).q ≠ [] := by rw [h2]; intro hn; have := congrArg List.length hn; simp at this; omega
  have ha := as_zero h1 hne
  obtain ⟨g1, g2⟩ := as_get ha
  have hi : asI (fiU b m k) m = x := by
    simp only [asI, ha, decide_true, cond_true, h2]
    rw [List.drop_eq_getElem_cons hk, List.headD_cons]
    exact (List.getElem?_eq_some_iff.1 hx).2
  rw [hi] at g1 g2
  exact ⟨ha, hi, by rw [h4]; simp, g1, g2⟩
theorem law_first (b : Bk) (m : Tm) (h : Fit b m) : PCall prog 11 [.agg (tmc m), .agg (bkc b)] (.bool true) := by
  have hv := refValidBook_p b m h
  have hc := checkBook_r h
  have ha := assign_p h
  by_cases h0 : bookE b m = 0
  case neg =>
    have he : asE b m = bookE b m := by simp [asE, h0]
    rw [he] at ha
    simp only [h0, decide_false] at hv
    generalize asR b m = B at *
    obtain ⟨c, hb, hl⟩ := l11
    refine pcall_of mixed e11 hb rfl hl r11 (by rw [n11]; simp) ?_
    clear hb hl c
    (try simp only [push_cast, Nat.reduceAdd, Nat.reduceBEq, Nat.reduceEqDiff, Nat.reduceMul, Nat.reducePow, Int.reduceBNe, Int.reduceBEq, Nat.reduceLT, Nat.reduceLeDiff, reduceCtorEq, reduceIte, Int.reduceLE, Int.reduceLT, Int.reduceGT, Int.reduceGE, Int.reduceNe, Int.reduceEq, Int.reduceToNat, h0])
    repeat' (first
      | ((first | refine brX_split ?_ ?_ | refine gX_split ?_ ?_ | refine hX_split ?_ ?_ | refine outK_split ?_ ?_) <;> (intro xc; (try simp only [Bool.not_eq_true', Bool.not_eq_false'] at xc); have xp := xc; (try simp only [decide_eq_true_eq, decide_eq_false_iff_not, Int.not_lt, Int.not_le, ge_iff_le, gt_iff_lt, Bool.and_eq_true, Bool.or_eq_false_iff] at xp); have xq := xp; (first | simp only [← Int.not_le] at xq | simp only [← Int.not_lt] at xq | clear xq)) <;> (try simp only [push_cast, Nat.reduceAdd, Nat.reduceBEq, Nat.reduceEqDiff, Nat.reduceMul, Nat.reducePow, Int.reduceBNe, Int.reduceBEq, Nat.reduceLT, Nat.reduceLeDiff, reduceCtorEq, reduceIte, Int.reduceLE, Int.reduceLT, Int.reduceGT, Int.reduceGE, Int.reduceNe, Int.reduceEq, Int.reduceToNat, *, h0]))
      | ((first | refine ⟨.ret _, _, PCall.s (by first | exact alive_p | exact hv | exact hc | exact ha) (by simp [push_cast, h0]), ?_⟩ | refine ⟨.ret _, _, RCall.s (RCall.sh (by first | exact alive_p | exact hv | exact hc | exact ha)) (by simp [push_cast, h0]), ?_⟩ | refine ⟨_, _, SCall.lift (by first | exact alive_p | exact hv | exact hc | exact ha) (outR_cl (by simp [push_cast]) (by simp [push_cast])) (by simp [push_cast, h0]), ?_⟩ | refine ⟨_, (by first | exact alive_p | exact hv | exact hc | exact ha), ?_⟩ | refine ⟨0, [], _, PCall.r (by first | exact alive_p | exact hv | exact hc | exact ha), ?_⟩ | refine ⟨_, _, (by first | exact alive_p | exact hv | exact hc | exact ha), ?_⟩ | refine ⟨_, _, _, RCall.sh (by first | exact alive_p | exact hv | exact hc | exact ha), ?_⟩ | refine ⟨_, _, _, (by first | exact alive_p | exact hv | exact hc | exact ha), ?_⟩ | ((fail_if_success (refine ⟨_, ?_, ?_⟩)); refine ⟨AV.any, ?_⟩) | refine ret_frz rfl ?_ (by simp [push_cast]) (by simp [push_cast, h0]) (by simp [push_cast, h0]) | refine end_frz rfl ?_ (by simp [push_cast]) (by simp [push_cast, h0]) (by simp [push_cast, h0]) | refine ret_now (by simp [push_cast]) ?_ (by simp [push_cast]) | refine end_now (by simp [push_cast]) ?_ (by simp [push_cast])) <;> (try simp only [push_cast, Nat.reduceAdd, Nat.reduceBEq, Nat.reduceEqDiff, Nat.reduceMul, Nat.reducePow, Int.reduceBNe, Int.reduceBEq, Nat.reduceLT, Nat.reduceLeDiff, reduceCtorEq, reduceIte, Int.reduceLE, Int.reduceLT, Int.reduceGT, Int.reduceGE, Int.reduceNe, Int.reduceEq, Int.reduceToNat, *, h0]))
      | ((first | refine cv_ptE rfl rfl rfl rfl rfl ?_ | refine outQ_frz rfl ?_ (by simp [push_cast]) (by simp [push_cast, h0]) | refine dfr_end (by simp) rfl ?_ (by simp [push_cast]) (by simp [push_cast, h0])) <;> (try simp only [push_cast, Nat.reduceAdd, Nat.reduceBEq, Nat.reduceEqDiff, Nat.reduceMul, Nat.reducePow, Int.reduceBNe, Int.reduceBEq, Nat.reduceLT, Nat.reduceLeDiff, reduceCtorEq, reduceIte, Int.reduceLE, Int.reduceLT, Int.reduceGT, Int.reduceGE, Int.reduceNe, Int.reduceEq, Int.reduceToNat, h0]))
      | exact cv_slE rfl rfl ⟨rfl, rfl⟩ (by simp) (by simp [take_map_len])
      | refine outQ_pan ?_ (by simp [push_cast])
      | refine outQ_unit ?_
      | refine outQ_unitN ?_
      | refine And.intro ?_ ?_
      | omega)
    all_goals (try simp only [push_cast, Nat.reduceAdd, Nat.reduceBEq, Nat.reduceEqDiff, Nat.reduceMul, Nat.reducePow, Int.reduceBNe, Int.reduceBEq, Nat.reduceLT, Nat.reduceLeDiff, reduceCtorEq, reduceIte, Int.reduceLE, Int.reduceLT, Int.reduceGT, Int.reduceGE, Int.reduceNe, Int.reduceEq, Int.reduceToNat, h0])
    all_goals first
      | (simp only [*, h0]; done)
      | (simp [*, h0]; done)
      | (simp_all [h0]; done)
      | (simp_all [h0]; omega)
      | skip
  simp only [h0, decide_true] at hv
  have hr := fun k x hx => fi_round h0 (k := k) (x := x) hx
  have hi := fun k hk => fi_inv h0 k hk
  have hl := (book0_len h0).2
  have hp : b.q.Pairwise (· < ·) := by
    obtain ⟨_, _, q3, _⟩ := book0 h0
    simp only [queB, Bool.and_eq_true, decide_eq_true_eq] at q3
    rw [q3.2]; exact (nwU_lt _).1
  have hf := h
  obtain ⟨B, hB⟩ : ∃ B : Bk, B = b := ⟨b, rfl⟩
  rw [← hB] at hr hi hl hp hf
  obtain ⟨os, q, cw, cm⟩ := b
  obtain ⟨c, hb, hl⟩ := l11
  refine pcall_of mixed e11 hb rfl hl r11 (by rw [n11]; simp) ?_
  clear hb hl c
  rcases q with _ | ⟨x, l⟩
  all_goals
  (try simp only [push_cast, Nat.reduceAdd, Nat.reduceBEq, Nat.reduceEqDiff, Nat.reduceMul, Nat.reducePow, Int.reduceBNe, Int.reduceBEq, Nat.reduceLT, Nat.reduceLeDiff, reduceCtorEq, reduceIte, Int.reduceLE, Int.reduceLT, Int.reduceGT, Int.reduceGE, Int.reduceNe, Int.reduceEq, Int.reduceToNat])
  repeat' (first
    | ((first | refine brX_split ?_ ?_ | refine gX_split ?_ ?_ | refine hX_split ?_ ?_ | refine outK_split ?_ ?_) <;> (intro xc; (try simp only [Bool.not_eq_true', Bool.not_eq_false'] at xc); have xp := xc; (try simp only [decide_eq_true_eq, decide_eq_false_iff_not, Int.not_lt, Int.not_le, ge_iff_le, gt_iff_lt, Bool.and_eq_true, Bool.or_eq_false_iff] at xp); have xq := xp; (first | simp only [← Int.not_le] at xq | simp only [← Int.not_lt] at xq | clear xq)) <;> (try simp only [push_cast, Nat.reduceAdd, Nat.reduceBEq, Nat.reduceEqDiff, Nat.reduceMul, Nat.reducePow, Int.reduceBNe, Int.reduceBEq, Nat.reduceLT, Nat.reduceLeDiff, reduceCtorEq, reduceIte, Int.reduceLE, Int.reduceLT, Int.reduceGT, Int.reduceGE, Int.reduceNe, Int.reduceEq, Int.reduceToNat, *]))
    | ((first | refine ⟨.ret _, _, PCall.s (by first | exact alive_p | exact hv) (by simp [push_cast]), ?_⟩ | refine ⟨.ret _, _, RCall.s (RCall.sh (by first | exact alive_p | exact hv)) (by simp [push_cast]), ?_⟩ | refine ⟨_, _, SCall.lift (by first | exact alive_p | exact hv) (outR_cl (by simp [push_cast]) (by simp [push_cast])) (by simp [push_cast]), ?_⟩ | refine ⟨_, (by first | exact alive_p | exact hv), ?_⟩ | refine ⟨0, [], _, PCall.r (by first | exact alive_p | exact hv), ?_⟩ | refine ⟨_, _, (by first | exact alive_p | exact hv), ?_⟩ | refine ⟨_, _, _, RCall.sh (by first | exact alive_p | exact hv), ?_⟩ | refine ⟨_, _, _, (by first | exact alive_p | exact hv), ?_⟩ | ((fail_if_success (refine ⟨_, ?_, ?_⟩)); refine ⟨AV.any, ?_⟩) | refine ret_frz rfl ?_ (by simp [push_cast]) (by simp [push_cast]) (by simp [push_cast]) | refine end_frz rfl ?_ (by simp [push_cast]) (by simp [push_cast]) (by simp [push_cast]) | refine ret_now (by simp [push_cast]) ?_ (by simp [push_cast]) | refine end_now (by simp [push_cast]) ?_ (by simp [push_cast])) <;> (try simp only [push_cast, Nat.reduceAdd, Nat.reduceBEq, Nat.reduceEqDiff, Nat.reduceMul, Nat.reducePow, Int.reduceBNe, Int.reduceBEq, Nat.reduceLT, Nat.reduceLeDiff, reduceCtorEq, reduceIte, Int.reduceLE, Int.reduceLT, Int.reduceGT, Int.reduceGE, Int.reduceNe, Int.reduceEq, Int.reduceToNat, *]))
    | ((first | refine cv_ptE rfl rfl rfl rfl rfl ?_ | refine outQ_frz rfl ?_ (by simp [push_cast]) (by simp [push_cast]) | refine dfr_end (by simp) rfl ?_ (by simp [push_cast]) (by simp [push_cast])) <;> (try simp only [push_cast, Nat.reduceAdd, Nat.reduceBEq, Nat.reduceEqDiff, Nat.reduceMul, Nat.reducePow, Int.reduceBNe, Int.reduceBEq, Nat.reduceLT, Nat.reduceLeDiff, reduceCtorEq, reduceIte, Int.reduceLE, Int.reduceLT, Int.reduceGT, Int.reduceGE, Int.reduceNe, Int.reduceEq, Int.reduceToNat]))
    | exact cv_slE rfl rfl ⟨rfl, rfl⟩ (by simp) (by simp [take_map_len])
    | refine outQ_pan ?_ (by simp [push_cast])
    | refine outQ_unit ?_
    | refine outQ_unitN ?_
    | refine And.intro ?_ ?_
    | omega)
  all_goals (try simp only [push_cast, Nat.reduceAdd, Nat.reduceBEq, Nat.reduceEqDiff, Nat.reduceMul, Nat.reducePow, Int.reduceBNe, Int.reduceBEq, Nat.reduceLT, Nat.reduceLeDiff, reduceCtorEq, reduceIte, Int.reduceLE, Int.reduceLT, Int.reduceGT, Int.reduceGE, Int.reduceNe, Int.reduceEq, Int.reduceToNat])
  all_goals first
    | (simp only [*]; done)
    | (simp [*]; done)
    | (simp_all []; done)
    | (simp_all []; omega)
    | skip
  all_goals
    refine w_loopS (fun k : Nat => ([(2, .pt 0 8 0 0), (3, .pt 1 4 0 0), (5, .bool true), (9, intsV B.q), (10, .int .i64 k)], ⟨2, [(0, ⟨8, [tmc m]⟩), (1, ⟨4, [bkc (fiU B m k)]⟩)]⟩)) (fun k => k ≤ B.q.length) (fun k => B.q.length - k) 0 (Nat.zero_le _) ?_ ?_
    · subst hB
      simp only [fiU]
      (apply Wk.renA (fun i => i == 10); (case he => (try simp only [push_cast, Nat.reduceBEq, Nat.reduceLeDiff, Nat.reduceAdd]); (repeat' (first | exact trivial | (refine cv_ptE rfl rfl rfl rfl rfl ?_; simp only [push_cast, Nat.reduceBEq, Nat.reduceLeDiff, Nat.reduceAdd]) | exact cv_slE rfl rfl ⟨rfl, rfl⟩ (by simp) (by simp [take_map_len]) | exact cv_slG rfl rfl ⟨rfl, rfl⟩ (by simp) (by first | rfl | (simp; done)) (by first | rfl | (simp; done) | (simp; omega)) (by simp [push_cast]) | exact cv_ros_self (by simp [push_cast]) | exact bel_ros_cl (by simp [push_cast]) | exact cellsCv_eq (by simp [take_map_len]) (by simp [push_cast]) | refine And.intro ?_ ?_ | rfl | omega | (simp; done) | (simp; omega)))); (case hr => (try simp only [push_cast, Nat.reduceBEq, Nat.reduceLeDiff, Nat.reduceAdd]); (repeat' (first | exact trivial | (refine cv_ptE rfl rfl rfl rfl rfl ?_; simp only [push_cast, Nat.reduceBEq, Nat.reduceLeDiff, Nat.reduceAdd]) | exact cv_slE rfl rfl ⟨rfl, rfl⟩ (by simp) (by simp [take_map_len]) | exact cv_slG rfl rfl ⟨rfl, rfl⟩ (by simp) (by first | rfl | (simp; done)) (by first | rfl | (simp; done) | (simp; omega)) (by simp [push_cast]) | exact cv_ros_self (by simp [push_cast]) | exact bel_ros_cl (by simp [push_cast]) | exact cellsCv_eq (by simp [take_map_len]) (by simp [push_cast]) | refine And.intro ?_ ?_ | rfl | omega | (simp; done) | (simp; omega)))); (case hinj => simp [rhoA_0, rhoA_1, rhoA_2]); all_goals exact 0)
    clear hv hc ha h0 h hB
    intro k hk
    rcases Nat.lt_or_ge k B.q.length with hk' | hk'
    · obtain ⟨x, hx⟩ := lt_get hk'
      obtain ⟨r1, r2, r3, r4, r5⟩ := hr k x hx
      have a1 : PCall prog 44 [.agg (tmc m), .agg (bkc (fiU B m k))] (.tup [.agg (bkc (fiU B m (k + 1))), .int .i64 x, .int .i64 0]) := by
        have := assign_p (fit_of hf (hi k hk).1)
        rw [r1, r2] at this
        exact this
      have g1 := get_q (fit_of hf (hi (k + 1) hk').1) x r4
      have hgx := getD_map (enc := intc) hx
      have hd := dlt hk'
      have hw := inc64 (k := k) (by omega)
      have hw2 : IntKind.i64.wrap ((B.q.length : Int) - k) = (B.q.length : Int) - k := IntWalk.i64_in _ (by omega)
      have hw3 : IntKind.i64.wrap ((B.q.length : Int) - k - 1) = (B.q.length : Int) - k - 1 := IntWalk.i64_in _ (by omega)
      have hn : (((fiU B m (k + 1)).q.length : Nat) : Int) = (B.q.length : Int) - k - 1 := by rw [r3]; omega
      clear r1 r2 r3 r4
      clear hr hi
      by_cases hk0 : 0 < k
      · obtain ⟨y, hy⟩ : ∃ y, B.q[k - 1]? = some y := ⟨_, List.getElem?_eq_getElem (by omega)⟩
        have hyx : y < x := by
          obtain ⟨i1, e1⟩ := List.getElem?_eq_some_iff.1 hx
          obtain ⟨i2, e2⟩ := List.getElem?_eq_some_iff.1 hy
          rw [← e1, ← e2]
          exact List.pairwise_iff_getElem.1 hp _ _ _ _ (by omega)
        have hgy := getD_map (enc := intc) hy
        have hd0 : decide ((0 : Int) < k) = true := by simp; omega
        have hw4 : IntKind.i64.wrap ((k : Int) - 1) = ((k - 1 : Nat) : Int) := by rw [IntWalk.i64_in _ (by omega)]; omega
        (try simp only [push_cast, Nat.reduceAdd, Nat.reduceBEq, Nat.reduceEqDiff, Nat.reduceMul, Nat.reducePow, Int.reduceBNe, Int.reduceBEq, Nat.reduceLT, Nat.reduceLeDiff, reduceCtorEq, reduceIte, Int.reduceLE, Int.reduceLT, Int.reduceGT, Int.reduceGE, Int.reduceNe, Int.reduceEq, Int.reduceToNat, hgx, hgy, hd, hw, hw2, hw3, hn, hd0, hw4, r5])
        repeat' (first
          | ((first | refine brX_split ?_ ?_ | refine gX_split ?_ ?_ | refine hX_split ?_ ?_ | refine outK_split ?_ ?_) <;> (intro xc; (try simp only [Bool.not_eq_true', Bool.not_eq_false'] at xc); have xp := xc; (try simp only [decide_eq_true_eq, decide_eq_false_iff_not, Int.not_lt, Int.not_le, ge_iff_le, gt_iff_lt, Bool.and_eq_true, Bool.or_eq_false_iff] at xp); have xq := xp; (first | simp only [← Int.not_le] at xq | simp only [← Int.not_lt] at xq | clear xq)) <;> (try simp only [push_cast, Nat.reduceAdd, Nat.reduceBEq, Nat.reduceEqDiff, Nat.reduceMul, Nat.reducePow, Int.reduceBNe, Int.reduceBEq, Nat.reduceLT, Nat.reduceLeDiff, reduceCtorEq, reduceIte, Int.reduceLE, Int.reduceLT, Int.reduceGT, Int.reduceGE, Int.reduceNe, Int.reduceEq, Int.reduceToNat, *, hgx, hgy, hd, hw, hw2, hw3, hn, hd0, hw4, r5]))
          | ((first | refine ⟨.ret _, _, PCall.s (by first | exact a1 | exact g1) (by simp [push_cast, hgx, hgy, hd, hw, hw2, hw3, hn, hd0, hw4, r5]), ?_⟩ | refine ⟨.ret _, _, RCall.s (RCall.sh (by first | exact a1 | exact g1)) (by simp [push_cast, hgx, hgy, hd, hw, hw2, hw3, hn, hd0, hw4, r5]), ?_⟩ | refine ⟨_, _, SCall.lift (by first | exact a1 | exact g1) (outR_cl (by simp [push_cast]) (by simp [push_cast])) (by simp [push_cast, hgx, hgy, hd, hw, hw2, hw3, hn, hd0, hw4, r5]), ?_⟩ | refine ⟨_, (by first | exact a1 | exact g1), ?_⟩ | refine ⟨0, [], _, PCall.r (by first | exact a1 | exact g1), ?_⟩ | refine ⟨_, _, (by first | exact a1 | exact g1), ?_⟩ | refine ⟨_, _, _, RCall.sh (by first | exact a1 | exact g1), ?_⟩ | refine ⟨_, _, _, (by first | exact a1 | exact g1), ?_⟩ | ((fail_if_success (refine ⟨_, ?_, ?_⟩)); refine ⟨AV.any, ?_⟩) | refine ret_frz rfl ?_ (by simp [push_cast]) (by simp [push_cast, hgx, hgy, hd, hw, hw2, hw3, hn, hd0, hw4, r5]) (by simp [push_cast, hgx, hgy, hd, hw, hw2, hw3, hn, hd0, hw4, r5]) | refine end_frz rfl ?_ (by simp [push_cast]) (by simp [push_cast, hgx, hgy, hd, hw, hw2, hw3, hn, hd0, hw4, r5]) (by simp [push_cast, hgx, hgy, hd, hw, hw2, hw3, hn, hd0, hw4, r5]) | refine ret_now (by simp [push_cast]) ?_ (by simp [push_cast]) | refine end_now (by simp [push_cast]) ?_ (by simp [push_cast])) <;> (try simp only [push_cast, Nat.reduceAdd, Nat.reduceBEq, Nat.reduceEqDiff, Nat.reduceMul, Nat.reducePow, Int.reduceBNe, Int.reduceBEq, Nat.reduceLT, Nat.reduceLeDiff, reduceCtorEq, reduceIte, Int.reduceLE, Int.reduceLT, Int.reduceGT, Int.reduceGE, Int.reduceNe, Int.reduceEq, Int.reduceToNat, *, hgx, hgy, hd, hw, hw2, hw3, hn, hd0, hw4, r5]))
          | ((first | refine cv_ptE rfl rfl rfl rfl rfl ?_ | refine outQ_frz rfl ?_ (by simp [push_cast]) (by simp [push_cast, hgx, hgy, hd, hw, hw2, hw3, hn, hd0, hw4, r5]) | refine dfr_end (by simp) rfl ?_ (by simp [push_cast]) (by simp [push_cast, hgx, hgy, hd, hw, hw2, hw3, hn, hd0, hw4, r5])) <;> (try simp only [push_cast, Nat.reduceAdd, Nat.reduceBEq, Nat.reduceEqDiff, Nat.reduceMul, Nat.reducePow, Int.reduceBNe, Int.reduceBEq, Nat.reduceLT, Nat.reduceLeDiff, reduceCtorEq, reduceIte, Int.reduceLE, Int.reduceLT, Int.reduceGT, Int.reduceGE, Int.reduceNe, Int.reduceEq, Int.reduceToNat, hgx, hgy, hd, hw, hw2, hw3, hn, hd0, hw4, r5]))
          | exact cv_slE rfl rfl ⟨rfl, rfl⟩ (by simp) (by simp [take_map_len])
          | refine outQ_pan ?_ (by simp [push_cast])
          | refine outQ_unit ?_
          | refine outQ_unitN ?_
          | refine And.intro ?_ ?_
          | omega)
        all_goals (try simp only [push_cast, Nat.reduceAdd, Nat.reduceBEq, Nat.reduceEqDiff, Nat.reduceMul, Nat.reducePow, Int.reduceBNe, Int.reduceBEq, Nat.reduceLT, Nat.reduceLeDiff, reduceCtorEq, reduceIte, Int.reduceLE, Int.reduceLT, Int.reduceGT, Int.reduceGE, Int.reduceNe, Int.reduceEq, Int.reduceToNat, hgx, hgy, hd, hw, hw2, hw3, hn, hd0, hw4, r5])
        all_goals first
          | (simp only [*, hgx, hgy, hd, hw, hw2, hw3, hn, hd0, hw4, r5]; done)
          | (simp [*, hgx, hgy, hd, hw, hw2, hw3, hn, hd0, hw4, r5]; done)
          | (simp_all [hgx, hgy, hd, hw, hw2, hw3, hn, hd0, hw4, r5]; done)
          | (simp_all [hgx, hgy, hd, hw, hw2, hw3, hn, hd0, hw4, r5]; omega)
          | skip
        all_goals
        (refine rnd_to _ _ _ (k + 1) hk' (by first | omega | (dsimp only; omega)) ?_; refine Wk.ren (fun _ => false) (fun i => i) (by simp) (by simp) ?_ ?_ (by simp) <;> (try simp only [push_cast, Nat.reduceBEq, Nat.reduceLeDiff, Nat.reduceAdd]) <;> (repeat' (first | exact trivial | (refine cv_ptE rfl rfl rfl rfl rfl ?_; simp only [push_cast, Nat.reduceBEq, Nat.reduceLeDiff, Nat.reduceAdd]) | exact cv_slE rfl rfl ⟨rfl, rfl⟩ (by simp) (by simp [take_map_len]) | exact cv_slG rfl rfl ⟨rfl, rfl⟩ (by simp) (by first | rfl | (simp; done)) (by first | rfl | (simp; done) | (simp; omega)) (by simp [push_cast]) | exact cv_ros_self (by simp [push_cast]) | exact bel_ros_cl (by simp [push_cast]) | exact cellsCv_eq (by simp [take_map_len]) (by simp [push_cast]) | refine And.intro ?_ ?_ | rfl | omega | (simp; done) | (simp; omega))))
      · have hd0 : decide ((0 : Int) < k) = false := by simp; omega
        have hw4 : IntKind.i64.wrap ((k : Int) - 1) = -1 := by rw [IntWalk.i64_in _ (by omega)]; omega
        have hg0 : (B.q.map intc).getD 0 [] = intc x := by rw [← hgx, show k = 0 by omega]
        (try simp only [push_cast, Nat.reduceAdd, Nat.reduceBEq, Nat.reduceEqDiff, Nat.reduceMul, Nat.reducePow, Int.reduceBNe, Int.reduceBEq, Nat.reduceLT, Nat.reduceLeDiff, reduceCtorEq, reduceIte, Int.reduceLE, Int.reduceLT, Int.reduceGT, Int.reduceGE, Int.reduceNe, Int.reduceEq, Int.reduceToNat, hgx, hg0, hd, hw, hw2, hw3, hn, hd0, hw4, r5])
        repeat' (first
          | ((first | refine brX_split ?_ ?_ | refine gX_split ?_ ?_ | refine hX_split ?_ ?_ | refine outK_split ?_ ?_) <;> (intro xc; (try simp only [Bool.not_eq_true', Bool.not_eq_false'] at xc); have xp := xc; (try simp only [decide_eq_true_eq, decide_eq_false_iff_not, Int.not_lt, Int.not_le, ge_iff_le, gt_iff_lt, Bool.and_eq_true, Bool.or_eq_false_iff] at xp); have xq := xp; (first | simp only [← Int.not_le] at xq | simp only [← Int.not_lt] at xq | clear xq)) <;> (try simp only [push_cast, Nat.reduceAdd, Nat.reduceBEq, Nat.reduceEqDiff, Nat.reduceMul, Nat.reducePow, Int.reduceBNe, Int.reduceBEq, Nat.reduceLT, Nat.reduceLeDiff, reduceCtorEq, reduceIte, Int.reduceLE, Int.reduceLT, Int.reduceGT, Int.reduceGE, Int.reduceNe, Int.reduceEq, Int.reduceToNat, *, hgx, hg0, hd, hw, hw2, hw3, hn, hd0, hw4, r5]))
          | ((first | refine ⟨.ret _, _, PCall.s (by first | exact a1 | exact g1) (by simp [push_cast, hgx, hg0, hd, hw, hw2, hw3, hn, hd0, hw4, r5]), ?_⟩ | refine ⟨.ret _, _, RCall.s (RCall.sh (by first | exact a1 | exact g1)) (by simp [push_cast, hgx, hg0, hd, hw, hw2, hw3, hn, hd0, hw4, r5]), ?_⟩ | refine ⟨_, _, SCall.lift (by first | exact a1 | exact g1) (outR_cl (by simp [push_cast]) (by simp [push_cast])) (by simp [push_cast, hgx, hg0, hd, hw, hw2, hw3, hn, hd0, hw4, r5]), ?_⟩ | refine ⟨_, (by first | exact a1 | exact g1), ?_⟩ | refine ⟨0, [], _, PCall.r (by first | exact a1 | exact g1), ?_⟩ | refine ⟨_, _, (by first | exact a1 | exact g1), ?_⟩ | refine ⟨_, _, _, RCall.sh (by first | exact a1 | exact g1), ?_⟩ | refine ⟨_, _, _, (by first | exact a1 | exact g1), ?_⟩ | ((fail_if_success (refine ⟨_, ?_, ?_⟩)); refine ⟨AV.any, ?_⟩) | refine ret_frz rfl ?_ (by simp [push_cast]) (by simp [push_cast, hgx, hg0, hd, hw, hw2, hw3, hn, hd0, hw4, r5]) (by simp [push_cast, hgx, hg0, hd, hw, hw2, hw3, hn, hd0, hw4, r5]) | refine end_frz rfl ?_ (by simp [push_cast]) (by simp [push_cast, hgx, hg0, hd, hw, hw2, hw3, hn, hd0, hw4, r5]) (by simp [push_cast, hgx, hg0, hd, hw, hw2, hw3, hn, hd0, hw4, r5]) | refine ret_now (by simp [push_cast]) ?_ (by simp [push_cast]) | refine end_now (by simp [push_cast]) ?_ (by simp [push_cast])) <;> (try simp only [push_cast, Nat.reduceAdd, Nat.reduceBEq, Nat.reduceEqDiff, Nat.reduceMul, Nat.reducePow, Int.reduceBNe, Int.reduceBEq, Nat.reduceLT, Nat.reduceLeDiff, reduceCtorEq, reduceIte, Int.reduceLE, Int.reduceLT, Int.reduceGT, Int.reduceGE, Int.reduceNe, Int.reduceEq, Int.reduceToNat, *, hgx, hg0, hd, hw, hw2, hw3, hn, hd0, hw4, r5]))
          | ((first | refine cv_ptE rfl rfl rfl rfl rfl ?_ | refine outQ_frz rfl ?_ (by simp [push_cast]) (by simp [push_cast, hgx, hg0, hd, hw, hw2, hw3, hn, hd0, hw4, r5]) | refine dfr_end (by simp) rfl ?_ (by simp [push_cast]) (by simp [push_cast, hgx, hg0, hd, hw, hw2, hw3, hn, hd0, hw4, r5])) <;> (try simp only [push_cast, Nat.reduceAdd, Nat.reduceBEq, Nat.reduceEqDiff, Nat.reduceMul, Nat.reducePow, Int.reduceBNe, Int.reduceBEq, Nat.reduceLT, Nat.reduceLeDiff, reduceCtorEq, reduceIte, Int.reduceLE, Int.reduceLT, Int.reduceGT, Int.reduceGE, Int.reduceNe, Int.reduceEq, Int.reduceToNat, hgx, hg0, hd, hw, hw2, hw3, hn, hd0, hw4, r5]))
          | exact cv_slE rfl rfl ⟨rfl, rfl⟩ (by simp) (by simp [take_map_len])
          | refine outQ_pan ?_ (by simp [push_cast])
          | refine outQ_unit ?_
          | refine outQ_unitN ?_
          | refine And.intro ?_ ?_
          | omega)
        all_goals (try simp only [push_cast, Nat.reduceAdd, Nat.reduceBEq, Nat.reduceEqDiff, Nat.reduceMul, Nat.reducePow, Int.reduceBNe, Int.reduceBEq, Nat.reduceLT, Nat.reduceLeDiff, reduceCtorEq, reduceIte, Int.reduceLE, Int.reduceLT, Int.reduceGT, Int.reduceGE, Int.reduceNe, Int.reduceEq, Int.reduceToNat, hgx, hg0, hd, hw, hw2, hw3, hn, hd0, hw4, r5])
        all_goals first
          | (simp only [*, hgx, hg0, hd, hw, hw2, hw3, hn, hd0, hw4, r5]; done)
          | (simp [*, hgx, hg0, hd, hw, hw2, hw3, hn, hd0, hw4, r5]; done)
          | (simp_all [hgx, hg0, hd, hw, hw2, hw3, hn, hd0, hw4, r5]; done)
          | (simp_all [hgx, hg0, hd, hw, hw2, hw3, hn, hd0, hw4, r5]; omega)
          | skip
        all_goals
        (refine rnd_to _ _ _ (k + 1) hk' (by first | omega | (dsimp only; omega)) ?_; refine Wk.ren (fun _ => false) (fun i => i) (by simp) (by simp) ?_ ?_ (by simp) <;> (try simp only [push_cast, Nat.reduceBEq, Nat.reduceLeDiff, Nat.reduceAdd]) <;> (repeat' (first | exact trivial | (refine cv_ptE rfl rfl rfl rfl rfl ?_; simp only [push_cast, Nat.reduceBEq, Nat.reduceLeDiff, Nat.reduceAdd]) | exact cv_slE rfl rfl ⟨rfl, rfl⟩ (by simp) (by simp [take_map_len]) | exact cv_slG rfl rfl ⟨rfl, rfl⟩ (by simp) (by first | rfl | (simp; done)) (by first | rfl | (simp; done) | (simp; omega)) (by simp [push_cast]) | exact cv_ros_self (by simp [push_cast]) | exact bel_ros_cl (by simp [push_cast]) | exact cellsCv_eq (by simp [take_map_len]) (by simp [push_cast]) | refine And.intro ?_ ?_ | rfl | omega | (simp; done) | (simp; omega))))
    · have hd := dge hk'
      obtain rfl : k = B.q.length := by omega
      have h1 := hi B.q.length (Nat.le_refl _)
      have he : asE (fiU B m B.q.length) m = 6 := by
        have h2 := h1.2
        rw [List.drop_length] at h2
        simp [asE, h1.1, h2]
      have a1 := assign_p (fit_of hf h1.1)
      rw [he] at a1
      clear h1 he hi hr
      generalize asR (fiU B m B.q.length) m = C at *
      (try simp only [push_cast, Nat.reduceAdd, Nat.reduceBEq, Nat.reduceEqDiff, Nat.reduceMul, Nat.reducePow, Int.reduceBNe, Int.reduceBEq, Nat.reduceLT, Nat.reduceLeDiff, reduceCtorEq, reduceIte, Int.reduceLE, Int.reduceLT, Int.reduceGT, Int.reduceGE, Int.reduceNe, Int.reduceEq, Int.reduceToNat, hd])
      repeat' (first
        | ((first | refine brX_split ?_ ?_ | refine gX_split ?_ ?_ | refine hX_split ?_ ?_ | refine outK_split ?_ ?_) <;> (intro xc; (try simp only [Bool.not_eq_true', Bool.not_eq_false'] at xc); have xp := xc; (try simp only [decide_eq_true_eq, decide_eq_false_iff_not, Int.not_lt, Int.not_le, ge_iff_le, gt_iff_lt, Bool.and_eq_true, Bool.or_eq_false_iff] at xp); have xq := xp; (first | simp only [← Int.not_le] at xq | simp only [← Int.not_lt] at xq | clear xq)) <;> (try simp only [push_cast, Nat.reduceAdd, Nat.reduceBEq, Nat.reduceEqDiff, Nat.reduceMul, Nat.reducePow, Int.reduceBNe, Int.reduceBEq, Nat.reduceLT, Nat.reduceLeDiff, reduceCtorEq, reduceIte, Int.reduceLE, Int.reduceLT, Int.reduceGT, Int.reduceGE, Int.reduceNe, Int.reduceEq, Int.reduceToNat, *, hd]))
        | ((first | refine ⟨.ret _, _, PCall.s (by first | exact a1) (by simp [push_cast, hd]), ?_⟩ | refine ⟨.ret _, _, RCall.s (RCall.sh (by first | exact a1)) (by simp [push_cast, hd]), ?_⟩ | refine ⟨_, _, SCall.lift (by first | exact a1) (outR_cl (by simp [push_cast]) (by simp [push_cast])) (by simp [push_cast, hd]), ?_⟩ | refine ⟨_, (by first | exact a1), ?_⟩ | refine ⟨0, [], _, PCall.r (by first | exact a1), ?_⟩ | refine ⟨_, _, (by first | exact a1), ?_⟩ | refine ⟨_, _, _, RCall.sh (by first | exact a1), ?_⟩ | refine ⟨_, _, _, (by first | exact a1), ?_⟩ | ((fail_if_success (refine ⟨_, ?_, ?_⟩)); refine ⟨AV.any, ?_⟩) | refine ret_frz rfl ?_ (by simp [push_cast]) (by simp [push_cast, hd]) (by simp [push_cast, hd]) | refine end_frz rfl ?_ (by simp [push_cast]) (by simp [push_cast, hd]) (by simp [push_cast, hd]) | refine ret_now (by simp [push_cast]) ?_ (by simp [push_cast]) | refine end_now (by simp [push_cast]) ?_ (by simp [push_cast])) <;> (try simp only [push_cast, Nat.reduceAdd, Nat.reduceBEq, Nat.reduceEqDiff, Nat.reduceMul, Nat.reducePow, Int.reduceBNe, Int.reduceBEq, Nat.reduceLT, Nat.reduceLeDiff, reduceCtorEq, reduceIte, Int.reduceLE, Int.reduceLT, Int.reduceGT, Int.reduceGE, Int.reduceNe, Int.reduceEq, Int.reduceToNat, *, hd]))
        | ((first | refine cv_ptE rfl rfl rfl rfl rfl ?_ | refine outQ_frz rfl ?_ (by simp [push_cast]) (by simp [push_cast, hd]) | refine dfr_end (by simp) rfl ?_ (by simp [push_cast]) (by simp [push_cast, hd])) <;> (try simp only [push_cast, Nat.reduceAdd, Nat.reduceBEq, Nat.reduceEqDiff, Nat.reduceMul, Nat.reducePow, Int.reduceBNe, Int.reduceBEq, Nat.reduceLT, Nat.reduceLeDiff, reduceCtorEq, reduceIte, Int.reduceLE, Int.reduceLT, Int.reduceGT, Int.reduceGE, Int.reduceNe, Int.reduceEq, Int.reduceToNat, hd]))
        | exact cv_slE rfl rfl ⟨rfl, rfl⟩ (by simp) (by simp [take_map_len])
        | refine outQ_pan ?_ (by simp [push_cast])
        | refine outQ_unit ?_
        | refine outQ_unitN ?_
        | refine And.intro ?_ ?_
        | omega)
      all_goals (try simp only [push_cast, Nat.reduceAdd, Nat.reduceBEq, Nat.reduceEqDiff, Nat.reduceMul, Nat.reducePow, Int.reduceBNe, Int.reduceBEq, Nat.reduceLT, Nat.reduceLeDiff, reduceCtorEq, reduceIte, Int.reduceLE, Int.reduceLT, Int.reduceGT, Int.reduceGE, Int.reduceNe, Int.reduceEq, Int.reduceToNat, hd])
      all_goals first
        | (simp only [*, hd]; done)
        | (simp [*, hd]; done)
        | (simp_all [hd]; done)
        | (simp_all [hd]; omega)
        | skip
end Go.Proofs.Ytffiicopifmmfaa
