/- Facts of the program over abstract values. No condition. -/
import Derived.Test.YtffiicopifmmfaaZq
set_option linter.unusedSimpArgs false
set_option maxRecDepth 8000
namespace Go.Proofs.Ytffiicopifmmfaa
set_option linter.unusedSimpArgs false
set_option linter.unusedVariables false
set_option linter.unnecessarySimpa false
set_option linter.unusedSectionVars false
open Go.Proofs.Try
open Go.Proofs.Ytffiicopifmmfaa.Ai
set_option maxHeartbeats 4000000
attribute [local push_cast] outK_ret outK_pan vis frs low oneR flId tgt w_skip w_ret w_exit w_seq x_cond w_block x_reg x_drw seqX_nil seqX_none seqX_some gX_1 gX_2 gX_3 gX_4 kS kP kG dX_nil dX_st dX_none dX_some hX_1 hX_2 calC kD_0 kD_1 kH iss_mv iss_pick iss_nc iss_alloc iss_box iss_build iss_bslice iss_ld iss_fa iss_fd iss_ias iss_iaa iss_ixa iss_ixs iss_ext iss_bin iss_eqb iss_eqn iss_not iss_neg iss_cv iss_b2s iss_s2b iss_mkf iss_mki iss_len iss_lens iss_cap iss_max2 iss_min2 iss_slc iss_sls iss_mks iss_app iss_eqv iss_cal iss_cav iss_pan iss_tas iss_eqi brX_true brX_false opR opG opD thn_n thn_r thn_e thn_p blk_n blk_r blk_e blk_p argE Ai.put Ai.next Ai.push prow pcond pval sv lv ev Ai.get beq_iff_eq cond_true cond_false AV.strip AV.live binC binV intC intV gv gvA norow pickC pickV sel ncC partsC partsV splice elemsC elemsV rdc rdv Ai.look Ai.over Ai.drop faC faV fdC fdV partV iasC iasV iaaC iaaV ixaC ixaV extC extV boolC intIs strIs eqbV notV negV cvV maxV minV lenV lenC eqaC eqaV eqvC eqvV skC skE stC stR AV.cells AV.known allLv intOr List.length_cons List.length_nil List.take_succ_cons List.take_zero List.drop_succ_cons List.drop_zero List.append_nil List.nil_append List.contains_nil List.contains_cons List.cons_append List.getD_cons_zero List.getD_cons_succ List.headD_cons List.set_cons_zero List.set_cons_succ List.replicate_succ List.replicate_zero List.map_cons List.map_nil Int.toNat_natCast true_and and_true Nat.zero_add Nat.add_zero Nat.zero_mul Nat.mul_one Nat.one_mul Bool.not_true Bool.not_false Bool.and_true Bool.and_false Bool.true_and Bool.false_and Nat.lt_add_one Nat.le_refl List.take_nil List.drop_nil true_implies false_implies List.mem_cons List.not_mem_nil or_false forall_eq_or_imp forall_eq ibne or_true true_or false_or and_false false_and ne_eq not_true_eq_false not_false_eq_true beq_true beq_false Bool.true_beq Bool.false_beq ibeq decide_true decide_false rvsC rvC rvV tupV cl_any cl_bool cl_int cl_str cl_nilp cl_nils cl_nilf cl_nili cl_nilm cl_roe cl_agg cl_tup cl_ros cl_rop cl_opt bel_any bel_bool bel_int bel_str bel_nilp bel_nils bel_nilf bel_nili bel_nilm bel_roe bel_agg bel_tup bel_ros bel_rop bel_opt bel_sl bel_pt beq_self_eq_true cvAll cv_refl cv_agg cv_tup cv_rop all2_cons all2_nil cv_bool cv_int cv_str cv_nilsR cv_ifc cv_opt List.length_map List.forall_mem_map appC appV appR appT elsC elsV one_int one_bool one_str one_nils one_ros one_sl cl_ros List.length_append List.mem_append or_imp forall_and take_map_len isIfc cl_ifc cl_fn bel_ifc bel_fn dfrQ dfrG_eq shR AV.sh fl_any fl_bool fl_int fl_str fl_nilp fl_nils fl_nilf fl_nili fl_nilm fl_roe fl_sl fl_pt fl_agg fl_tup fl_ifc flRows Bool.cond_true Bool.cond_false bits2 strC strV nilC nilV byteOf isByte bound boundL sliceC ixsC ixsV nilsIs s2bV s2bR lensV capC capV slcSz slsC slsV mksC sliceV tasC tasV ifcIs niliV shL shLL_cl shR_append accV_sh accR_sh le0 one_roe envAll rowsAll rowCv rhoA_0 rhoA_1 rhoA_2 cv_any cv_bool cv_int cv_str cv_nilp cv_nils cv_nilf cv_nili cv_nilm cv_agg cv_tup cv_rop cv_sl cv_pt cv_fn cv_ifc cv_opt bel_any bel_bool forall_const implies_true eq_self imp_self

def okR (m : Tm) (k : Nat) (o : O) : Bool := decide (o.i = (k : Int) + 1) && orderB o.i o.p o.d o.s o.a o.f && decide (o.p < m.p.length) && decide (o.d < m.d.length)
theorem okR_eq (m : Tm) (k : Nat) (o : O) : okR m k o = okO m k o := by
  obtain ⟨i, p, d, s, a, f⟩ := o
  simp only [okR, okO, spotsB, chkE]
  by_cases h : orderB i p d s a f = true
  case neg =>
    have h : orderB i p d s a f = false := by simpa using h
    simp [h]
  · have hh := h
    simp only [orderB, inB, Bool.and_eq_true, decide_eq_true_eq] at hh
    simp only [h, cond_true, decide_true, Bool.and_true]
    rw [Bool.eq_iff_iff]
    simp only [inB, Bool.and_eq_true, decide_eq_true_eq]
    omega
def preB (b : Bk) (m : Tm) : Bool := teamB m && decide ((b.os.length : Int) ≤ 64) && decide ((b.q.length : Int) ≤ m.qu) && decide (cntE b.cw b.cm m.w m.qo = 0)
theorem valid_eq (b : Bk) (m : Tm) : decide (bookE b m = 0) = (preB b m && okU m b.os b.os.length && decide (b.q = qiU b.os b.os.length)) := by
  unfold bookE preB ordsB queB
  cases h : okU m b.os b.os.length
  · cases teamB m <;> simp
  · rw [qiU_nw _ (Nat.le_refl _) h]
    generalize decide ((b.os.length : Int) ≤ 64) = x1
    generalize decide ((b.q.length : Int) ≤ m.qu) = x2
    generalize decide (b.q = nwU isQ b.os b.os.length) = x4
    cases teamB m <;> cases x1 <;> cases x2 <;> cases x4 <;> by_cases h3 : cntE b.cw b.cm m.w m.qo = 0 <;> simp [h3]
theorem refValidBook_p (b : Bk) (m : Tm) (h : Fit b m) : PCall prog 43 [.agg (tmc m), .agg (bkc b)] (.bool (decide (bookE b m = 0))) := by
  rw [valid_eq]
  have f1 := h.q
  obtain ⟨os, q, cw, cm⟩ := b
  simp only at f1
  obtain ⟨c, hb, hl⟩ := l43
  refine pcall_of mixed e43 hb rfl hl r43 (by rw [n43]; simp) ?_
  clear hb hl c
  (try simp only [push_cast, Nat.reduceAdd, Nat.reduceBEq, Nat.reduceEqDiff, Nat.reduceMul, Nat.reducePow, Int.reduceBNe, Int.reduceBEq, Nat.reduceLT, Nat.reduceLeDiff, reduceCtorEq, reduceIte, Int.reduceLE, Int.reduceLT, Int.reduceGT, Int.reduceGE, Int.reduceNe, Int.reduceEq, Int.reduceToNat])
  repeat' (first
    | ((first | refine brX_split ?_ ?_ | refine gX_split ?_ ?_ | refine hX_split ?_ ?_ | refine outK_split ?_ ?_) <;> (intro xc; (try simp only [Bool.not_eq_true', Bool.not_eq_false'] at xc); have xp := xc; (try simp only [decide_eq_true_eq, decide_eq_false_iff_not, Int.not_lt, Int.not_le, ge_iff_le, gt_iff_lt, Bool.and_eq_true, Bool.or_eq_false_iff] at xp); have xq := xp; (first | simp only [← Int.not_le] at xq | simp only [← Int.not_lt] at xq | clear xq)) <;> (try simp only [push_cast, Nat.reduceAdd, Nat.reduceBEq, Nat.reduceEqDiff, Nat.reduceMul, Nat.reducePow, Int.reduceBNe, Int.reduceBEq, Nat.reduceLT, Nat.reduceLeDiff, reduceCtorEq, reduceIte, Int.reduceLE, Int.reduceLT, Int.reduceGT, Int.reduceGE, Int.reduceNe, Int.reduceEq, Int.reduceToNat, *]))
    | ((first | refine ⟨.ret _, _, PCall.s (by first | exact refNumbers_p _ | exact refCount_p _ _ _ _) (by simp [push_cast]), ?_⟩ | refine ⟨.ret _, _, RCall.s (RCall.sh (by first | exact refNumbers_p _ | exact refCount_p _ _ _ _)) (by simp [push_cast]), ?_⟩ | refine ⟨_, _, SCall.lift (by first | exact refNumbers_p _ | exact refCount_p _ _ _ _) (outR_cl (by simp [push_cast]) (by simp [push_cast])) (by simp [push_cast]), ?_⟩ | refine ⟨_, (by first | exact refNumbers_p _ | exact refCount_p _ _ _ _), ?_⟩ | refine ⟨0, [], _, PCall.r (by first | exact refNumbers_p _ | exact refCount_p _ _ _ _), ?_⟩ | refine ⟨_, _, (by first | exact refNumbers_p _ | exact refCount_p _ _ _ _), ?_⟩ | refine ⟨_, _, _, RCall.sh (by first | exact refNumbers_p _ | exact refCount_p _ _ _ _), ?_⟩ | refine ⟨_, _, _, (by first | exact refNumbers_p _ | exact refCount_p _ _ _ _), ?_⟩ | ((fail_if_success (refine ⟨_, ?_, ?_⟩)); refine ⟨AV.any, ?_⟩) | refine ret_frz rfl ?_ (by simp [push_cast]) (by simp [push_cast]) (by simp [push_cast]) | refine end_frz rfl ?_ (by simp [push_cast]) (by simp [push_cast]) (by simp [push_cast]) | refine ret_now (by simp [push_cast]) ?_ (by simp [push_cast]) | refine end_now (by simp [push_cast]) ?_ (by simp [push_cast])) <;> (try simp only [push_cast, Nat.reduceAdd, Nat.reduceBEq, Nat.reduceEqDiff, Nat.reduceMul, Nat.reducePow, Int.reduceBNe, Int.reduceBEq, Nat.reduceLT, Nat.reduceLeDiff, reduceCtorEq, reduceIte, Int.reduceLE, Int.reduceLT, Int.reduceGT, Int.reduceGE, Int.reduceNe, Int.reduceEq, Int.reduceToNat, *]))
    | ((first | refine cv_ptE rfl rfl rfl rfl rfl ?_ | refine outQ_frz rfl ?_ (by simp [push_cast]) (by simp [push_cast]) | refine dfr_end (by simp) rfl ?_ (by simp [push_cast]) (by simp [push_cast])) <;> (try simp only [push_cast, Nat.reduceAdd, Nat.reduceBEq, Nat.reduceEqDiff, Nat.reduceMul, Nat.reducePow, Int.reduceBNe, Int.reduceBEq, Nat.reduceLT, Nat.reduceLeDiff, reduceCtorEq, reduceIte, Int.reduceLE, Int.reduceLT, Int.reduceGT, Int.reduceGE, Int.reduceNe, Int.reduceEq, Int.reduceToNat]))
    | exact cv_slE rfl rfl ⟨rfl, rfl⟩ (by simp) (by simp [take_map_len])
    | refine outQ_pan ?_ (by simp [push_cast])
    | refine outQ_unit ?_
    | refine outQ_unitN ?_
    | refine And.intro ?_ ?_
    | omega)
  all_goals (try simp only [push_cast, Nat.reduceAdd, Nat.reduceBEq, Nat.reduceEqDiff, Nat.reduceMul, Nat.reducePow, Int.reduceBNe, Int.reduceBEq, Nat.reduceLT, Nat.reduceLeDiff, reduceCtorEq, reduceIte, Int.reduceLE, Int.reduceLT, Int.reduceGT, Int.reduceGE, Int.reduceNe, Int.reduceEq, Int.reduceToNat, preB])
  all_goals first
    | (simp only [*, preB]; done)
    | (simp [*, preB]; done)
    | (simp_all [preB]; done)
    | (simp_all [preB]; omega)
    | skip
  have hlen : os.length ≤ 64 := by omega
  refine w_loopS (fun k : Nat => ([(2, .pt 0 8 0 0), (3, .pt 1 4 0 0), (5, .int .i64 k)], ⟨2, [(0, ⟨8, [tmc m]⟩), (1, ⟨4, [bkc ⟨os, q, cw, cm⟩]⟩)]⟩)) (fun k => k ≤ os.length ∧ okU m os k = true) (fun k => os.length - k) 0 ⟨Nat.zero_le _, rfl⟩ ?_ ?_
  · (apply Wk.renA (fun _ => false); (case he => (try simp only [push_cast, Nat.reduceBEq, Nat.reduceLeDiff, Nat.reduceAdd]); (repeat' (first | exact trivial | (refine cv_ptE rfl rfl rfl rfl rfl ?_; simp only [push_cast, Nat.reduceBEq, Nat.reduceLeDiff, Nat.reduceAdd]) | exact cv_slE rfl rfl ⟨rfl, rfl⟩ (by simp) (by simp [take_map_len]) | exact cv_slG rfl rfl ⟨rfl, rfl⟩ (by simp) (by first | rfl | (simp; done)) (by first | rfl | (simp; done) | (simp; omega)) (by simp [push_cast]) | exact cv_ros_self (by simp [push_cast]) | exact bel_ros_cl (by simp [push_cast]) | exact cellsCv_eq (by simp [take_map_len]) (by simp [push_cast]) | refine And.intro ?_ ?_ | rfl | omega | (simp; done) | (simp; omega)))); (case hr => (try simp only [push_cast, Nat.reduceBEq, Nat.reduceLeDiff, Nat.reduceAdd]); (repeat' (first | exact trivial | (refine cv_ptE rfl rfl rfl rfl rfl ?_; simp only [push_cast, Nat.reduceBEq, Nat.reduceLeDiff, Nat.reduceAdd]) | exact cv_slE rfl rfl ⟨rfl, rfl⟩ (by simp) (by simp [take_map_len]) | exact cv_slG rfl rfl ⟨rfl, rfl⟩ (by simp) (by first | rfl | (simp; done)) (by first | rfl | (simp; done) | (simp; omega)) (by simp [push_cast]) | exact cv_ros_self (by simp [push_cast]) | exact bel_ros_cl (by simp [push_cast]) | exact cellsCv_eq (by simp [take_map_len]) (by simp [push_cast]) | refine And.intro ?_ ?_ | rfl | omega | (simp; done) | (simp; omega)))); (case hinj => simp [rhoA_0, rhoA_1, rhoA_2]); all_goals exact 0)
  rintro k ⟨hk, hok⟩
  replace hk : k ≤ os.length := hk
  rcases Nat.lt_or_ge k os.length with hk' | hk'
  · obtain ⟨⟨i, p, d, s, a, f⟩, hx⟩ := lt_get hk'
    have hg := getD_map (enc := oc) hx
    have hd' := dlt hk'
    have hw := inc64 (k := k) (by omega)
    have hst := okU_step (m := m) hx
    rw [← okR_eq] at hst
    have hbad := fun e : okR m k ⟨i, p, d, s, a, f⟩ = false => okU_bad hx ((okR_eq m k _).symm.trans e)
    (try simp only [push_cast, Nat.reduceAdd, Nat.reduceBEq, Nat.reduceEqDiff, Nat.reduceMul, Nat.reducePow, Int.reduceBNe, Int.reduceBEq, Nat.reduceLT, Nat.reduceLeDiff, reduceCtorEq, reduceIte, Int.reduceLE, Int.reduceLT, Int.reduceGT, Int.reduceGE, Int.reduceNe, Int.reduceEq, Int.reduceToNat, hg, hd', hw])
    repeat' (first
      | ((first | refine brX_split ?_ ?_ | refine gX_split ?_ ?_ | refine hX_split ?_ ?_ | refine outK_split ?_ ?_) <;> (intro xc; (try simp only [Bool.not_eq_true', Bool.not_eq_false'] at xc); have xp := xc; (try simp only [decide_eq_true_eq, decide_eq_false_iff_not, Int.not_lt, Int.not_le, ge_iff_le, gt_iff_lt, Bool.and_eq_true, Bool.or_eq_false_iff] at xp); have xq := xp; (first | simp only [← Int.not_le] at xq | simp only [← Int.not_lt] at xq | clear xq)) <;> (try simp only [push_cast, Nat.reduceAdd, Nat.reduceBEq, Nat.reduceEqDiff, Nat.reduceMul, Nat.reducePow, Int.reduceBNe, Int.reduceBEq, Nat.reduceLT, Nat.reduceLeDiff, reduceCtorEq, reduceIte, Int.reduceLE, Int.reduceLT, Int.reduceGT, Int.reduceGE, Int.reduceNe, Int.reduceEq, Int.reduceToNat, *, hg, hd', hw]))
      | ((first | refine ⟨.ret _, _, PCall.s (by first | exact refValid_p _ _ _ _ _ _) (by simp [push_cast, hg, hd', hw]), ?_⟩ | refine ⟨.ret _, _, RCall.s (RCall.sh (by first | exact refValid_p _ _ _ _ _ _)) (by simp [push_cast, hg, hd', hw]), ?_⟩ | refine ⟨_, _, SCall.lift (by first | exact refValid_p _ _ _ _ _ _) (outR_cl (by simp [push_cast]) (by simp [push_cast])) (by simp [push_cast, hg, hd', hw]), ?_⟩ | refine ⟨_, (by first | exact refValid_p _ _ _ _ _ _), ?_⟩ | refine ⟨0, [], _, PCall.r (by first | exact refValid_p _ _ _ _ _ _), ?_⟩ | refine ⟨_, _, (by first | exact refValid_p _ _ _ _ _ _), ?_⟩ | refine ⟨_, _, _, RCall.sh (by first | exact refValid_p _ _ _ _ _ _), ?_⟩ | refine ⟨_, _, _, (by first | exact refValid_p _ _ _ _ _ _), ?_⟩ | ((fail_if_success (refine ⟨_, ?_, ?_⟩)); refine ⟨AV.any, ?_⟩) | refine ret_frz rfl ?_ (by simp [push_cast]) (by simp [push_cast, hg, hd', hw]) (by simp [push_cast, hg, hd', hw]) | refine end_frz rfl ?_ (by simp [push_cast]) (by simp [push_cast, hg, hd', hw]) (by simp [push_cast, hg, hd', hw]) | refine ret_now (by simp [push_cast]) ?_ (by simp [push_cast]) | refine end_now (by simp [push_cast]) ?_ (by simp [push_cast])) <;> (try simp only [push_cast, Nat.reduceAdd, Nat.reduceBEq, Nat.reduceEqDiff, Nat.reduceMul, Nat.reducePow, Int.reduceBNe, Int.reduceBEq, Nat.reduceLT, Nat.reduceLeDiff, reduceCtorEq, reduceIte, Int.reduceLE, Int.reduceLT, Int.reduceGT, Int.reduceGE, Int.reduceNe, Int.reduceEq, Int.reduceToNat, *, hg, hd', hw]))
      | ((first | refine cv_ptE rfl rfl rfl rfl rfl ?_ | refine outQ_frz rfl ?_ (by simp [push_cast]) (by simp [push_cast, hg, hd', hw]) | refine dfr_end (by simp) rfl ?_ (by simp [push_cast]) (by simp [push_cast, hg, hd', hw])) <;> (try simp only [push_cast, Nat.reduceAdd, Nat.reduceBEq, Nat.reduceEqDiff, Nat.reduceMul, Nat.reducePow, Int.reduceBNe, Int.reduceBEq, Nat.reduceLT, Nat.reduceLeDiff, reduceCtorEq, reduceIte, Int.reduceLE, Int.reduceLT, Int.reduceGT, Int.reduceGE, Int.reduceNe, Int.reduceEq, Int.reduceToNat, hg, hd', hw]))
      | exact cv_slE rfl rfl ⟨rfl, rfl⟩ (by simp) (by simp [take_map_len])
      | refine outQ_pan ?_ (by simp [push_cast])
      | refine outQ_unit ?_
      | refine outQ_unitN ?_
      | refine And.intro ?_ ?_
      | omega)
    all_goals (try simp only [push_cast, Nat.reduceAdd, Nat.reduceBEq, Nat.reduceEqDiff, Nat.reduceMul, Nat.reducePow, Int.reduceBNe, Int.reduceBEq, Nat.reduceLT, Nat.reduceLeDiff, reduceCtorEq, reduceIte, Int.reduceLE, Int.reduceLT, Int.reduceGT, Int.reduceGE, Int.reduceNe, Int.reduceEq, Int.reduceToNat, hg, hd', hw])
    all_goals first
      | (simp only [*, hg, hd', hw]; done)
      | (simp [*, hg, hd', hw]; done)
      | (simp_all [hg, hd', hw]; done)
      | (simp_all [hg, hd', hw]; omega)
      | (simp [hbad (by simp [okR, *])]; done)
      | skip
    all_goals (refine rnd_to _ _ _ (k + 1) ⟨hk', by rw [hst]; simp [okR, *]⟩ (by first | omega | (dsimp only; omega)) ?_)
    all_goals (apply Wk.renA (fun _ => false); (case he => (try simp only [push_cast, Nat.reduceBEq, Nat.reduceLeDiff, Nat.reduceAdd]); (repeat' (first | exact trivial | (refine cv_ptE rfl rfl rfl rfl rfl ?_; simp only [push_cast, Nat.reduceBEq, Nat.reduceLeDiff, Nat.reduceAdd]) | exact cv_slE rfl rfl ⟨rfl, rfl⟩ (by simp) (by simp [take_map_len]) | exact cv_slG rfl rfl ⟨rfl, rfl⟩ (by simp) (by first | rfl | (simp; done)) (by first | rfl | (simp; done) | (simp; omega)) (by simp [push_cast]) | exact cv_ros_self (by simp [push_cast]) | exact bel_ros_cl (by simp [push_cast]) | exact cellsCv_eq (by simp [take_map_len]) (by simp [push_cast]) | refine And.intro ?_ ?_ | rfl | omega | (simp; done) | (simp; omega)))); (case hr => (try simp only [push_cast, Nat.reduceBEq, Nat.reduceLeDiff, Nat.reduceAdd]); (repeat' (first | exact trivial | (refine cv_ptE rfl rfl rfl rfl rfl ?_; simp only [push_cast, Nat.reduceBEq, Nat.reduceLeDiff, Nat.reduceAdd]) | exact cv_slE rfl rfl ⟨rfl, rfl⟩ (by simp) (by simp [take_map_len]) | exact cv_slG rfl rfl ⟨rfl, rfl⟩ (by simp) (by first | rfl | (simp; done)) (by first | rfl | (simp; done) | (simp; omega)) (by simp [push_cast]) | exact cv_ros_self (by simp [push_cast]) | exact bel_ros_cl (by simp [push_cast]) | exact cellsCv_eq (by simp [take_map_len]) (by simp [push_cast]) | refine And.intro ?_ ?_ | rfl | omega | (simp; done) | (simp; omega)))); (case hinj => simp [rhoA_0, rhoA_1, rhoA_2]); all_goals exact 0)
  · have hd' := dge hk'
    obtain rfl : k = os.length := by omega
    (try simp only [push_cast, Nat.reduceAdd, Nat.reduceBEq, Nat.reduceEqDiff, Nat.reduceMul, Nat.reducePow, Int.reduceBNe, Int.reduceBEq, Nat.reduceLT, Nat.reduceLeDiff, reduceCtorEq, reduceIte, Int.reduceLE, Int.reduceLT, Int.reduceGT, Int.reduceGE, Int.reduceNe, Int.reduceEq, Int.reduceToNat, hd'])
    repeat' (first
      | ((first | refine brX_split ?_ ?_ | refine gX_split ?_ ?_ | refine hX_split ?_ ?_ | refine outK_split ?_ ?_) <;> (intro xc; (try simp only [Bool.not_eq_true', Bool.not_eq_false'] at xc); have xp := xc; (try simp only [decide_eq_true_eq, decide_eq_false_iff_not, Int.not_lt, Int.not_le, ge_iff_le, gt_iff_lt, Bool.and_eq_true, Bool.or_eq_false_iff] at xp); have xq := xp; (first | simp only [← Int.not_le] at xq | simp only [← Int.not_lt] at xq | clear xq)) <;> (try simp only [push_cast, Nat.reduceAdd, Nat.reduceBEq, Nat.reduceEqDiff, Nat.reduceMul, Nat.reducePow, Int.reduceBNe, Int.reduceBEq, Nat.reduceLT, Nat.reduceLeDiff, reduceCtorEq, reduceIte, Int.reduceLE, Int.reduceLT, Int.reduceGT, Int.reduceGE, Int.reduceNe, Int.reduceEq, Int.reduceToNat, *, hd']))
      | ((first | refine ⟨.ret _, _, PCall.s (by first | exact refQueued_p _ (by omega) | exact sameInts_p _ _ (by omega)) (by simp [push_cast, hd']), ?_⟩ | refine ⟨.ret _, _, RCall.s (RCall.sh (by first | exact refQueued_p _ (by omega) | exact sameInts_p _ _ (by omega))) (by simp [push_cast, hd']), ?_⟩ | refine ⟨_, _, SCall.lift (by first | exact refQueued_p _ (by omega) | exact sameInts_p _ _ (by omega)) (outR_cl (by simp [push_cast]) (by simp [push_cast])) (by simp [push_cast, hd']), ?_⟩ | refine ⟨_, (by first | exact refQueued_p _ (by omega) | exact sameInts_p _ _ (by omega)), ?_⟩ | refine ⟨0, [], _, PCall.r (by first | exact refQueued_p _ (by omega) | exact sameInts_p _ _ (by omega)), ?_⟩ | refine ⟨_, _, (by first | exact refQueued_p _ (by omega) | exact sameInts_p _ _ (by omega)), ?_⟩ | refine ⟨_, _, _, RCall.sh (by first | exact refQueued_p _ (by omega) | exact sameInts_p _ _ (by omega)), ?_⟩ | refine ⟨_, _, _, (by first | exact refQueued_p _ (by omega) | exact sameInts_p _ _ (by omega)), ?_⟩ | ((fail_if_success (refine ⟨_, ?_, ?_⟩)); refine ⟨AV.any, ?_⟩) | refine ret_frz rfl ?_ (by simp [push_cast]) (by simp [push_cast, hd']) (by simp [push_cast, hd']) | refine end_frz rfl ?_ (by simp [push_cast]) (by simp [push_cast, hd']) (by simp [push_cast, hd']) | refine ret_now (by simp [push_cast]) ?_ (by simp [push_cast]) | refine end_now (by simp [push_cast]) ?_ (by simp [push_cast])) <;> (try simp only [push_cast, Nat.reduceAdd, Nat.reduceBEq, Nat.reduceEqDiff, Nat.reduceMul, Nat.reducePow, Int.reduceBNe, Int.reduceBEq, Nat.reduceLT, Nat.reduceLeDiff, reduceCtorEq, reduceIte, Int.reduceLE, Int.reduceLT, Int.reduceGT, Int.reduceGE, Int.reduceNe, Int.reduceEq, Int.reduceToNat, *, hd']))
      | ((first | refine cv_ptE rfl rfl rfl rfl rfl ?_ | refine outQ_frz rfl ?_ (by simp [push_cast]) (by simp [push_cast, hd']) | refine dfr_end (by simp) rfl ?_ (by simp [push_cast]) (by simp [push_cast, hd'])) <;> (try simp only [push_cast, Nat.reduceAdd, Nat.reduceBEq, Nat.reduceEqDiff, Nat.reduceMul, Nat.reducePow, Int.reduceBNe, Int.reduceBEq, Nat.reduceLT, Nat.reduceLeDiff, reduceCtorEq, reduceIte, Int.reduceLE, Int.reduceLT, Int.reduceGT, Int.reduceGE, Int.reduceNe, Int.reduceEq, Int.reduceToNat, hd']))
      | exact cv_slE rfl rfl ⟨rfl, rfl⟩ (by simp) (by simp [take_map_len])
      | refine outQ_pan ?_ (by simp [push_cast])
      | refine outQ_unit ?_
      | refine outQ_unitN ?_
      | refine And.intro ?_ ?_
      | omega)
    all_goals (try simp only [push_cast, Nat.reduceAdd, Nat.reduceBEq, Nat.reduceEqDiff, Nat.reduceMul, Nat.reducePow, Int.reduceBNe, Int.reduceBEq, Nat.reduceLT, Nat.reduceLeDiff, reduceCtorEq, reduceIte, Int.reduceLE, Int.reduceLT, Int.reduceGT, Int.reduceGE, Int.reduceNe, Int.reduceEq, Int.reduceToNat, hd', hok, preB])
    all_goals first
      | (simp only [*, hd', hok, preB]; done)
      | (simp [*, hd', hok, preB]; done)
      | (simp_all [hd', hok, preB]; done)
      | (simp_all [hd', hok, preB]; omega)
      | skip
end Go.Proofs.Ytffiicopifmmfaa
