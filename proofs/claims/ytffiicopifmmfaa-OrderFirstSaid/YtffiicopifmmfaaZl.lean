/- Facts of the program over abstract values. No condition. -/
import Derived.Test.YtffiicopifmmfaaZk
set_option linter.unusedSimpArgs false
set_option maxRecDepth 8000
namespace Go.Proofs.Ytffiicopifmmfaa
set_option linter.unusedSimpArgs false
set_option linter.unusedVariables false
set_option linter.unnecessarySimpa false
set_option linter.unusedSectionVars false
open Go.Proofs.Try
open Go.Proofs.Ytffiicopifmmfaa.Ai
set_option maxHeartbeats 4000000
attribute [local push_cast] outK_ret outK_pan vis frs low oneR flId tgt w_skip w_ret w_exit w_seq x_cond w_block x_reg x_drw seqX_nil seqX_none seqX_some gX_1 gX_2 gX_3 gX_4 kS kP kG dX_nil dX_st dX_none dX_some hX_1 hX_2 calC kD_0 kD_1 kH iss_mv iss_pick iss_nc iss_alloc iss_box iss_build iss_bslice iss_ld iss_fa iss_fd iss_ias iss_iaa iss_ixa iss_ixs iss_ext iss_bin iss_eqb iss_eqn iss_not iss_neg iss_cv iss_b2s iss_s2b iss_mkf iss_mki iss_len iss_lens iss_cap iss_max2 iss_min2 iss_slc iss_sls iss_mks iss_app iss_eqv iss_cal iss_cav iss_pan iss_tas iss_eqi brX_true brX_false opR opG opD thn_n thn_r thn_e thn_p blk_n blk_r blk_e blk_p argE Ai.put Ai.next Ai.push prow pcond pval sv lv ev Ai.get beq_iff_eq cond_true cond_false AV.strip AV.live binC binV intC intV gv gvA norow pickC pickV sel ncC partsC partsV splice elemsC elemsV rdc rdv Ai.look Ai.over Ai.drop faC faV fdC fdV partV iasC iasV iaaC iaaV ixaC ixaV extC extV boolC intIs strIs eqbV notV negV cvV maxV minV lenV lenC eqaC eqaV eqvC eqvV skC skE stC stR AV.cells AV.known allLv intOr List.length_cons List.length_nil List.take_succ_cons List.take_zero List.drop_succ_cons List.drop_zero List.append_nil List.nil_append List.contains_nil List.contains_cons List.cons_append List.getD_cons_zero List.getD_cons_succ List.headD_cons List.set_cons_zero List.set_cons_succ List.replicate_succ List.replicate_zero List.map_cons List.map_nil Int.toNat_natCast true_and and_true Nat.zero_add Nat.add_zero Nat.zero_mul Nat.mul_one Nat.one_mul Bool.not_true Bool.not_false Bool.and_true Bool.and_false Bool.true_and Bool.false_and Nat.lt_add_one Nat.le_refl List.take_nil List.drop_nil true_implies false_implies List.mem_cons List.not_mem_nil or_false forall_eq_or_imp forall_eq ibne or_true true_or false_or and_false false_and ne_eq not_true_eq_false not_false_eq_true beq_true beq_false Bool.true_beq Bool.false_beq ibeq decide_true decide_false rvsC rvC rvV tupV cl_any cl_bool cl_int cl_str cl_nilp cl_nils cl_nilf cl_nili cl_nilm cl_roe cl_agg cl_tup cl_ros cl_rop cl_opt bel_any bel_bool bel_int bel_str bel_nilp bel_nils bel_nilf bel_nili bel_nilm bel_roe bel_agg bel_tup bel_ros bel_rop bel_opt bel_sl bel_pt beq_self_eq_true cvAll cv_refl cv_agg cv_tup cv_rop all2_cons all2_nil cv_bool cv_int cv_str cv_nilsR cv_ifc cv_opt List.length_map List.forall_mem_map appC appV appR appT elsC elsV one_int one_bool one_str one_nils one_ros one_sl cl_ros List.length_append List.mem_append or_imp forall_and take_map_len isIfc cl_ifc cl_fn bel_ifc bel_fn dfrQ dfrG_eq shR AV.sh fl_any fl_bool fl_int fl_str fl_nilp fl_nils fl_nilf fl_nili fl_nilm fl_roe fl_sl fl_pt fl_agg fl_tup fl_ifc flRows Bool.cond_true Bool.cond_false bits2 strC strV nilC nilV byteOf isByte bound boundL sliceC ixsC ixsV nilsIs s2bV s2bR lensV capC capV slcSz slsC slsV mksC sliceV tasC tasV ifcIs niliV shL shLL_cl shR_append accV_sh accR_sh le0 one_roe envAll rowsAll rowCv rhoA_0 rhoA_1 rhoA_2 cv_any cv_bool cv_int cv_str cv_nilp cv_nils cv_nilf cv_nili cv_nilm cv_agg cv_tup cv_rop cv_sl cv_pt cv_fn cv_ifc cv_opt bel_any bel_bool forall_const implies_true eq_self imp_self

theorem isSl_ne {sz : Nat} {v : AV} {es : List (List AV)} (h : isSl sz v es) (hne : es ≠ []) : v = .ros sz es := by
  cases es with
  | nil => exact absurd rfl hne
  | cons x l => exact h
def avB (b : Bk) (k : Nat) (o : O) (st now : Int) : Bk := ⟨b.os.set k (advO o st now), nwU isQ (b.os.set k (advO o st now)) b.os.length, b.cw, b.cm⟩
theorem advanceIn_ok {oV qV : AV} {b : Bk} {m : Tm} (hO : isSl 6 oV (b.os.map oc)) (hQ : isSl 1 qV (b.q.map intc)) (h : Fit b m) (k : Nat) (o : O) (hk : b.os[k]? = some o) (st now : Int) (h0 : bookE b m = 0) (ha : advE o st now = 0) :
    RCall prog 71 [.agg (tmc m), .agg (bkv oV qV b), .int .i64 ((k : Int) + 1), .int .u8 st, .int .u64 now] 0 2 ((0, ⟨6, (avB b k o st now).os.map oc⟩) :: accR 1 1 ((avB b k o st now).q.map intc))
      (.tup [.agg [.sl 0 6 0 b.os.length none, accV 1 1 ((avB b k o st now).q.map intc), .int .u64 b.cw, .int .i64 b.cm], .int .i64 0]) := by
  have hl := ledgerOf_ok hO hQ h h0
  have hlen := book0_len h0
  have hkl : k < b.os.length := (List.getElem?_eq_some_iff.1 hk).1
  have hrc : RCall prog 81 [.agg (ldc ⟨(avB b k o st now).os, b.q, b.cw, b.cm⟩ m)] 0 1 _ _ := queued_r ⟨(avB b k o st now).os, b.q, b.cw, b.cm⟩ m (by simp [avB]; omega)
  have ho := order_ok b m k o hk (by omega)
  have hg := getD_map (enc := oc) hk
  have hw : IntKind.i64.wrap ((k : Int) + 1 - 1) = k := by rw [IntWalk.i64_in _ (by omega)]; omega
  have hset : (b.os.map oc).set k (oc (advO o st now)) = (avB b k o st now).os.map oc := by simp [avB, List.map_set]
  have hav := adv_ok o st now ha
  have hq9 : (avB b k o st now).q = nwU isQ (avB b k o st now).os (avB b k o st now).os.length := by simp [avB]
  have hbl : (avB b k o st now).os.length = b.os.length := by simp [avB]
  rw [← hq9] at hrc
  have hoV := isSl_ne hO (by intro e; simp at e; rw [e] at hkl; simp at hkl)
  subst hoV
  clear hO
  generalize hos' : (avB b k o st now).os = os' at *
  generalize (avB b k o st now).q = acc at *
  generalize advO o st now = o' at *
  obtain ⟨os, q, cw, cm⟩ := b
  simp only at hk hkl hrc ho hg hset hl hQ hlen hbl
  refine SCall.r ?_ (look_lt (by simp [List.all_cons, all_accR]))
  rcases q with _ | ⟨i, j⟩
  · simp only [List.map_nil, isSl] at hQ
    rcases hQ with rfl | rfl <;> rcases acc with _ | ⟨a, l⟩
    all_goals
    simp only [clV, clR] at hl
    simp only [List.map_nil, List.map_cons, accV, accR] at *
    obtain ⟨c, hb, hl⟩ := l71
    refine scall_of mixed e71 hb rfl hl r71 (by rw [n71]; simp) ?_
    clear hb hl c
    (try simp only [push_cast, Nat.reduceAdd, Nat.reduceBEq, Nat.reduceEqDiff, Nat.reduceMul, Nat.reducePow, Int.reduceBNe, Int.reduceBEq, Nat.reduceLT, Nat.reduceLeDiff, reduceCtorEq, reduceIte, Int.reduceLE, Int.reduceLT, Int.reduceGT, Int.reduceGE, Int.reduceNe, Int.reduceEq, Int.reduceToNat, hw, hg, hset, hbl])
    repeat' (first
      | ((first | refine brX_split ?_ ?_ | refine gX_split ?_ ?_ | refine hX_split ?_ ?_ | refine outK_split ?_ ?_) <;> (intro xc; (try simp only [Bool.not_eq_true', Bool.not_eq_false'] at xc); have xp := xc; (try simp only [decide_eq_true_eq, decide_eq_false_iff_not, Int.not_lt, Int.not_le, ge_iff_le, gt_iff_lt, Bool.and_eq_true, Bool.or_eq_false_iff] at xp); have xq := xp; (first | simp only [← Int.not_le] at xq | simp only [← Int.not_lt] at xq | clear xq)) <;> (try simp only [push_cast, Nat.reduceAdd, Nat.reduceBEq, Nat.reduceEqDiff, Nat.reduceMul, Nat.reducePow, Int.reduceBNe, Int.reduceBEq, Nat.reduceLT, Nat.reduceLeDiff, reduceCtorEq, reduceIte, Int.reduceLE, Int.reduceLT, Int.reduceGT, Int.reduceGE, Int.reduceNe, Int.reduceEq, Int.reduceToNat, *, hw, hg, hset, hbl]))
      | ((first | refine ⟨.ret _, _, PCall.s (by first | exact hl | exact hav) (by simp [push_cast, hw, hg, hset, hbl]), ?_⟩ | refine ⟨.ret _, _, RCall.s (RCall.sh (by first | exact hl | exact hav)) (by simp [push_cast, hw, hg, hset, hbl]), ?_⟩ | refine ⟨_, _, SCall.lift (by first | exact hl | exact hav) (outR_cl (by simp [push_cast]) (by simp [push_cast])) (by simp [push_cast, hw, hg, hset, hbl]), ?_⟩ | refine ⟨_, (by first | exact hl | exact hav), ?_⟩ | refine ⟨0, [], _, PCall.r (by first | exact hl | exact hav), ?_⟩ | refine ⟨_, _, (by first | exact hl | exact hav), ?_⟩ | refine ⟨_, _, _, RCall.sh (by first | exact hl | exact hav), ?_⟩ | refine ⟨_, _, _, (by first | exact hl | exact hav), ?_⟩ | refine ⟨_, _, PCall.frz (by first | exact ho | exact hrc) (by (try simp only [all2_cons, all2_nil, frzArg, push_cast, Nat.reduceBEq, Nat.reduceLeDiff, Nat.reduceAdd]); repeat' (first | exact trivial | exact cv_slF rfl rfl ⟨rfl, rfl⟩ (by simp) (by first | rfl | (simp; done)) (by first | rfl | (simp; done) | (simp; omega)) | exact cv_closed (by simp [push_cast]) | refine And.intro ?_ ?_ | rfl | (simp [push_cast]; done))) (by simp [push_cast, hw, hg, hset, hbl]), ?_⟩ | refine ⟨.ret _, _, RCall.frz (RCall.sh (by first | exact ho | exact hrc)) (by (try simp only [all2_cons, all2_nil, frzArg, push_cast, Nat.reduceBEq, Nat.reduceLeDiff, Nat.reduceAdd]); repeat' (first | exact trivial | exact cv_slF rfl rfl ⟨rfl, rfl⟩ (by simp) (by first | rfl | (simp; done)) (by first | rfl | (simp; done) | (simp; omega)) | exact cv_closed (by simp [push_cast]) | refine And.intro ?_ ?_ | rfl | (simp [push_cast]; done))) (by simp [push_cast, hw, hg, hset, hbl]) (by simp [push_cast, hw, hg, hset, hbl]), ?_⟩ | ((fail_if_success (refine ⟨_, ?_, ?_⟩)); refine ⟨AV.any, ?_⟩) | refine ret_frz rfl ?_ (by simp [push_cast]) (by simp [push_cast, hw, hg, hset, hbl]) (by simp [push_cast, hw, hg, hset, hbl]) | refine end_frz rfl ?_ (by simp [push_cast]) (by simp [push_cast, hw, hg, hset, hbl]) (by simp [push_cast, hw, hg, hset, hbl]) | refine ret_now (by simp [push_cast]) ?_ (by simp [push_cast]) | refine end_now (by simp [push_cast]) ?_ (by simp [push_cast])) <;> (try simp only [push_cast, Nat.reduceAdd, Nat.reduceBEq, Nat.reduceEqDiff, Nat.reduceMul, Nat.reducePow, Int.reduceBNe, Int.reduceBEq, Nat.reduceLT, Nat.reduceLeDiff, reduceCtorEq, reduceIte, Int.reduceLE, Int.reduceLT, Int.reduceGT, Int.reduceGE, Int.reduceNe, Int.reduceEq, Int.reduceToNat, *, hw, hg, hset, hbl]))
      | ((first | refine cv_ptE rfl rfl rfl rfl rfl ?_ | refine outQ_frz rfl ?_ (by simp [push_cast]) (by simp [push_cast, hw, hg, hset, hbl]) | refine dfr_end (by simp) rfl ?_ (by simp [push_cast]) (by simp [push_cast, hw, hg, hset, hbl])) <;> (try simp only [push_cast, Nat.reduceAdd, Nat.reduceBEq, Nat.reduceEqDiff, Nat.reduceMul, Nat.reducePow, Int.reduceBNe, Int.reduceBEq, Nat.reduceLT, Nat.reduceLeDiff, reduceCtorEq, reduceIte, Int.reduceLE, Int.reduceLT, Int.reduceGT, Int.reduceGE, Int.reduceNe, Int.reduceEq, Int.reduceToNat, hw, hg, hset, hbl]))
      | exact cv_slE rfl rfl ⟨rfl, rfl⟩ (by simp) (by simp [take_map_len])
      | refine outQ_pan ?_ (by simp [push_cast])
      | refine outQ_unit ?_
      | refine outQ_unitN ?_
      | refine And.intro ?_ ?_
      | omega)
    all_goals (try simp only [push_cast, Nat.reduceAdd, Nat.reduceBEq, Nat.reduceEqDiff, Nat.reduceMul, Nat.reducePow, Int.reduceBNe, Int.reduceBEq, Nat.reduceLT, Nat.reduceLeDiff, reduceCtorEq, reduceIte, Int.reduceLE, Int.reduceLT, Int.reduceGT, Int.reduceGE, Int.reduceNe, Int.reduceEq, Int.reduceToNat, hw, hg, hset, hbl])
    all_goals first
      | (simp only [*, hw, hg, hset, hbl]; done)
      | (simp [*, hw, hg, hset, hbl]; done)
      | (simp_all [hw, hg, hset, hbl]; done)
      | (simp_all [hw, hg, hset, hbl]; omega)
      | skip
    all_goals (refine outQ_ret rfl ?_ (by simp [push_cast]) (by simp [push_cast]); (apply Wk.renA (fun i => i == 2); (case he => (try simp only [push_cast, Nat.reduceBEq, Nat.reduceLeDiff, Nat.reduceAdd]); (repeat' (first | exact trivial | (refine cv_ptE rfl rfl rfl rfl rfl ?_; simp only [push_cast, Nat.reduceBEq, Nat.reduceLeDiff, Nat.reduceAdd]) | exact cv_slE rfl rfl ⟨rfl, rfl⟩ (by simp) (by simp [take_map_len]) | exact cv_slG rfl rfl ⟨rfl, rfl⟩ (by simp) (by first | rfl | (simp; done)) (by first | rfl | (simp; done) | (simp; omega)) (by simp [push_cast]) | exact cv_ros_self (by simp [push_cast]) | exact bel_ros_cl (by simp [push_cast]) | exact cellsCv_eq (by simp [take_map_len]) (by simp [push_cast]) | refine And.intro ?_ ?_ | rfl | omega | (simp; done) | (simp; omega)))); (case hr => (try simp only [push_cast, Nat.reduceBEq, Nat.reduceLeDiff, Nat.reduceAdd]); (repeat' (first | exact trivial | (refine cv_ptE rfl rfl rfl rfl rfl ?_; simp only [push_cast, Nat.reduceBEq, Nat.reduceLeDiff, Nat.reduceAdd]) | exact cv_slE rfl rfl ⟨rfl, rfl⟩ (by simp) (by simp [take_map_len]) | exact cv_slG rfl rfl ⟨rfl, rfl⟩ (by simp) (by first | rfl | (simp; done)) (by first | rfl | (simp; done) | (simp; omega)) (by simp [push_cast]) | exact cv_ros_self (by simp [push_cast]) | exact bel_ros_cl (by simp [push_cast]) | exact cellsCv_eq (by simp [take_map_len]) (by simp [push_cast]) | refine And.intro ?_ ?_ | rfl | omega | (simp; done) | (simp; omega)))); (case hinj => simp [rhoA_0, rhoA_1, rhoA_2]); all_goals exact 0))
  · simp only [List.map_cons, isSl] at hQ
    subst hQ
    rcases acc with _ | ⟨a, l⟩
    all_goals
    simp only [clV, clR] at hl
    simp only [List.map_nil, List.map_cons, accV, accR] at *
    obtain ⟨c, hb, hl⟩ := l71
    refine scall_of mixed e71 hb rfl hl r71 (by rw [n71]; simp) ?_
    clear hb hl c
    (try simp only [push_cast, Nat.reduceAdd, Nat.reduceBEq, Nat.reduceEqDiff, Nat.reduceMul, Nat.reducePow, Int.reduceBNe, Int.reduceBEq, Nat.reduceLT, Nat.reduceLeDiff, reduceCtorEq, reduceIte, Int.reduceLE, Int.reduceLT, Int.reduceGT, Int.reduceGE, Int.reduceNe, Int.reduceEq, Int.reduceToNat, hw, hg, hset, hbl])
    repeat' (first
      | ((first | refine brX_split ?_ ?_ | refine gX_split ?_ ?_ | refine hX_split ?_ ?_ | refine outK_split ?_ ?_) <;> (intro xc; (try simp only [Bool.not_eq_true', Bool.not_eq_false'] at xc); have xp := xc; (try simp only [decide_eq_true_eq, decide_eq_false_iff_not, Int.not_lt, Int.not_le, ge_iff_le, gt_iff_lt, Bool.and_eq_true, Bool.or_eq_false_iff] at xp); have xq := xp; (first | simp only [← Int.not_le] at xq | simp only [← Int.not_lt] at xq | clear xq)) <;> (try simp only [push_cast, Nat.reduceAdd, Nat.reduceBEq, Nat.reduceEqDiff, Nat.reduceMul, Nat.reducePow, Int.reduceBNe, Int.reduceBEq, Nat.reduceLT, Nat.reduceLeDiff, reduceCtorEq, reduceIte, Int.reduceLE, Int.reduceLT, Int.reduceGT, Int.reduceGE, Int.reduceNe, Int.reduceEq, Int.reduceToNat, *, hw, hg, hset, hbl]))
      | ((first | refine ⟨.ret _, _, PCall.s (by first | exact hl | exact hav) (by simp [push_cast, hw, hg, hset, hbl]), ?_⟩ | refine ⟨.ret _, _, RCall.s (RCall.sh (by first | exact hl | exact hav)) (by simp [push_cast, hw, hg, hset, hbl]), ?_⟩ | refine ⟨_, _, SCall.lift (by first | exact hl | exact hav) (outR_cl (by simp [push_cast]) (by simp [push_cast])) (by simp [push_cast, hw, hg, hset, hbl]), ?_⟩ | refine ⟨_, (by first | exact hl | exact hav), ?_⟩ | refine ⟨0, [], _, PCall.r (by first | exact hl | exact hav), ?_⟩ | refine ⟨_, _, (by first | exact hl | exact hav), ?_⟩ | refine ⟨_, _, _, RCall.sh (by first | exact hl | exact hav), ?_⟩ | refine ⟨_, _, _, (by first | exact hl | exact hav), ?_⟩ | refine ⟨_, _, PCall.frz (by first | exact ho | exact hrc) (by (try simp only [all2_cons, all2_nil, frzArg, push_cast, Nat.reduceBEq, Nat.reduceLeDiff, Nat.reduceAdd]); repeat' (first | exact trivial | exact cv_slF rfl rfl ⟨rfl, rfl⟩ (by simp) (by first | rfl | (simp; done)) (by first | rfl | (simp; done) | (simp; omega)) | exact cv_closed (by simp [push_cast]) | refine And.intro ?_ ?_ | rfl | (simp [push_cast]; done))) (by simp [push_cast, hw, hg, hset, hbl]), ?_⟩ | refine ⟨.ret _, _, RCall.frz (RCall.sh (by first | exact ho | exact hrc)) (by (try simp only [all2_cons, all2_nil, frzArg, push_cast, Nat.reduceBEq, Nat.reduceLeDiff, Nat.reduceAdd]); repeat' (first | exact trivial | exact cv_slF rfl rfl ⟨rfl, rfl⟩ (by simp) (by first | rfl | (simp; done)) (by first | rfl | (simp; done) | (simp; omega)) | exact cv_closed (by simp [push_cast]) | refine And.intro ?_ ?_ | rfl | (simp [push_cast]; done))) (by simp [push_cast, hw, hg, hset, hbl]) (by simp [push_cast, hw, hg, hset, hbl]), ?_⟩ | ((fail_if_success (refine ⟨_, ?_, ?_⟩)); refine ⟨AV.any, ?_⟩) | refine ret_frz rfl ?_ (by simp [push_cast]) (by simp [push_cast, hw, hg, hset, hbl]) (by simp [push_cast, hw, hg, hset, hbl]) | refine end_frz rfl ?_ (by simp [push_cast]) (by simp [push_cast, hw, hg, hset, hbl]) (by simp [push_cast, hw, hg, hset, hbl]) | refine ret_now (by simp [push_cast]) ?_ (by simp [push_cast]) | refine end_now (by simp [push_cast]) ?_ (by simp [push_cast])) <;> (try simp only [push_cast, Nat.reduceAdd, Nat.reduceBEq, Nat.reduceEqDiff, Nat.reduceMul, Nat.reducePow, Int.reduceBNe, Int.reduceBEq, Nat.reduceLT, Nat.reduceLeDiff, reduceCtorEq, reduceIte, Int.reduceLE, Int.reduceLT, Int.reduceGT, Int.reduceGE, Int.reduceNe, Int.reduceEq, Int.reduceToNat, *, hw, hg, hset, hbl]))
      | ((first | refine cv_ptE rfl rfl rfl rfl rfl ?_ | refine outQ_frz rfl ?_ (by simp [push_cast]) (by simp [push_cast, hw, hg, hset, hbl]) | refine dfr_end (by simp) rfl ?_ (by simp [push_cast]) (by simp [push_cast, hw, hg, hset, hbl])) <;> (try simp only [push_cast, Nat.reduceAdd, Nat.reduceBEq, Nat.reduceEqDiff, Nat.reduceMul, Nat.reducePow, Int.reduceBNe, Int.reduceBEq, Nat.reduceLT, Nat.reduceLeDiff, reduceCtorEq, reduceIte, Int.reduceLE, Int.reduceLT, Int.reduceGT, Int.reduceGE, Int.reduceNe, Int.reduceEq, Int.reduceToNat, hw, hg, hset, hbl]))
      | exact cv_slE rfl rfl ⟨rfl, rfl⟩ (by simp) (by simp [take_map_len])
      | refine outQ_pan ?_ (by simp [push_cast])
      | refine outQ_unit ?_
      | refine outQ_unitN ?_
      | refine And.intro ?_ ?_
      | omega)
    all_goals (try simp only [push_cast, Nat.reduceAdd, Nat.reduceBEq, Nat.reduceEqDiff, Nat.reduceMul, Nat.reducePow, Int.reduceBNe, Int.reduceBEq, Nat.reduceLT, Nat.reduceLeDiff, reduceCtorEq, reduceIte, Int.reduceLE, Int.reduceLT, Int.reduceGT, Int.reduceGE, Int.reduceNe, Int.reduceEq, Int.reduceToNat, hw, hg, hset, hbl])
    all_goals first
      | (simp only [*, hw, hg, hset, hbl]; done)
      | (simp [*, hw, hg, hset, hbl]; done)
      | (simp_all [hw, hg, hset, hbl]; done)
      | (simp_all [hw, hg, hset, hbl]; omega)
      | skip
    all_goals (refine outQ_ret rfl ?_ (by simp [push_cast]) (by simp [push_cast]); (apply Wk.renA (fun i => i == 2); (case he => (try simp only [push_cast, Nat.reduceBEq, Nat.reduceLeDiff, Nat.reduceAdd]); (repeat' (first | exact trivial | (refine cv_ptE rfl rfl rfl rfl rfl ?_; simp only [push_cast, Nat.reduceBEq, Nat.reduceLeDiff, Nat.reduceAdd]) | exact cv_slE rfl rfl ⟨rfl, rfl⟩ (by simp) (by simp [take_map_len]) | exact cv_slG rfl rfl ⟨rfl, rfl⟩ (by simp) (by first | rfl | (simp; done)) (by first | rfl | (simp; done) | (simp; omega)) (by simp [push_cast]) | exact cv_ros_self (by simp [push_cast]) | exact bel_ros_cl (by simp [push_cast]) | exact cellsCv_eq (by simp [take_map_len]) (by simp [push_cast]) | refine And.intro ?_ ?_ | rfl | omega | (simp; done) | (simp; omega)))); (case hr => (try simp only [push_cast, Nat.reduceBEq, Nat.reduceLeDiff, Nat.reduceAdd]); (repeat' (first | exact trivial | (refine cv_ptE rfl rfl rfl rfl rfl ?_; simp only [push_cast, Nat.reduceBEq, Nat.reduceLeDiff, Nat.reduceAdd]) | exact cv_slE rfl rfl ⟨rfl, rfl⟩ (by simp) (by simp [take_map_len]) | exact cv_slG rfl rfl ⟨rfl, rfl⟩ (by simp) (by first | rfl | (simp; done)) (by first | rfl | (simp; done) | (simp; omega)) (by simp [push_cast]) | exact cv_ros_self (by simp [push_cast]) | exact bel_ros_cl (by simp [push_cast]) | exact cellsCv_eq (by simp [take_map_len]) (by simp [push_cast]) | refine And.intro ?_ ?_ | rfl | omega | (simp; done) | (simp; omega)))); (case hinj => simp [rhoA_0, rhoA_1, rhoA_2]); all_goals exact 0))
end Go.Proofs.Ytffiicopifmmfaa
