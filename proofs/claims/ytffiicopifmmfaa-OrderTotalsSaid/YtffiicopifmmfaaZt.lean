/- Facts of the program over abstract values. No condition. -/
import Derived.Test.YtffiicopifmmfaaZs
import Derived.Test.YtffiicopifmmfaaZp
import Derived.Test.YtffiicopifmmfaaOrAl4
set_option linter.unusedSimpArgs false
set_option maxRecDepth 8000
namespace Go.Proofs.Ytffiicopifmmfaa
set_option linter.unusedSimpArgs false
set_option linter.unusedVariables false
set_option linter.unnecessarySimpa false
set_option linter.unusedSectionVars false
open Go.Proofs.Try
open Go.Proofs.Ytffiicopifmmfaa.Ai
set_option maxHeartbeats 4000000
attribute [local push_cast] outK_ret outK_pan vis frs low oneR flId tgt w_skip w_ret w_exit w_seq x_cond w_block x_reg x_drw seqX_nil seqX_none seqX_some gX_1 gX_2 gX_3 gX_4 kS kP kG dX_nil dX_st dX_none dX_some hX_1 hX_2 calC kD_0 kD_1 kH iss_mv iss_pick iss_nc iss_alloc iss_box iss_build iss_bslice iss_ld iss_fa iss_fd iss_ias iss_iaa iss_ixa iss_ixs iss_ext iss_bin iss_eqb iss_eqn iss_not iss_neg iss_cv iss_b2s iss_s2b iss_mkf iss_mki iss_len iss_lens iss_cap iss_max2 iss_min2 iss_slc iss_sls iss_mks iss_app iss_eqv iss_cal iss_cav iss_pan iss_tas iss_eqi brX_true brX_false opR opG opD thn_n thn_r thn_e thn_p blk_n blk_r blk_e blk_p argE Ai.put Ai.next Ai.push prow pcond pval sv lv ev Ai.get beq_iff_eq cond_true cond_false AV.strip AV.live binC binV intC intV gv gvA norow pickC pickV sel ncC partsC partsV splice elemsC elemsV rdc rdv Ai.look Ai.over Ai.drop faC faV fdC fdV partV iasC iasV iaaC iaaV ixaC ixaV extC extV boolC intIs strIs eqbV notV negV cvV maxV minV lenV lenC eqaC eqaV eqvC eqvV skC skE stC stR AV.cells AV.known allLv intOr List.length_cons List.length_nil List.take_succ_cons List.take_zero List.drop_succ_cons List.drop_zero List.append_nil List.nil_append List.contains_nil List.contains_cons List.cons_append List.getD_cons_zero List.getD_cons_succ List.headD_cons List.set_cons_zero List.set_cons_succ List.replicate_succ List.replicate_zero List.map_cons List.map_nil Int.toNat_natCast true_and and_true Nat.zero_add Nat.add_zero Nat.zero_mul Nat.mul_one Nat.one_mul Bool.not_true Bool.not_false Bool.and_true Bool.and_false Bool.true_and Bool.false_and Nat.lt_add_one Nat.le_refl List.take_nil List.drop_nil true_implies false_implies List.mem_cons List.not_mem_nil or_false forall_eq_or_imp forall_eq ibne or_true true_or false_or and_false false_and ne_eq not_true_eq_false not_false_eq_true beq_true beq_false Bool.true_beq Bool.false_beq ibeq decide_true decide_false rvsC rvC rvV tupV cl_any cl_bool cl_int cl_str cl_nilp cl_nils cl_nilf cl_nili cl_nilm cl_roe cl_agg cl_tup cl_ros cl_rop cl_opt bel_any bel_bool bel_int bel_str bel_nilp bel_nils bel_nilf bel_nili bel_nilm bel_roe bel_agg bel_tup bel_ros bel_rop bel_opt bel_sl bel_pt beq_self_eq_true cvAll cv_refl cv_agg cv_tup cv_rop all2_cons all2_nil cv_bool cv_int cv_str cv_nilsR cv_ifc cv_opt List.length_map List.forall_mem_map appC appV appR appT elsC elsV one_int one_bool one_str one_nils one_ros one_sl cl_ros List.length_append List.mem_append or_imp forall_and take_map_len isIfc cl_ifc cl_fn bel_ifc bel_fn dfrQ dfrG_eq shR AV.sh fl_any fl_bool fl_int fl_str fl_nilp fl_nils fl_nilf fl_nili fl_nilm fl_roe fl_sl fl_pt fl_agg fl_tup fl_ifc flRows Bool.cond_true Bool.cond_false bits2 strC strV nilC nilV byteOf isByte bound boundL sliceC ixsC ixsV nilsIs s2bV s2bR lensV capC capV slcSz slsC slsV mksC sliceV tasC tasV ifcIs niliV shL shLL_cl shR_append accV_sh accR_sh le0 one_roe envAll rowsAll rowCv rhoA_0 rhoA_1 rhoA_2 cv_any cv_bool cv_int cv_str cv_nilp cv_nils cv_nilf cv_nili cv_nilm cv_agg cv_tup cv_rop cv_sl cv_pt cv_fn cv_ifc cv_opt bel_any bel_bool forall_const implies_true eq_self imp_self

theorem nwU_cU (os : List O) : ∀ k, ((nwU isQ os k).length : Int) = cU 1 os k
  | 0 => rfl
  | k + 1 => by
    have := nwU_cU os k
    simp only [nwU, cU, List.length_append, isQ]
    cases decide ((os.getD k default).s = 1) <;> simp <;> omega
abbrev wantC (os : List O) (k : Nat) : List AV := [.int .i64 k, .int .i64 (cU 1 os k), .int .i64 (cU 2 os k), .int .i64 (cU 3 os k), .int .i64 (cU 4 os k), .int .i64 (cU 5 os k)]
theorem law_totals (b : Bk) (m : Tm) (h : Fit b m) : PCall prog 15 [.agg (tmc m), .agg (bkc b)] (.bool true) := by
  have ht := totals_r h
  have hv := refValidBook_p b m h
  have hc := checkBook_r h
  have hg := get_r h
  by_cases h0 : bookE b m = 0
  case neg =>
    have g1 := hg 1
    have he : ordE b m 1 = bookE b m := by simp [ordE, h0]
    rw [he] at g1
    simp only [h0, decide_false, cond_false] at g1 ht hv
    obtain ⟨c, hb, hl⟩ := l15
    refine pcall_of mixed e15 hb rfl hl r15 (by rw [n15]; simp) ?_
    clear hb hl c
    (try simp only [push_cast, Nat.reduceAdd, Nat.reduceBEq, Nat.reduceEqDiff, Nat.reduceMul, Nat.reducePow, Int.reduceBNe, Int.reduceBEq, Nat.reduceLT, Nat.reduceLeDiff, reduceCtorEq, reduceIte, Int.reduceLE, Int.reduceLT, Int.reduceGT, Int.reduceGE, Int.reduceNe, Int.reduceEq, Int.reduceToNat, h0])
    repeat' (first
      | ((first | refine brX_split ?_ ?_ | refine gX_split ?_ ?_ | refine hX_split ?_ ?_ | refine outK_split ?_ ?_) <;> (intro xc; (try simp only [Bool.not_eq_true', Bool.not_eq_false'] at xc); have xp := xc; (try simp only [decide_eq_true_eq, decide_eq_false_iff_not, Int.not_lt, Int.not_le, ge_iff_le, gt_iff_lt, Bool.and_eq_true, Bool.or_eq_false_iff] at xp); have xq := xp; (first | simp only [← Int.not_le] at xq | simp only [← Int.not_lt] at xq | clear xq)) <;> (try simp only [push_cast, Nat.reduceAdd, Nat.reduceBEq, Nat.reduceEqDiff, Nat.reduceMul, Nat.reducePow, Int.reduceBNe, Int.reduceBEq, Nat.reduceLT, Nat.reduceLeDiff, reduceCtorEq, reduceIte, Int.reduceLE, Int.reduceLT, Int.reduceGT, Int.reduceGE, Int.reduceNe, Int.reduceEq, Int.reduceToNat, *, h0]))
      | ((first | refine ⟨.ret _, _, PCall.s (by first | exact alive_p | exact ht | exact hv | exact hc | exact g1) (by simp [push_cast, h0]), ?_⟩ | refine ⟨.ret _, _, RCall.s (RCall.sh (by first | exact alive_p | exact ht | exact hv | exact hc | exact g1)) (by simp [push_cast, h0]), ?_⟩ | refine ⟨_, _, SCall.lift (by first | exact alive_p | exact ht | exact hv | exact hc | exact g1) (outR_cl (by simp [push_cast]) (by simp [push_cast])) (by simp [push_cast, h0]), ?_⟩ | refine ⟨_, (by first | exact alive_p | exact ht | exact hv | exact hc | exact g1), ?_⟩ | refine ⟨0, [], _, PCall.r (by first | exact alive_p | exact ht | exact hv | exact hc | exact g1), ?_⟩ | refine ⟨_, _, (by first | exact alive_p | exact ht | exact hv | exact hc | exact g1), ?_⟩ | refine ⟨_, _, _, RCall.sh (by first | exact alive_p | exact ht | exact hv | exact hc | exact g1), ?_⟩ | refine ⟨_, _, _, (by first | exact alive_p | exact ht | exact hv | exact hc | exact g1), ?_⟩ | ((fail_if_success (refine ⟨_, ?_, ?_⟩)); refine ⟨AV.any, ?_⟩) | refine ret_frz rfl ?_ (by simp [push_cast]) (by simp [push_cast, h0]) (by simp [push_cast, h0]) | refine end_frz rfl ?_ (by simp [push_cast]) (by simp [push_cast, h0]) (by simp [push_cast, h0]) | refine ret_now (by simp [push_cast]) ?_ (by simp [push_cast]) | refine end_now (by simp [push_cast]) ?_ (by simp [push_cast])) <;> (try simp only [push_cast, Nat.reduceAdd, Nat.reduceBEq, Nat.reduceEqDiff, Nat.reduceMul, Nat.reducePow, Int.reduceBNe, Int.reduceBEq, Nat.reduceLT, Nat.reduceLeDiff, reduceCtorEq, reduceIte, Int.reduceLE, Int.reduceLT, Int.reduceGT, Int.reduceGE, Int.reduceNe, Int.reduceEq, Int.reduceToNat, *, h0]))
      | ((first | refine cv_ptE rfl rfl rfl rfl rfl ?_ | refine outQ_frz rfl ?_ (by simp [push_cast]) (by simp [push_cast, h0]) | refine dfr_end (by simp) rfl ?_ (by simp [push_cast]) (by simp [push_cast, h0])) <;> (try simp only [push_cast, Nat.reduceAdd, Nat.reduceBEq, Nat.reduceEqDiff, Nat.reduceMul, Nat.reducePow, Int.reduceBNe, Int.reduceBEq, Nat.reduceLT, Nat.reduceLeDiff, reduceCtorEq, reduceIte, Int.reduceLE, Int.reduceLT, Int.reduceGT, Int.reduceGE, Int.reduceNe, Int.reduceEq, Int.reduceToNat, h0]))
      | exact cv_slE rfl rfl ⟨rfl, rfl⟩ (by simp) (by simp [take_map_len])
      | refine outQ_pan ?_ (by simp [push_cast])
      | refine outQ_unit ?_
      | refine outQ_unitN ?_
      | refine And.intro ?_ ?_
      | omega)
    all_goals (try simp only [push_cast, Nat.reduceAdd, Nat.reduceBEq, Nat.reduceEqDiff, Nat.reduceMul, Nat.reducePow, Int.reduceBNe, Int.reduceBEq, Nat.reduceLT, Nat.reduceLeDiff, reduceCtorEq, reduceIte, Int.reduceLE, Int.reduceLT, Int.reduceGT, Int.reduceGE, Int.reduceNe, Int.reduceEq, Int.reduceToNat, h0])
    all_goals first
      | (simp only [*, h0]; done)
      | (simp [*, h0]; done)
      | (simp_all [h0]; done)
      | (simp_all [h0]; omega)
      | skip
  simp only [h0, decide_true, cond_true] at ht hv hc
  obtain ⟨c, hb, hl⟩ := l15
  refine pcall_of mixed e15 hb rfl hl r15 (by rw [n15]; simp) ?_
  clear hb hl c
  (try simp only [push_cast, Nat.reduceAdd, Nat.reduceBEq, Nat.reduceEqDiff, Nat.reduceMul, Nat.reducePow, Int.reduceBNe, Int.reduceBEq, Nat.reduceLT, Nat.reduceLeDiff, reduceCtorEq, reduceIte, Int.reduceLE, Int.reduceLT, Int.reduceGT, Int.reduceGE, Int.reduceNe, Int.reduceEq, Int.reduceToNat])
  repeat' (first
    | ((first | refine brX_split ?_ ?_ | refine gX_split ?_ ?_ | refine hX_split ?_ ?_ | refine outK_split ?_ ?_) <;> (intro xc; (try simp only [Bool.not_eq_true', Bool.not_eq_false'] at xc); have xp := xc; (try simp only [decide_eq_true_eq, decide_eq_false_iff_not, Int.not_lt, Int.not_le, ge_iff_le, gt_iff_lt, Bool.and_eq_true, Bool.or_eq_false_iff] at xp); have xq := xp; (first | simp only [← Int.not_le] at xq | simp only [← Int.not_lt] at xq | clear xq)) <;> (try simp only [push_cast, Nat.reduceAdd, Nat.reduceBEq, Nat.reduceEqDiff, Nat.reduceMul, Nat.reducePow, Int.reduceBNe, Int.reduceBEq, Nat.reduceLT, Nat.reduceLeDiff, reduceCtorEq, reduceIte, Int.reduceLE, Int.reduceLT, Int.reduceGT, Int.reduceGE, Int.reduceNe, Int.reduceEq, Int.reduceToNat, *]))
    | ((first | refine ⟨.ret _, _, PCall.s (by first | exact alive_p | exact ht | exact hv | exact hc) (by simp [push_cast]), ?_⟩ | refine ⟨.ret _, _, RCall.s (RCall.sh (by first | exact alive_p | exact ht | exact hv | exact hc)) (by simp [push_cast]), ?_⟩ | refine ⟨_, _, SCall.lift (by first | exact alive_p | exact ht | exact hv | exact hc) (outR_cl (by simp [push_cast]) (by simp [push_cast])) (by simp [push_cast]), ?_⟩ | refine ⟨_, (by first | exact alive_p | exact ht | exact hv | exact hc), ?_⟩ | refine ⟨0, [], _, PCall.r (by first | exact alive_p | exact ht | exact hv | exact hc), ?_⟩ | refine ⟨_, _, (by first | exact alive_p | exact ht | exact hv | exact hc), ?_⟩ | refine ⟨_, _, _, RCall.sh (by first | exact alive_p | exact ht | exact hv | exact hc), ?_⟩ | refine ⟨_, _, _, (by first | exact alive_p | exact ht | exact hv | exact hc), ?_⟩ | ((fail_if_success (refine ⟨_, ?_, ?_⟩)); refine ⟨AV.any, ?_⟩) | refine ret_frz rfl ?_ (by simp [push_cast]) (by simp [push_cast]) (by simp [push_cast]) | refine end_frz rfl ?_ (by simp [push_cast]) (by simp [push_cast]) (by simp [push_cast]) | refine ret_now (by simp [push_cast]) ?_ (by simp [push_cast]) | refine end_now (by simp [push_cast]) ?_ (by simp [push_cast])) <;> (try simp only [push_cast, Nat.reduceAdd, Nat.reduceBEq, Nat.reduceEqDiff, Nat.reduceMul, Nat.reducePow, Int.reduceBNe, Int.reduceBEq, Nat.reduceLT, Nat.reduceLeDiff, reduceCtorEq, reduceIte, Int.reduceLE, Int.reduceLT, Int.reduceGT, Int.reduceGE, Int.reduceNe, Int.reduceEq, Int.reduceToNat, *]))
    | ((first | refine cv_ptE rfl rfl rfl rfl rfl ?_ | refine outQ_frz rfl ?_ (by simp [push_cast]) (by simp [push_cast]) | refine dfr_end (by simp) rfl ?_ (by simp [push_cast]) (by simp [push_cast])) <;> (try simp only [push_cast, Nat.reduceAdd, Nat.reduceBEq, Nat.reduceEqDiff, Nat.reduceMul, Nat.reducePow, Int.reduceBNe, Int.reduceBEq, Nat.reduceLT, Nat.reduceLeDiff, reduceCtorEq, reduceIte, Int.reduceLE, Int.reduceLT, Int.reduceGT, Int.reduceGE, Int.reduceNe, Int.reduceEq, Int.reduceToNat]))
    | exact cv_slE rfl rfl ⟨rfl, rfl⟩ (by simp) (by simp [take_map_len])
    | refine outQ_pan ?_ (by simp [push_cast])
    | refine outQ_unit ?_
    | refine outQ_unitN ?_
    | refine And.intro ?_ ?_
    | omega)
  all_goals (try simp only [push_cast, Nat.reduceAdd, Nat.reduceBEq, Nat.reduceEqDiff, Nat.reduceMul, Nat.reducePow, Int.reduceBNe, Int.reduceBEq, Nat.reduceLT, Nat.reduceLeDiff, reduceCtorEq, reduceIte, Int.reduceLE, Int.reduceLT, Int.reduceGT, Int.reduceGE, Int.reduceNe, Int.reduceEq, Int.reduceToNat])
  all_goals first
    | (simp only [*]; done)
    | (simp [*]; done)
    | (simp_all []; done)
    | (simp_all []; omega)
    | skip
  have hlen := book0_len h0
  obtain ⟨_, q2, q3, _⟩ := book0 h0
  simp only [ordsB, queB, Bool.and_eq_true, decide_eq_true_eq] at q2 q3
  have hq : (b.q.length : Int) = cU 1 b.os b.os.length := by rw [q3.2]; exact nwU_cU _ _
  have hst := fun k x hx => book0_state h0 (k := k) (x := x) hx
  have hidx := fun k x hx => okU_at (k := k) (x := x) hx q2.2
  have hin := fun k hk => ordE_in h0 (k := k) hk
  have hg1 := hg ((b.os.length : Int) + 1)
  have hg0 := hg 0
  rw [ordE_out h0 (by omega)] at hg1 hg0
  simp only [show ((6 : Int) = 0) = False by simp, decide_false, cond_false] at hg1 hg0
  clear ht hv hc h
  refine w_loopS (fun k : Nat => ([(2, .pt 0 8 0 0), (3, .pt 1 4 0 0), (5, .bool true), (6, .pt 2 6 0 0), (7, .int .i64 0), (10, .pt 3 6 0 0), (11, .int .i64 ((k : Int) + 1))], ⟨4, [(0, ⟨8, [tmc m]⟩), (1, ⟨4, [bkc b]⟩), (2, ⟨6, [totC b.os b.os.length]⟩), (3, ⟨6, [wantC b.os k]⟩)]⟩)) (fun k => k ≤ b.os.length) (fun k => b.os.length - k) 0 (Nat.zero_le _) ?_ ?_
  · simp only [wantC, cU]
    refine Wk.ren (fun _ => false) (fun i => (bif i == 3 then 15 else (bif i == 2 then 9 else i))) (by simp) (by simp) ?_ ?_ (by simp) <;> (try simp only [push_cast, Nat.reduceBEq, Nat.reduceLeDiff, Nat.reduceAdd]) <;> (repeat' (first | exact trivial | (refine cv_ptE rfl rfl rfl rfl rfl ?_; simp only [push_cast, Nat.reduceBEq, Nat.reduceLeDiff, Nat.reduceAdd]) | exact cv_slE rfl rfl ⟨rfl, rfl⟩ (by simp) (by simp [take_map_len]) | exact cv_slG rfl rfl ⟨rfl, rfl⟩ (by simp) (by first | rfl | (simp; done)) (by first | rfl | (simp; done) | (simp; omega)) (by simp [push_cast]) | exact cv_ros_self (by simp [push_cast]) | exact bel_ros_cl (by simp [push_cast]) | exact cellsCv_eq (by simp [take_map_len]) (by simp [push_cast]) | refine And.intro ?_ ?_ | rfl | omega | (simp; done) | (simp; omega)))
  intro k hk
  rcases Nat.lt_or_ge k b.os.length with hk' | hk'
  · obtain ⟨⟨i, p, d, s, a, f⟩, hx⟩ := lt_get hk'
    have hgk := hg ((k : Int) + 1)
    rw [hin k hk', ordAt_in hx] at hgk
    simp only [decide_true, cond_true] at hgk
    have hd : decide ((k : Int) + 1 ≤ b.os.length) = true := by simp; omega
    have hw := inc64 (k := k) (by omega)
    have hw2 : IntKind.i64.wrap ((k : Int) + 1 + 1) = (k : Int) + 1 + 1 := IntWalk.i64_in _ (by omega)
    have b1 := cU_le (j := 1) (os := b.os) k
    have b2 := cU_le (j := 2) (os := b.os) k
    have b3 := cU_le (j := 3) (os := b.os) k
    have b4 := cU_le (j := 4) (os := b.os) k
    have b5 := cU_le (j := 5) (os := b.os) k
    have w1 : IntKind.i64.wrap (cU 1 b.os k + 1) = cU 1 b.os k + 1 := IntWalk.i64_in _ (by omega)
    have w2 : IntKind.i64.wrap (cU 2 b.os k + 1) = cU 2 b.os k + 1 := IntWalk.i64_in _ (by omega)
    have w3 : IntKind.i64.wrap (cU 3 b.os k + 1) = cU 3 b.os k + 1 := IntWalk.i64_in _ (by omega)
    have w4 : IntKind.i64.wrap (cU 4 b.os k + 1) = cU 4 b.os k + 1 := IntWalk.i64_in _ (by omega)
    have w5 : IntKind.i64.wrap (cU 5 b.os k + 1) = cU 5 b.os k + 1 := IntWalk.i64_in _ (by omega)
    have hi := hidx k _ hx
    simp only [okO, Bool.and_eq_true, decide_eq_true_eq] at hi
    obtain ⟨⟨rfl, _⟩, _⟩ := hi
    have hs := hst k _ hx
    simp only at hs
    clear hg hst hidx hin hg1 hg0
    rcases hs with rfl | rfl | rfl | rfl | rfl
    all_goals
    (try simp only [push_cast, Nat.reduceAdd, Nat.reduceBEq, Nat.reduceEqDiff, Nat.reduceMul, Nat.reducePow, Int.reduceBNe, Int.reduceBEq, Nat.reduceLT, Nat.reduceLeDiff, reduceCtorEq, reduceIte, Int.reduceLE, Int.reduceLT, Int.reduceGT, Int.reduceGE, Int.reduceNe, Int.reduceEq, Int.reduceToNat, hd, hw, hw2, w1, w2, w3, w4, w5])
    repeat' (first
      | ((first | refine brX_split ?_ ?_ | refine gX_split ?_ ?_ | refine hX_split ?_ ?_ | refine outK_split ?_ ?_) <;> (intro xc; (try simp only [Bool.not_eq_true', Bool.not_eq_false'] at xc); have xp := xc; (try simp only [decide_eq_true_eq, decide_eq_false_iff_not, Int.not_lt, Int.not_le, ge_iff_le, gt_iff_lt, Bool.and_eq_true, Bool.or_eq_false_iff] at xp); have xq := xp; (first | simp only [← Int.not_le] at xq | simp only [← Int.not_lt] at xq | clear xq)) <;> (try simp only [push_cast, Nat.reduceAdd, Nat.reduceBEq, Nat.reduceEqDiff, Nat.reduceMul, Nat.reducePow, Int.reduceBNe, Int.reduceBEq, Nat.reduceLT, Nat.reduceLeDiff, reduceCtorEq, reduceIte, Int.reduceLE, Int.reduceLT, Int.reduceGT, Int.reduceGE, Int.reduceNe, Int.reduceEq, Int.reduceToNat, *, hd, hw, hw2, w1, w2, w3, w4, w5]))
      | ((first | refine ⟨.ret _, _, PCall.s (by first | exact hgk) (by simp [push_cast, hd, hw, hw2, w1, w2, w3, w4, w5]), ?_⟩ | refine ⟨.ret _, _, RCall.s (RCall.sh (by first | exact hgk)) (by simp [push_cast, hd, hw, hw2, w1, w2, w3, w4, w5]), ?_⟩ | refine ⟨_, _, SCall.lift (by first | exact hgk) (outR_cl (by simp [push_cast]) (by simp [push_cast])) (by simp [push_cast, hd, hw, hw2, w1, w2, w3, w4, w5]), ?_⟩ | refine ⟨_, (by first | exact hgk), ?_⟩ | refine ⟨0, [], _, PCall.r (by first | exact hgk), ?_⟩ | refine ⟨_, _, (by first | exact hgk), ?_⟩ | refine ⟨_, _, _, RCall.sh (by first | exact hgk), ?_⟩ | refine ⟨_, _, _, (by first | exact hgk), ?_⟩ | ((fail_if_success (refine ⟨_, ?_, ?_⟩)); refine ⟨AV.any, ?_⟩) | refine ret_frz rfl ?_ (by simp [push_cast]) (by simp [push_cast, hd, hw, hw2, w1, w2, w3, w4, w5]) (by simp [push_cast, hd, hw, hw2, w1, w2, w3, w4, w5]) | refine end_frz rfl ?_ (by simp [push_cast]) (by simp [push_cast, hd, hw, hw2, w1, w2, w3, w4, w5]) (by simp [push_cast, hd, hw, hw2, w1, w2, w3, w4, w5]) | refine ret_now (by simp [push_cast]) ?_ (by simp [push_cast]) | refine end_now (by simp [push_cast]) ?_ (by simp [push_cast])) <;> (try simp only [push_cast, Nat.reduceAdd, Nat.reduceBEq, Nat.reduceEqDiff, Nat.reduceMul, Nat.reducePow, Int.reduceBNe, Int.reduceBEq, Nat.reduceLT, Nat.reduceLeDiff, reduceCtorEq, reduceIte, Int.reduceLE, Int.reduceLT, Int.reduceGT, Int.reduceGE, Int.reduceNe, Int.reduceEq, Int.reduceToNat, *, hd, hw, hw2, w1, w2, w3, w4, w5]))
      | ((first | refine cv_ptE rfl rfl rfl rfl rfl ?_ | refine outQ_frz rfl ?_ (by simp [push_cast]) (by simp [push_cast, hd, hw, hw2, w1, w2, w3, w4, w5]) | refine dfr_end (by simp) rfl ?_ (by simp [push_cast]) (by simp [push_cast, hd, hw, hw2, w1, w2, w3, w4, w5])) <;> (try simp only [push_cast, Nat.reduceAdd, Nat.reduceBEq, Nat.reduceEqDiff, Nat.reduceMul, Nat.reducePow, Int.reduceBNe, Int.reduceBEq, Nat.reduceLT, Nat.reduceLeDiff, reduceCtorEq, reduceIte, Int.reduceLE, Int.reduceLT, Int.reduceGT, Int.reduceGE, Int.reduceNe, Int.reduceEq, Int.reduceToNat, hd, hw, hw2, w1, w2, w3, w4, w5]))
      | exact cv_slE rfl rfl ⟨rfl, rfl⟩ (by simp) (by simp [take_map_len])
      | refine outQ_pan ?_ (by simp [push_cast])
      | refine outQ_unit ?_
      | refine outQ_unitN ?_
      | refine And.intro ?_ ?_
      | omega)
    all_goals (try simp only [push_cast, Nat.reduceAdd, Nat.reduceBEq, Nat.reduceEqDiff, Nat.reduceMul, Nat.reducePow, Int.reduceBNe, Int.reduceBEq, Nat.reduceLT, Nat.reduceLeDiff, reduceCtorEq, reduceIte, Int.reduceLE, Int.reduceLT, Int.reduceGT, Int.reduceGE, Int.reduceNe, Int.reduceEq, Int.reduceToNat, hd, hw, hw2, w1, w2, w3, w4, w5])
    all_goals first
      | (simp only [*, hd, hw, hw2, w1, w2, w3, w4, w5]; done)
      | (simp [*, hd, hw, hw2, w1, w2, w3, w4, w5]; done)
      | (simp_all [hd, hw, hw2, w1, w2, w3, w4, w5]; done)
      | (simp_all [hd, hw, hw2, w1, w2, w3, w4, w5]; omega)
      | skip
    all_goals (refine rnd_to _ _ _ (k + 1) hk' (by first | omega | (dsimp only; omega)) ?_; simp only [wantC, cU_step hx])
    all_goals refine Wk.ren (fun _ => false) (fun i => i) (by simp) (by simp) ?_ ?_ (by simp) <;> (try simp only [push_cast, Nat.reduceBEq, Nat.reduceLeDiff, Nat.reduceAdd]) <;> (repeat' (first | exact trivial | (refine cv_ptE rfl rfl rfl rfl rfl ?_; simp only [push_cast, Nat.reduceBEq, Nat.reduceLeDiff, Nat.reduceAdd]) | exact cv_slE rfl rfl ⟨rfl, rfl⟩ (by simp) (by simp [take_map_len]) | exact cv_slG rfl rfl ⟨rfl, rfl⟩ (by simp) (by first | rfl | (simp; done)) (by first | rfl | (simp; done) | (simp; omega)) (by simp [push_cast]) | exact cv_ros_self (by simp [push_cast]) | exact bel_ros_cl (by simp [push_cast]) | exact cellsCv_eq (by simp [take_map_len]) (by simp [push_cast]) | refine And.intro ?_ ?_ | rfl | omega | (simp; done) | (simp; omega)))
  · have hd : decide ((k : Int) + 1 ≤ b.os.length) = false := by simp; omega
    obtain rfl : k = b.os.length := by omega
    have hw := inc64 (k := b.os.length) (by omega)
    clear hg hst hidx hin q3 q2
    (try simp only [push_cast, Nat.reduceAdd, Nat.reduceBEq, Nat.reduceEqDiff, Nat.reduceMul, Nat.reducePow, Int.reduceBNe, Int.reduceBEq, Nat.reduceLT, Nat.reduceLeDiff, reduceCtorEq, reduceIte, Int.reduceLE, Int.reduceLT, Int.reduceGT, Int.reduceGE, Int.reduceNe, Int.reduceEq, Int.reduceToNat, hd, hw, hq])
    repeat' (first
      | ((first | refine brX_split ?_ ?_ | refine gX_split ?_ ?_ | refine hX_split ?_ ?_ | refine outK_split ?_ ?_) <;> (intro xc; (try simp only [Bool.not_eq_true', Bool.not_eq_false'] at xc); have xp := xc; (try simp only [decide_eq_true_eq, decide_eq_false_iff_not, Int.not_lt, Int.not_le, ge_iff_le, gt_iff_lt, Bool.and_eq_true, Bool.or_eq_false_iff] at xp); have xq := xp; (first | simp only [← Int.not_le] at xq | simp only [← Int.not_lt] at xq | clear xq)) <;> (try simp only [push_cast, Nat.reduceAdd, Nat.reduceBEq, Nat.reduceEqDiff, Nat.reduceMul, Nat.reducePow, Int.reduceBNe, Int.reduceBEq, Nat.reduceLT, Nat.reduceLeDiff, reduceCtorEq, reduceIte, Int.reduceLE, Int.reduceLT, Int.reduceGT, Int.reduceGE, Int.reduceNe, Int.reduceEq, Int.reduceToNat, *, hd, hw, hq]))
      | ((first | refine ⟨.ret _, _, PCall.s (by first | exact hg1 | exact hg0) (by simp [push_cast, hd, hw, hq]), ?_⟩ | refine ⟨.ret _, _, RCall.s (RCall.sh (by first | exact hg1 | exact hg0)) (by simp [push_cast, hd, hw, hq]), ?_⟩ | refine ⟨_, _, SCall.lift (by first | exact hg1 | exact hg0) (outR_cl (by simp [push_cast]) (by simp [push_cast])) (by simp [push_cast, hd, hw, hq]), ?_⟩ | refine ⟨_, (by first | exact hg1 | exact hg0), ?_⟩ | refine ⟨0, [], _, PCall.r (by first | exact hg1 | exact hg0), ?_⟩ | refine ⟨_, _, (by first | exact hg1 | exact hg0), ?_⟩ | refine ⟨_, _, _, RCall.sh (by first | exact hg1 | exact hg0), ?_⟩ | refine ⟨_, _, _, (by first | exact hg1 | exact hg0), ?_⟩ | ((fail_if_success (refine ⟨_, ?_, ?_⟩)); refine ⟨AV.any, ?_⟩) | refine ret_frz rfl ?_ (by simp [push_cast]) (by simp [push_cast, hd, hw, hq]) (by simp [push_cast, hd, hw, hq]) | refine end_frz rfl ?_ (by simp [push_cast]) (by simp [push_cast, hd, hw, hq]) (by simp [push_cast, hd, hw, hq]) | refine ret_now (by simp [push_cast]) ?_ (by simp [push_cast]) | refine end_now (by simp [push_cast]) ?_ (by simp [push_cast])) <;> (try simp only [push_cast, Nat.reduceAdd, Nat.reduceBEq, Nat.reduceEqDiff, Nat.reduceMul, Nat.reducePow, Int.reduceBNe, Int.reduceBEq, Nat.reduceLT, Nat.reduceLeDiff, reduceCtorEq, reduceIte, Int.reduceLE, Int.reduceLT, Int.reduceGT, Int.reduceGE, Int.reduceNe, Int.reduceEq, Int.reduceToNat, *, hd, hw, hq]))
      | ((first | refine cv_ptE rfl rfl rfl rfl rfl ?_ | refine outQ_frz rfl ?_ (by simp [push_cast]) (by simp [push_cast, hd, hw, hq]) | refine dfr_end (by simp) rfl ?_ (by simp [push_cast]) (by simp [push_cast, hd, hw, hq])) <;> (try simp only [push_cast, Nat.reduceAdd, Nat.reduceBEq, Nat.reduceEqDiff, Nat.reduceMul, Nat.reducePow, Int.reduceBNe, Int.reduceBEq, Nat.reduceLT, Nat.reduceLeDiff, reduceCtorEq, reduceIte, Int.reduceLE, Int.reduceLT, Int.reduceGT, Int.reduceGE, Int.reduceNe, Int.reduceEq, Int.reduceToNat, hd, hw, hq]))
      | exact cv_slE rfl rfl ⟨rfl, rfl⟩ (by simp) (by simp [take_map_len])
      | refine outQ_pan ?_ (by simp [push_cast])
      | refine outQ_unit ?_
      | refine outQ_unitN ?_
      | refine And.intro ?_ ?_
      | omega)
    all_goals (try simp only [push_cast, Nat.reduceAdd, Nat.reduceBEq, Nat.reduceEqDiff, Nat.reduceMul, Nat.reducePow, Int.reduceBNe, Int.reduceBEq, Nat.reduceLT, Nat.reduceLeDiff, reduceCtorEq, reduceIte, Int.reduceLE, Int.reduceLT, Int.reduceGT, Int.reduceGE, Int.reduceNe, Int.reduceEq, Int.reduceToNat, hd, hw, hq])
    all_goals first
      | (simp only [*, hd, hw, hq]; done)
      | (simp [*, hd, hw, hq]; done)
      | (simp_all [hd, hw, hq]; done)
      | (simp_all [hd, hw, hq]; omega)
      | skip
end Go.Proofs.Ytffiicopifmmfaa
