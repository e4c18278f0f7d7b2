/- Facts of the program over abstract values. No condition. -/
import Derived.Test.YtihkijccnimgbaaZr
import Derived.Test.YtihkijccnimgbaaOrAl3
set_option linter.unusedSimpArgs false
set_option maxRecDepth 8000
namespace Go.Proofs.Ytihkijccnimgbaa
set_option linter.unusedSimpArgs false
set_option linter.unusedVariables false
set_option linter.unnecessarySimpa false
set_option linter.unusedSectionVars false
open Go.Proofs.Try
open Go.Proofs.Ytihkijccnimgbaa.Ai
set_option maxHeartbeats 4000000
attribute [local push_cast] outK_ret outK_pan vis frs low oneR flId tgt w_skip w_ret w_exit w_seq x_cond w_block x_reg x_drw seqX_nil seqX_none seqX_some gX_1 gX_2 gX_3 gX_4 kS kP kG dX_nil dX_st dX_none dX_some hX_1 hX_2 calC kD_0 kD_1 kH iss_mv iss_pick iss_nc iss_alloc iss_box iss_build iss_bslice iss_ld iss_fa iss_fd iss_ias iss_iaa iss_ixa iss_ixs iss_ext iss_bin iss_eqb iss_eqn iss_not iss_neg iss_cv iss_b2s iss_s2b iss_mkf iss_mki iss_len iss_lens iss_cap iss_max2 iss_min2 iss_slc iss_sls iss_mks iss_app iss_eqv iss_cal iss_cav iss_pan iss_tas iss_eqi brX_true brX_false opR opG opD thn_n thn_r thn_e thn_p blk_n blk_r blk_e blk_p argE Ai.put Ai.next Ai.push prow pcond pval sv lv ev Ai.get beq_iff_eq cond_true cond_false AV.strip AV.live binC binV intC intV gv gvA norow pickC pickV sel ncC partsC partsV splice elemsC elemsV rdc rdv Ai.look Ai.over Ai.drop faC faV fdC fdV partV iasC iasV iaaC iaaV ixaC ixaV extC extV boolC intIs strIs eqbV notV negV cvV maxV minV lenV lenC eqaC eqaV eqvC eqvV skC skE stC stR AV.cells AV.known allLv intOr List.length_cons List.length_nil List.take_succ_cons List.take_zero List.drop_succ_cons List.drop_zero List.append_nil List.nil_append List.contains_nil List.contains_cons List.cons_append List.getD_cons_zero List.getD_cons_succ List.headD_cons List.set_cons_zero List.set_cons_succ List.replicate_succ List.replicate_zero List.map_cons List.map_nil Int.toNat_natCast true_and and_true Nat.zero_add Nat.add_zero Nat.zero_mul Nat.mul_one Nat.one_mul Bool.not_true Bool.not_false Bool.and_true Bool.and_false Bool.true_and Bool.false_and Nat.lt_add_one Nat.le_refl List.take_nil List.drop_nil true_implies false_implies List.mem_cons List.not_mem_nil or_false forall_eq_or_imp forall_eq ibne or_true true_or false_or and_false false_and ne_eq not_true_eq_false not_false_eq_true beq_true beq_false Bool.true_beq Bool.false_beq ibeq decide_true decide_false rvsC rvC rvV tupV cl_any cl_bool cl_int cl_str cl_nilp cl_nils cl_nilf cl_nili cl_nilm cl_roe cl_agg cl_tup cl_ros cl_rop cl_opt bel_any bel_bool bel_int bel_str bel_nilp bel_nils bel_nilf bel_nili bel_nilm bel_roe bel_agg bel_tup bel_ros bel_rop bel_opt bel_sl bel_pt beq_self_eq_true cvAll cv_refl cv_agg cv_tup cv_rop all2_cons all2_nil cv_bool cv_int cv_str cv_nilsR cv_ifc cv_opt List.length_map List.forall_mem_map appC appV appR appT elsC elsV one_int one_bool one_str one_nils one_ros one_sl cl_ros List.length_append List.mem_append or_imp forall_and take_map_len isIfc cl_ifc cl_fn bel_ifc bel_fn dfrQ dfrG_eq shR AV.sh fl_any fl_bool fl_int fl_str fl_nilp fl_nils fl_nilf fl_nili fl_nilm fl_roe fl_sl fl_pt fl_agg fl_tup fl_ifc flRows Bool.cond_true Bool.cond_false bits2 strC strV nilC nilV byteOf isByte bound boundL sliceC ixsC ixsV nilsIs s2bV s2bR lensV capC capV slcSz slsC slsV mksC sliceV tasC tasV ifcIs niliV shL shLL_cl shR_append accV_sh accR_sh le0 one_roe envAll rowsAll rowCv rhoA_0 rhoA_1 rhoA_2 cv_any cv_bool cv_int cv_str cv_nilp cv_nils cv_nilf cv_nili cv_nilm cv_agg cv_tup cv_rop cv_sl cv_pt cv_fn cv_ifc cv_opt bel_any bel_bool forall_const implies_true eq_self imp_self

/-! OrderPath -/
abbrev u8c (n : Int) : List AV := [.int .u8 n]
abbrev u64c (n : Int) : List AV := [.int .u64 n]
abbrev u8V (xs : List Int) : AV := .ros 1 (xs.map u8c)
abbrev u64V (xs : List Int) : AV := .ros 1 (xs.map u64c)
def seenL (s : Int) : List AV :=
  bif decide (s = 1) then [.bool false, .bool true, .bool false, .bool false, .bool false, .bool false]
  else bif decide (s = 2) then [.bool false, .bool true, .bool true, .bool false, .bool false, .bool false]
  else bif decide (s = 3) then [.bool false, .bool true, .bool true, .bool true, .bool false, .bool false]
  else bif decide (s = 4) then [.bool false, .bool true, .bool true, .bool true, .bool true, .bool false]
  else [.bool false, .bool true, .bool false, .bool false, .bool false, .bool true]
theorem seenL_cl (s : Int) : ∀ c ∈ seenL s, Cl c := by
  unfold seenL
  cases decide (s = 1) <;> cases decide (s = 2) <;> cases decide (s = 3) <;> cases decide (s = 4) <;> simp [cl_bool]
theorem chk_iff {i p d s a f : Int} : chkE i p d s a f = 0 ↔ orderB i p d s a f = true := by
  unfold chkE; cases orderB i p d s a f <;> simp
theorem chk_new {i p d a : Int} : chkE i p d 1 a 0 = 0 ↔ (1 ≤ i ∧ i ≤ 64 ∧ 0 ≤ p ∧ p ≤ 2 ∧ 0 ≤ d ∧ d ≤ 2 ∧ a ≤ 4611686018427387904) := by
  rw [chk_iff]; simp [orderB, inB, stateB, doneB]; omega
theorem adv_split {o : O} {st t : Int} (h : advE o st t = 0) : chkE o.i o.p o.d o.s o.a o.f = 0 ∧ argB st t = true ∧ followsB o.s st = true := by
  unfold advE at h
  by_cases h1 : chkE o.i o.p o.d o.s o.a o.f = 0
  · cases h2 : argB st t <;> cases h3 : followsB o.s st <;> simp [h1, h2, h3] at h ⊢
  · simp [h1] at h
theorem fol_split {s st : Int} (h : followsB s st = true) : (s = 1 ∧ st = 2) ∨ (s = 1 ∧ st = 5) ∨ (s = 2 ∧ st = 3) ∨ (s = 3 ∧ st = 4) := by
  unfold followsB at h
  by_cases h1 : st = 2 <;> by_cases h2 : st = 5 <;> by_cases h3 : st = 3 <;> by_cases h4 : st = 4 <;> simp [h1, h2, h3, h4] at h <;> omega
theorem adv_valid {o : O} {st t : Int} (h : advE o st t = 0) (ht : 0 ≤ t) : chkE o.i o.p o.d st o.a (selI (decide (st = 4)) t o.f) = 0 := by
  obtain ⟨h1, h2, h3⟩ := adv_split h
  obtain ⟨i, p, d, s, a, f⟩ := o
  simp only at h1 h3 ⊢
  rw [chk_iff] at h1 ⊢
  rcases fol_split h3 with ⟨rfl, rfl⟩ | ⟨rfl, rfl⟩ | ⟨rfl, rfl⟩ | ⟨rfl, rfl⟩ <;> simp [orderB, inB, stateB, doneB, selI, argB] at h1 h2 ⊢ <;> omega
theorem chk_st {i p d s a f : Int} (h : chkE i p d s a f = 0) : s = 1 ∨ s = 2 ∨ s = 3 ∨ s = 4 ∨ s = 5 := by
  rw [chk_iff] at h; simp only [orderB, stateB, Bool.and_eq_true, decide_eq_true_eq] at h; omega
theorem chk_done {i p d s a f : Int} (h : chkE i p d s a f = 0) : doneB s f = true := by
  rw [chk_iff] at h; simp only [orderB, Bool.and_eq_true] at h; exact h.2
def pthS (i p d a : Int) (ss ts : List Int) (x : Nat × Int × Int) : Env × Store :=
  ([(0, .int .i64 i), (1, .int .i64 p), (2, .int .i64 d), (3, .int .u64 a), (4, u8V ss), (5, u64V ts), (13, .bool true), (14, .pt 0 6 0 0), (16, .pt 1 6 0 0), (17, .int .i64 x.1)],
    ⟨2, [(0, ⟨6, [oc ⟨i, p, d, x.2.1, a, x.2.2⟩]⟩), (1, ⟨6, [seenL x.2.1]⟩)]⟩)
theorem law_path (i p d a : Int) (ss ts : List Int) (h1 : ss.length < 2 ^ 60) (h2 : ts.length < 2 ^ 60) (h0 : ∀ t ∈ ts, 0 ≤ t) : PCall prog 8 [.int .i64 i, .int .i64 p, .int .i64 d, .int .u64 a, u8V ss, u64V ts] (.bool true) := by
  by_cases hc : chkE i p d 1 a 0 = 0
  case neg =>
    have hn := new_bad i p d a hc
    have hx : ¬ (1 ≤ i ∧ i ≤ 64 ∧ 0 ≤ p ∧ p ≤ 2 ∧ 0 ≤ d ∧ d ≤ 2 ∧ a ≤ 4611686018427387904) := fun h => hc (chk_new.2 h)
    obtain ⟨c, hb, hl⟩ := l8
    refine pcall_of mixed e8 hb rfl hl r8 (by rw [n8]; simp) ?_
    clear hb hl c
    (try simp only [push_cast, Nat.reduceAdd, Nat.reduceBEq, Nat.reduceEqDiff, Nat.reduceMul, Nat.reducePow, Int.reduceBNe, Int.reduceBEq, Nat.reduceLT, Nat.reduceLeDiff, reduceCtorEq, reduceIte, Int.reduceLE, Int.reduceLT, Int.reduceGT, Int.reduceGE, Int.reduceNe, Int.reduceEq, Int.reduceToNat])
    repeat' (first
      | ((first | refine brX_split ?_ ?_ | refine gX_split ?_ ?_ | refine hX_split ?_ ?_ | refine outK_split ?_ ?_) <;> (intro xc; (try simp only [Bool.not_eq_true', Bool.not_eq_false'] at xc); have xp := xc; (try simp only [decide_eq_true_eq, decide_eq_false_iff_not, Int.not_lt, Int.not_le, ge_iff_le, gt_iff_lt, Bool.and_eq_true, Bool.or_eq_false_iff] at xp); have xq := xp; (first | simp only [← Int.not_le] at xq | simp only [← Int.not_lt] at xq | clear xq)) <;> (try simp only [push_cast, Nat.reduceAdd, Nat.reduceBEq, Nat.reduceEqDiff, Nat.reduceMul, Nat.reducePow, Int.reduceBNe, Int.reduceBEq, Nat.reduceLT, Nat.reduceLeDiff, reduceCtorEq, reduceIte, Int.reduceLE, Int.reduceLT, Int.reduceGT, Int.reduceGE, Int.reduceNe, Int.reduceEq, Int.reduceToNat, *]))
      | ((first | refine ⟨.ret _, _, PCall.s (by first | exact alive_p | exact hn) (by simp [push_cast]), ?_⟩ | refine ⟨.ret _, _, RCall.s (RCall.sh (by first | exact alive_p | exact hn)) (by simp [push_cast]), ?_⟩ | refine ⟨_, _, SCall.lift (by first | exact alive_p | exact hn) (outR_cl (by simp [push_cast]) (by simp [push_cast])) (by simp [push_cast]), ?_⟩ | refine ⟨_, (by first | exact alive_p | exact hn), ?_⟩ | refine ⟨0, [], _, PCall.r (by first | exact alive_p | exact hn), ?_⟩ | refine ⟨_, _, (by first | exact alive_p | exact hn), ?_⟩ | refine ⟨_, _, _, RCall.sh (by first | exact alive_p | exact hn), ?_⟩ | refine ⟨_, _, _, (by first | exact alive_p | exact hn), ?_⟩ | ((fail_if_success (refine ⟨_, ?_, ?_⟩)); refine ⟨AV.any, ?_⟩) | refine ret_frz rfl ?_ (by simp [push_cast]) (by simp [push_cast]) (by simp [push_cast]) | refine end_frz rfl ?_ (by simp [push_cast]) (by simp [push_cast]) (by simp [push_cast]) | refine ret_now (by simp [push_cast]) ?_ (by simp [push_cast]) | refine end_now (by simp [push_cast]) ?_ (by simp [push_cast])) <;> (try simp only [push_cast, Nat.reduceAdd, Nat.reduceBEq, Nat.reduceEqDiff, Nat.reduceMul, Nat.reducePow, Int.reduceBNe, Int.reduceBEq, Nat.reduceLT, Nat.reduceLeDiff, reduceCtorEq, reduceIte, Int.reduceLE, Int.reduceLT, Int.reduceGT, Int.reduceGE, Int.reduceNe, Int.reduceEq, Int.reduceToNat, *]))
      | ((first | refine cv_ptE rfl rfl rfl rfl rfl ?_ | refine outQ_frz rfl ?_ (by simp [push_cast]) (by simp [push_cast]) | refine dfr_end (by simp) rfl ?_ (by simp [push_cast]) (by simp [push_cast])) <;> (try simp only [push_cast, Nat.reduceAdd, Nat.reduceBEq, Nat.reduceEqDiff, Nat.reduceMul, Nat.reducePow, Int.reduceBNe, Int.reduceBEq, Nat.reduceLT, Nat.reduceLeDiff, reduceCtorEq, reduceIte, Int.reduceLE, Int.reduceLT, Int.reduceGT, Int.reduceGE, Int.reduceNe, Int.reduceEq, Int.reduceToNat]))
      | exact cv_slE rfl rfl ⟨rfl, rfl⟩ (by simp) (by simp [take_map_len])
      | refine outQ_pan ?_ (by simp [push_cast])
      | refine outQ_unit ?_
      | refine outQ_unitN ?_
      | refine And.intro ?_ ?_
      | omega)
    all_goals (try simp only [push_cast, Nat.reduceAdd, Nat.reduceBEq, Nat.reduceEqDiff, Nat.reduceMul, Nat.reducePow, Int.reduceBNe, Int.reduceBEq, Nat.reduceLT, Nat.reduceLeDiff, reduceCtorEq, reduceIte, Int.reduceLE, Int.reduceLT, Int.reduceGT, Int.reduceGE, Int.reduceNe, Int.reduceEq, Int.reduceToNat])
    all_goals first
      | (simp only [*]; done)
      | (simp [*]; done)
      | (simp_all []; done)
      | (simp_all []; omega)
      | (exfalso; omega)
      | skip
  obtain ⟨c1, c2, c3, c4, c5, c6, c7⟩ := chk_new.1 hc
  have d1 : decide (i < 1) = false := by simp; omega
  have d2 : decide (i > 64) = false := by simp; omega
  have d3 : decide (p < 0) = false := by simp; omega
  have d4 : decide (p ≥ 3) = false := by simp; omega
  have d5 : decide (d < 0) = false := by simp; omega
  have d6 : decide (d ≥ 3) = false := by simp; omega
  have d7 : decide (a > 4611686018427387904) = false := by simp; omega
  have hn := new_ok i p d a hc
  have hk := check_p i p d 1 a 0
  obtain ⟨c, hb, hl⟩ := l8
  refine pcall_of mixed e8 hb rfl hl r8 (by rw [n8]; simp) ?_
  clear hb hl c
  (try simp only [push_cast, Nat.reduceAdd, Nat.reduceBEq, Nat.reduceEqDiff, Nat.reduceMul, Nat.reducePow, Int.reduceBNe, Int.reduceBEq, Nat.reduceLT, Nat.reduceLeDiff, reduceCtorEq, reduceIte, Int.reduceLE, Int.reduceLT, Int.reduceGT, Int.reduceGE, Int.reduceNe, Int.reduceEq, Int.reduceToNat, d1, d2, d3, d4, d5, d6, d7, hc])
  repeat' (first
    | ((first | refine brX_split ?_ ?_ | refine gX_split ?_ ?_ | refine hX_split ?_ ?_ | refine outK_split ?_ ?_) <;> (intro xc; (try simp only [Bool.not_eq_true', Bool.not_eq_false'] at xc); have xp := xc; (try simp only [decide_eq_true_eq, decide_eq_false_iff_not, Int.not_lt, Int.not_le, ge_iff_le, gt_iff_lt, Bool.and_eq_true, Bool.or_eq_false_iff] at xp); have xq := xp; (first | simp only [← Int.not_le] at xq | simp only [← Int.not_lt] at xq | clear xq)) <;> (try simp only [push_cast, Nat.reduceAdd, Nat.reduceBEq, Nat.reduceEqDiff, Nat.reduceMul, Nat.reducePow, Int.reduceBNe, Int.reduceBEq, Nat.reduceLT, Nat.reduceLeDiff, reduceCtorEq, reduceIte, Int.reduceLE, Int.reduceLT, Int.reduceGT, Int.reduceGE, Int.reduceNe, Int.reduceEq, Int.reduceToNat, *, d1, d2, d3, d4, d5, d6, d7, hc]))
    | ((first | refine ⟨.ret _, _, PCall.s (by first | exact alive_p | exact hn | exact hk) (by simp [push_cast, d1, d2, d3, d4, d5, d6, d7, hc]), ?_⟩ | refine ⟨.ret _, _, RCall.s (RCall.sh (by first | exact alive_p | exact hn | exact hk)) (by simp [push_cast, d1, d2, d3, d4, d5, d6, d7, hc]), ?_⟩ | refine ⟨_, _, SCall.lift (by first | exact alive_p | exact hn | exact hk) (outR_cl (by simp [push_cast]) (by simp [push_cast])) (by simp [push_cast, d1, d2, d3, d4, d5, d6, d7, hc]), ?_⟩ | refine ⟨_, (by first | exact alive_p | exact hn | exact hk), ?_⟩ | refine ⟨0, [], _, PCall.r (by first | exact alive_p | exact hn | exact hk), ?_⟩ | refine ⟨_, _, (by first | exact alive_p | exact hn | exact hk), ?_⟩ | refine ⟨_, _, _, RCall.sh (by first | exact alive_p | exact hn | exact hk), ?_⟩ | refine ⟨_, _, _, (by first | exact alive_p | exact hn | exact hk), ?_⟩ | ((fail_if_success (refine ⟨_, ?_, ?_⟩)); refine ⟨AV.any, ?_⟩) | refine ret_frz rfl ?_ (by simp [push_cast]) (by simp [push_cast, d1, d2, d3, d4, d5, d6, d7, hc]) (by simp [push_cast, d1, d2, d3, d4, d5, d6, d7, hc]) | refine end_frz rfl ?_ (by simp [push_cast]) (by simp [push_cast, d1, d2, d3, d4, d5, d6, d7, hc]) (by simp [push_cast, d1, d2, d3, d4, d5, d6, d7, hc]) | refine ret_now (by simp [push_cast]) ?_ (by simp [push_cast]) | refine end_now (by simp [push_cast]) ?_ (by simp [push_cast])) <;> (try simp only [push_cast, Nat.reduceAdd, Nat.reduceBEq, Nat.reduceEqDiff, Nat.reduceMul, Nat.reducePow, Int.reduceBNe, Int.reduceBEq, Nat.reduceLT, Nat.reduceLeDiff, reduceCtorEq, reduceIte, Int.reduceLE, Int.reduceLT, Int.reduceGT, Int.reduceGE, Int.reduceNe, Int.reduceEq, Int.reduceToNat, *, d1, d2, d3, d4, d5, d6, d7, hc]))
    | ((first | refine cv_ptE rfl rfl rfl rfl rfl ?_ | refine outQ_frz rfl ?_ (by simp [push_cast]) (by simp [push_cast, d1, d2, d3, d4, d5, d6, d7, hc]) | refine dfr_end (by simp) rfl ?_ (by simp [push_cast]) (by simp [push_cast, d1, d2, d3, d4, d5, d6, d7, hc])) <;> (try simp only [push_cast, Nat.reduceAdd, Nat.reduceBEq, Nat.reduceEqDiff, Nat.reduceMul, Nat.reducePow, Int.reduceBNe, Int.reduceBEq, Nat.reduceLT, Nat.reduceLeDiff, reduceCtorEq, reduceIte, Int.reduceLE, Int.reduceLT, Int.reduceGT, Int.reduceGE, Int.reduceNe, Int.reduceEq, Int.reduceToNat, d1, d2, d3, d4, d5, d6, d7, hc]))
    | exact cv_slE rfl rfl ⟨rfl, rfl⟩ (by simp) (by simp [take_map_len])
    | refine outQ_pan ?_ (by simp [push_cast])
    | refine outQ_unit ?_
    | refine outQ_unitN ?_
    | refine And.intro ?_ ?_
    | omega)
  all_goals (try simp only [push_cast, Nat.reduceAdd, Nat.reduceBEq, Nat.reduceEqDiff, Nat.reduceMul, Nat.reducePow, Int.reduceBNe, Int.reduceBEq, Nat.reduceLT, Nat.reduceLeDiff, reduceCtorEq, reduceIte, Int.reduceLE, Int.reduceLT, Int.reduceGT, Int.reduceGE, Int.reduceNe, Int.reduceEq, Int.reduceToNat, d1, d2, d3, d4, d5, d6, d7, hc])
  all_goals first
    | (simp only [*, d1, d2, d3, d4, d5, d6, d7, hc]; done)
    | (simp [*, d1, d2, d3, d4, d5, d6, d7, hc]; done)
    | (simp_all [d1, d2, d3, d4, d5, d6, d7, hc]; done)
    | (simp_all [d1, d2, d3, d4, d5, d6, d7, hc]; omega)
    | skip
  refine w_loopS (pthS i p d a ss ts) (fun x => x.1 ≤ ss.length ∧ chkE i p d x.2.1 a x.2.2 = 0) (fun x => ss.length - x.1) (0, 1, 0) ⟨Nat.zero_le _, hc⟩ ?_ ?_
  · simp only [pthS, seenL, decide_true, cond_true]
    (apply Wk.renA (fun _ => false); (case he => (try simp only [push_cast, Nat.reduceBEq, Nat.reduceLeDiff, Nat.reduceAdd]); (repeat' (first | exact trivial | (refine cv_ptE rfl rfl rfl rfl rfl ?_; simp only [push_cast, Nat.reduceBEq, Nat.reduceLeDiff, Nat.reduceAdd]) | exact cv_slE rfl rfl ⟨rfl, rfl⟩ (by simp) (by simp [take_map_len]) | exact cv_slG rfl rfl ⟨rfl, rfl⟩ (by simp) (by first | rfl | (simp; done)) (by first | rfl | (simp; done) | (simp; omega)) (by simp [push_cast]) | exact cv_ros_self (by simp [push_cast]) | exact bel_ros_cl (by simp [push_cast]) | exact cellsCv_eq (by simp [take_map_len]) (by simp [push_cast]) | refine And.intro ?_ ?_ | rfl | omega | (simp; done) | (simp; omega)))); (case hr => (try simp only [push_cast, Nat.reduceBEq, Nat.reduceLeDiff, Nat.reduceAdd]); (repeat' (first | exact trivial | (refine cv_ptE rfl rfl rfl rfl rfl ?_; simp only [push_cast, Nat.reduceBEq, Nat.reduceLeDiff, Nat.reduceAdd]) | exact cv_slE rfl rfl ⟨rfl, rfl⟩ (by simp) (by simp [take_map_len]) | exact cv_slG rfl rfl ⟨rfl, rfl⟩ (by simp) (by first | rfl | (simp; done)) (by first | rfl | (simp; done) | (simp; omega)) (by simp [push_cast]) | exact cv_ros_self (by simp [push_cast]) | exact bel_ros_cl (by simp [push_cast]) | exact cellsCv_eq (by simp [take_map_len]) (by simp [push_cast]) | refine And.intro ?_ ?_ | rfl | omega | (simp; done) | (simp; omega)))); (case hinj => simp [rhoA_0, rhoA_1, rhoA_2]); all_goals exact 0)
  clear hn hk hc
  rintro ⟨k, s, f⟩ ⟨hk, hc⟩
  simp only at hk hc
  simp only [pthS]
  rcases Nat.lt_or_ge k ss.length with hk' | hk'
  case inr =>
    have e1 := dge hk'
    (try simp only [push_cast, Nat.reduceAdd, Nat.reduceBEq, Nat.reduceEqDiff, Nat.reduceMul, Nat.reducePow, Int.reduceBNe, Int.reduceBEq, Nat.reduceLT, Nat.reduceLeDiff, reduceCtorEq, reduceIte, Int.reduceLE, Int.reduceLT, Int.reduceGT, Int.reduceGE, Int.reduceNe, Int.reduceEq, Int.reduceToNat, e1])
    repeat' (first
      | ((first | refine brX_split ?_ ?_ | refine gX_split ?_ ?_ | refine hX_split ?_ ?_ | refine outK_split ?_ ?_) <;> (intro xc; (try simp only [Bool.not_eq_true', Bool.not_eq_false'] at xc); have xp := xc; (try simp only [decide_eq_true_eq, decide_eq_false_iff_not, Int.not_lt, Int.not_le, ge_iff_le, gt_iff_lt, Bool.and_eq_true, Bool.or_eq_false_iff] at xp); have xq := xp; (first | simp only [← Int.not_le] at xq | simp only [← Int.not_lt] at xq | clear xq)) <;> (try simp only [push_cast, Nat.reduceAdd, Nat.reduceBEq, Nat.reduceEqDiff, Nat.reduceMul, Nat.reducePow, Int.reduceBNe, Int.reduceBEq, Nat.reduceLT, Nat.reduceLeDiff, reduceCtorEq, reduceIte, Int.reduceLE, Int.reduceLT, Int.reduceGT, Int.reduceGE, Int.reduceNe, Int.reduceEq, Int.reduceToNat, *, e1]))
      | ((first | ((fail_if_success (refine ⟨_, ?_, ?_⟩)); refine ⟨AV.any, ?_⟩) | refine ret_frz rfl ?_ (by simp [push_cast]) (by simp [push_cast, e1]) (by simp [push_cast, e1]) | refine end_frz rfl ?_ (by simp [push_cast]) (by simp [push_cast, e1]) (by simp [push_cast, e1]) | refine ret_now (by simp [push_cast]) ?_ (by simp [push_cast]) | refine end_now (by simp [push_cast]) ?_ (by simp [push_cast])) <;> (try simp only [push_cast, Nat.reduceAdd, Nat.reduceBEq, Nat.reduceEqDiff, Nat.reduceMul, Nat.reducePow, Int.reduceBNe, Int.reduceBEq, Nat.reduceLT, Nat.reduceLeDiff, reduceCtorEq, reduceIte, Int.reduceLE, Int.reduceLT, Int.reduceGT, Int.reduceGE, Int.reduceNe, Int.reduceEq, Int.reduceToNat, *, e1]))
      | ((first | refine cv_ptE rfl rfl rfl rfl rfl ?_ | refine outQ_frz rfl ?_ (by simp [push_cast]) (by simp [push_cast, e1]) | refine dfr_end (by simp) rfl ?_ (by simp [push_cast]) (by simp [push_cast, e1])) <;> (try simp only [push_cast, Nat.reduceAdd, Nat.reduceBEq, Nat.reduceEqDiff, Nat.reduceMul, Nat.reducePow, Int.reduceBNe, Int.reduceBEq, Nat.reduceLT, Nat.reduceLeDiff, reduceCtorEq, reduceIte, Int.reduceLE, Int.reduceLT, Int.reduceGT, Int.reduceGE, Int.reduceNe, Int.reduceEq, Int.reduceToNat, e1]))
      | exact cv_slE rfl rfl ⟨rfl, rfl⟩ (by simp) (by simp [take_map_len])
      | refine outQ_pan ?_ (by simp [push_cast])
      | refine outQ_unit ?_
      | refine outQ_unitN ?_
      | refine And.intro ?_ ?_
      | omega)
    all_goals (try simp only [push_cast, Nat.reduceAdd, Nat.reduceBEq, Nat.reduceEqDiff, Nat.reduceMul, Nat.reducePow, Int.reduceBNe, Int.reduceBEq, Nat.reduceLT, Nat.reduceLeDiff, reduceCtorEq, reduceIte, Int.reduceLE, Int.reduceLT, Int.reduceGT, Int.reduceGE, Int.reduceNe, Int.reduceEq, Int.reduceToNat, e1])
    all_goals first
      | (simp only [*, e1]; done)
      | (simp [*, e1]; done)
      | (simp_all [e1]; done)
      | (simp_all [e1]; omega)
      | skip
  have e1 := dlt hk'
  rcases Nat.lt_or_ge k ts.length with hj' | hj'
  case inr =>
    have e2 := dge hj'
    (try simp only [push_cast, Nat.reduceAdd, Nat.reduceBEq, Nat.reduceEqDiff, Nat.reduceMul, Nat.reducePow, Int.reduceBNe, Int.reduceBEq, Nat.reduceLT, Nat.reduceLeDiff, reduceCtorEq, reduceIte, Int.reduceLE, Int.reduceLT, Int.reduceGT, Int.reduceGE, Int.reduceNe, Int.reduceEq, Int.reduceToNat, e1, e2])
    repeat' (first
      | ((first | refine brX_split ?_ ?_ | refine gX_split ?_ ?_ | refine hX_split ?_ ?_ | refine outK_split ?_ ?_) <;> (intro xc; (try simp only [Bool.not_eq_true', Bool.not_eq_false'] at xc); have xp := xc; (try simp only [decide_eq_true_eq, decide_eq_false_iff_not, Int.not_lt, Int.not_le, ge_iff_le, gt_iff_lt, Bool.and_eq_true, Bool.or_eq_false_iff] at xp); have xq := xp; (first | simp only [← Int.not_le] at xq | simp only [← Int.not_lt] at xq | clear xq)) <;> (try simp only [push_cast, Nat.reduceAdd, Nat.reduceBEq, Nat.reduceEqDiff, Nat.reduceMul, Nat.reducePow, Int.reduceBNe, Int.reduceBEq, Nat.reduceLT, Nat.reduceLeDiff, reduceCtorEq, reduceIte, Int.reduceLE, Int.reduceLT, Int.reduceGT, Int.reduceGE, Int.reduceNe, Int.reduceEq, Int.reduceToNat, *, e1, e2]))
      | ((first | ((fail_if_success (refine ⟨_, ?_, ?_⟩)); refine ⟨AV.any, ?_⟩) | refine ret_frz rfl ?_ (by simp [push_cast]) (by simp [push_cast, e1, e2]) (by simp [push_cast, e1, e2]) | refine end_frz rfl ?_ (by simp [push_cast]) (by simp [push_cast, e1, e2]) (by simp [push_cast, e1, e2]) | refine ret_now (by simp [push_cast]) ?_ (by simp [push_cast]) | refine end_now (by simp [push_cast]) ?_ (by simp [push_cast])) <;> (try simp only [push_cast, Nat.reduceAdd, Nat.reduceBEq, Nat.reduceEqDiff, Nat.reduceMul, Nat.reducePow, Int.reduceBNe, Int.reduceBEq, Nat.reduceLT, Nat.reduceLeDiff, reduceCtorEq, reduceIte, Int.reduceLE, Int.reduceLT, Int.reduceGT, Int.reduceGE, Int.reduceNe, Int.reduceEq, Int.reduceToNat, *, e1, e2]))
      | ((first | refine cv_ptE rfl rfl rfl rfl rfl ?_ | refine outQ_frz rfl ?_ (by simp [push_cast]) (by simp [push_cast, e1, e2]) | refine dfr_end (by simp) rfl ?_ (by simp [push_cast]) (by simp [push_cast, e1, e2])) <;> (try simp only [push_cast, Nat.reduceAdd, Nat.reduceBEq, Nat.reduceEqDiff, Nat.reduceMul, Nat.reducePow, Int.reduceBNe, Int.reduceBEq, Nat.reduceLT, Nat.reduceLeDiff, reduceCtorEq, reduceIte, Int.reduceLE, Int.reduceLT, Int.reduceGT, Int.reduceGE, Int.reduceNe, Int.reduceEq, Int.reduceToNat, e1, e2]))
      | exact cv_slE rfl rfl ⟨rfl, rfl⟩ (by simp) (by simp [take_map_len])
      | refine outQ_pan ?_ (by simp [push_cast])
      | refine outQ_unit ?_
      | refine outQ_unitN ?_
      | refine And.intro ?_ ?_
      | omega)
    all_goals (try simp only [push_cast, Nat.reduceAdd, Nat.reduceBEq, Nat.reduceEqDiff, Nat.reduceMul, Nat.reducePow, Int.reduceBNe, Int.reduceBEq, Nat.reduceLT, Nat.reduceLeDiff, reduceCtorEq, reduceIte, Int.reduceLE, Int.reduceLT, Int.reduceGT, Int.reduceGE, Int.reduceNe, Int.reduceEq, Int.reduceToNat, e1, e2])
    all_goals first
      | (simp only [*, e1, e2]; done)
      | (simp [*, e1, e2]; done)
      | (simp_all [e1, e2]; done)
      | (simp_all [e1, e2]; omega)
      | skip
  have e2 := dlt hj'
  obtain ⟨st, hst⟩ := lt_get hk'
  obtain ⟨t, ht⟩ := lt_get hj'
  have g1 := getD_map (enc := u8c) hst
  have g2 := getD_map (enc := u64c) ht
  have hw := inc64 (k := k) (by omega)
  by_cases ha : advE ⟨i, p, d, s, a, f⟩ st t = 0
  case neg =>
    have hn := adv_bad ⟨i, p, d, s, a, f⟩ st t ha
    generalize advE ⟨i, p, d, s, a, f⟩ st t = E at *
    (try simp only [push_cast, Nat.reduceAdd, Nat.reduceBEq, Nat.reduceEqDiff, Nat.reduceMul, Nat.reducePow, Int.reduceBNe, Int.reduceBEq, Nat.reduceLT, Nat.reduceLeDiff, reduceCtorEq, reduceIte, Int.reduceLE, Int.reduceLT, Int.reduceGT, Int.reduceGE, Int.reduceNe, Int.reduceEq, Int.reduceToNat, e1, e2, g1, g2, hw, ha])
    repeat' (first
      | ((first | refine brX_split ?_ ?_ | refine gX_split ?_ ?_ | refine hX_split ?_ ?_ | refine outK_split ?_ ?_) <;> (intro xc; (try simp only [Bool.not_eq_true', Bool.not_eq_false'] at xc); have xp := xc; (try simp only [decide_eq_true_eq, decide_eq_false_iff_not, Int.not_lt, Int.not_le, ge_iff_le, gt_iff_lt, Bool.and_eq_true, Bool.or_eq_false_iff] at xp); have xq := xp; (first | simp only [← Int.not_le] at xq | simp only [← Int.not_lt] at xq | clear xq)) <;> (try simp only [push_cast, Nat.reduceAdd, Nat.reduceBEq, Nat.reduceEqDiff, Nat.reduceMul, Nat.reducePow, Int.reduceBNe, Int.reduceBEq, Nat.reduceLT, Nat.reduceLeDiff, reduceCtorEq, reduceIte, Int.reduceLE, Int.reduceLT, Int.reduceGT, Int.reduceGE, Int.reduceNe, Int.reduceEq, Int.reduceToNat, *, e1, e2, g1, g2, hw, ha]))
      | ((first | refine ⟨.ret _, _, PCall.s (by first | exact hn) (by simp [push_cast, e1, e2, g1, g2, hw, ha]), ?_⟩ | refine ⟨.ret _, _, RCall.s (RCall.sh (by first | exact hn)) (by simp [push_cast, e1, e2, g1, g2, hw, ha]), ?_⟩ | refine ⟨_, _, SCall.lift (by first | exact hn) (outR_cl (by simp [push_cast]) (by simp [push_cast])) (by simp [push_cast, e1, e2, g1, g2, hw, ha]), ?_⟩ | refine ⟨_, (by first | exact hn), ?_⟩ | refine ⟨0, [], _, PCall.r (by first | exact hn), ?_⟩ | refine ⟨_, _, (by first | exact hn), ?_⟩ | refine ⟨_, _, _, RCall.sh (by first | exact hn), ?_⟩ | refine ⟨_, _, _, (by first | exact hn), ?_⟩ | ((fail_if_success (refine ⟨_, ?_, ?_⟩)); refine ⟨AV.any, ?_⟩) | refine ret_frz rfl ?_ (by simp [push_cast]) (by simp [push_cast, e1, e2, g1, g2, hw, ha]) (by simp [push_cast, e1, e2, g1, g2, hw, ha]) | refine end_frz rfl ?_ (by simp [push_cast]) (by simp [push_cast, e1, e2, g1, g2, hw, ha]) (by simp [push_cast, e1, e2, g1, g2, hw, ha]) | refine ret_now (by simp [push_cast]) ?_ (by simp [push_cast]) | refine end_now (by simp [push_cast]) ?_ (by simp [push_cast])) <;> (try simp only [push_cast, Nat.reduceAdd, Nat.reduceBEq, Nat.reduceEqDiff, Nat.reduceMul, Nat.reducePow, Int.reduceBNe, Int.reduceBEq, Nat.reduceLT, Nat.reduceLeDiff, reduceCtorEq, reduceIte, Int.reduceLE, Int.reduceLT, Int.reduceGT, Int.reduceGE, Int.reduceNe, Int.reduceEq, Int.reduceToNat, *, e1, e2, g1, g2, hw, ha]))
      | ((first | refine cv_ptE rfl rfl rfl rfl rfl ?_ | refine outQ_frz rfl ?_ (by simp [push_cast]) (by simp [push_cast, e1, e2, g1, g2, hw, ha]) | refine dfr_end (by simp) rfl ?_ (by simp [push_cast]) (by simp [push_cast, e1, e2, g1, g2, hw, ha])) <;> (try simp only [push_cast, Nat.reduceAdd, Nat.reduceBEq, Nat.reduceEqDiff, Nat.reduceMul, Nat.reducePow, Int.reduceBNe, Int.reduceBEq, Nat.reduceLT, Nat.reduceLeDiff, reduceCtorEq, reduceIte, Int.reduceLE, Int.reduceLT, Int.reduceGT, Int.reduceGE, Int.reduceNe, Int.reduceEq, Int.reduceToNat, e1, e2, g1, g2, hw, ha]))
      | exact cv_slE rfl rfl ⟨rfl, rfl⟩ (by simp) (by simp [take_map_len])
      | refine outQ_pan ?_ (by simp [push_cast])
      | refine outQ_unit ?_
      | refine outQ_unitN ?_
      | refine And.intro ?_ ?_
      | omega)
    all_goals (try simp only [push_cast, Nat.reduceAdd, Nat.reduceBEq, Nat.reduceEqDiff, Nat.reduceMul, Nat.reducePow, Int.reduceBNe, Int.reduceBEq, Nat.reduceLT, Nat.reduceLeDiff, reduceCtorEq, reduceIte, Int.reduceLE, Int.reduceLT, Int.reduceGT, Int.reduceGE, Int.reduceNe, Int.reduceEq, Int.reduceToNat, e1, e2, g1, g2, hw, ha])
    all_goals first
      | (simp only [*, e1, e2, g1, g2, hw, ha]; done)
      | (simp [*, e1, e2, g1, g2, hw, ha]; done)
      | (simp_all [e1, e2, g1, g2, hw, ha]; done)
      | (simp_all [e1, e2, g1, g2, hw, ha]; omega)
      | skip
    all_goals (refine rnd_to _ _ _ (k + 1, s, f) ⟨hk', hc⟩ (by first | omega | (dsimp only; omega)) ?_; simp only [pthS])
    all_goals rcases chk_st hc with rfl | rfl | rfl | rfl | rfl
    all_goals simp only [seenL, Int.reduceEq, decide_true, decide_false, cond_true, cond_false]
    all_goals (apply Wk.renA (fun _ => false); (case he => (try simp only [push_cast, Nat.reduceBEq, Nat.reduceLeDiff, Nat.reduceAdd]); (repeat' (first | exact trivial | (refine cv_ptE rfl rfl rfl rfl rfl ?_; simp only [push_cast, Nat.reduceBEq, Nat.reduceLeDiff, Nat.reduceAdd]) | exact cv_slE rfl rfl ⟨rfl, rfl⟩ (by simp) (by simp [take_map_len]) | exact cv_slG rfl rfl ⟨rfl, rfl⟩ (by simp) (by first | rfl | (simp; done)) (by first | rfl | (simp; done) | (simp; omega)) (by simp [push_cast]) | exact cv_ros_self (by simp [push_cast]) | exact bel_ros_cl (by simp [push_cast]) | exact cellsCv_eq (by simp [take_map_len]) (by simp [push_cast]) | refine And.intro ?_ ?_ | rfl | omega | (simp; done) | (simp; omega)))); (case hr => (try simp only [push_cast, Nat.reduceBEq, Nat.reduceLeDiff, Nat.reduceAdd]); (repeat' (first | exact trivial | (refine cv_ptE rfl rfl rfl rfl rfl ?_; simp only [push_cast, Nat.reduceBEq, Nat.reduceLeDiff, Nat.reduceAdd]) | exact cv_slE rfl rfl ⟨rfl, rfl⟩ (by simp) (by simp [take_map_len]) | exact cv_slG rfl rfl ⟨rfl, rfl⟩ (by simp) (by first | rfl | (simp; done)) (by first | rfl | (simp; done) | (simp; omega)) (by simp [push_cast]) | exact cv_ros_self (by simp [push_cast]) | exact bel_ros_cl (by simp [push_cast]) | exact cellsCv_eq (by simp [take_map_len]) (by simp [push_cast]) | refine And.intro ?_ ?_ | rfl | omega | (simp; done) | (simp; omega)))); (case hinj => simp [rhoA_0, rhoA_1, rhoA_2]); all_goals exact 0)
  have hn := adv_ok _ _ _ ha
  obtain ⟨_, hb, hf⟩ := adv_split ha
  have ht0 := h0 t (List.mem_of_getElem? ht)
  have hv := adv_valid ha ht0
  have hdn := chk_done hc
  simp only [advO] at hn
  simp only at hv hf
  have hk2 := check_p i p d st a (selI (decide (st = 4)) t f)
  rcases fol_split hf with ⟨rfl, rfl⟩ | ⟨rfl, rfl⟩ | ⟨rfl, rfl⟩ | ⟨rfl, rfl⟩
  all_goals simp only [selI, seenL, Int.reduceEq, decide_true, decide_false, cond_true, cond_false, doneB, argB, decide_eq_true_eq, Bool.and_eq_true, Bool.not_eq_true'] at *
  · subst hdn
    (try simp only [push_cast, Nat.reduceAdd, Nat.reduceBEq, Nat.reduceEqDiff, Nat.reduceMul, Nat.reducePow, Int.reduceBNe, Int.reduceBEq, Nat.reduceLT, Nat.reduceLeDiff, reduceCtorEq, reduceIte, Int.reduceLE, Int.reduceLT, Int.reduceGT, Int.reduceGE, Int.reduceNe, Int.reduceEq, Int.reduceToNat, e1, e2, g1, g2, hw, hv])
    repeat' (first
      | ((first | refine brX_split ?_ ?_ | refine gX_split ?_ ?_ | refine hX_split ?_ ?_ | refine outK_split ?_ ?_) <;> (intro xc; (try simp only [Bool.not_eq_true', Bool.not_eq_false'] at xc); have xp := xc; (try simp only [decide_eq_true_eq, decide_eq_false_iff_not, Int.not_lt, Int.not_le, ge_iff_le, gt_iff_lt, Bool.and_eq_true, Bool.or_eq_false_iff] at xp); have xq := xp; (first | simp only [← Int.not_le] at xq | simp only [← Int.not_lt] at xq | clear xq)) <;> (try simp only [push_cast, Nat.reduceAdd, Nat.reduceBEq, Nat.reduceEqDiff, Nat.reduceMul, Nat.reducePow, Int.reduceBNe, Int.reduceBEq, Nat.reduceLT, Nat.reduceLeDiff, reduceCtorEq, reduceIte, Int.reduceLE, Int.reduceLT, Int.reduceGT, Int.reduceGE, Int.reduceNe, Int.reduceEq, Int.reduceToNat, *, e1, e2, g1, g2, hw, hv]))
      | ((first | refine ⟨.ret _, _, PCall.s (by first | exact hn | exact hk2) (by simp [push_cast, e1, e2, g1, g2, hw, hv]), ?_⟩ | refine ⟨.ret _, _, RCall.s (RCall.sh (by first | exact hn | exact hk2)) (by simp [push_cast, e1, e2, g1, g2, hw, hv]), ?_⟩ | refine ⟨_, _, SCall.lift (by first | exact hn | exact hk2) (outR_cl (by simp [push_cast]) (by simp [push_cast])) (by simp [push_cast, e1, e2, g1, g2, hw, hv]), ?_⟩ | refine ⟨_, (by first | exact hn | exact hk2), ?_⟩ | refine ⟨0, [], _, PCall.r (by first | exact hn | exact hk2), ?_⟩ | refine ⟨_, _, (by first | exact hn | exact hk2), ?_⟩ | refine ⟨_, _, _, RCall.sh (by first | exact hn | exact hk2), ?_⟩ | refine ⟨_, _, _, (by first | exact hn | exact hk2), ?_⟩ | ((fail_if_success (refine ⟨_, ?_, ?_⟩)); refine ⟨AV.any, ?_⟩) | refine ret_frz rfl ?_ (by simp [push_cast]) (by simp [push_cast, e1, e2, g1, g2, hw, hv]) (by simp [push_cast, e1, e2, g1, g2, hw, hv]) | refine end_frz rfl ?_ (by simp [push_cast]) (by simp [push_cast, e1, e2, g1, g2, hw, hv]) (by simp [push_cast, e1, e2, g1, g2, hw, hv]) | refine ret_now (by simp [push_cast]) ?_ (by simp [push_cast]) | refine end_now (by simp [push_cast]) ?_ (by simp [push_cast])) <;> (try simp only [push_cast, Nat.reduceAdd, Nat.reduceBEq, Nat.reduceEqDiff, Nat.reduceMul, Nat.reducePow, Int.reduceBNe, Int.reduceBEq, Nat.reduceLT, Nat.reduceLeDiff, reduceCtorEq, reduceIte, Int.reduceLE, Int.reduceLT, Int.reduceGT, Int.reduceGE, Int.reduceNe, Int.reduceEq, Int.reduceToNat, *, e1, e2, g1, g2, hw, hv]))
      | ((first | refine cv_ptE rfl rfl rfl rfl rfl ?_ | refine outQ_frz rfl ?_ (by simp [push_cast]) (by simp [push_cast, e1, e2, g1, g2, hw, hv]) | refine dfr_end (by simp) rfl ?_ (by simp [push_cast]) (by simp [push_cast, e1, e2, g1, g2, hw, hv])) <;> (try simp only [push_cast, Nat.reduceAdd, Nat.reduceBEq, Nat.reduceEqDiff, Nat.reduceMul, Nat.reducePow, Int.reduceBNe, Int.reduceBEq, Nat.reduceLT, Nat.reduceLeDiff, reduceCtorEq, reduceIte, Int.reduceLE, Int.reduceLT, Int.reduceGT, Int.reduceGE, Int.reduceNe, Int.reduceEq, Int.reduceToNat, e1, e2, g1, g2, hw, hv]))
      | exact cv_slE rfl rfl ⟨rfl, rfl⟩ (by simp) (by simp [take_map_len])
      | refine outQ_pan ?_ (by simp [push_cast])
      | refine outQ_unit ?_
      | refine outQ_unitN ?_
      | refine And.intro ?_ ?_
      | omega)
    all_goals (try simp only [push_cast, Nat.reduceAdd, Nat.reduceBEq, Nat.reduceEqDiff, Nat.reduceMul, Nat.reducePow, Int.reduceBNe, Int.reduceBEq, Nat.reduceLT, Nat.reduceLeDiff, reduceCtorEq, reduceIte, Int.reduceLE, Int.reduceLT, Int.reduceGT, Int.reduceGE, Int.reduceNe, Int.reduceEq, Int.reduceToNat, e1, e2, g1, g2, hw, hv])
    all_goals first
      | (simp only [*, e1, e2, g1, g2, hw, hv]; done)
      | (simp [*, e1, e2, g1, g2, hw, hv]; done)
      | (simp_all [e1, e2, g1, g2, hw, hv]; done)
      | (simp_all [e1, e2, g1, g2, hw, hv]; omega)
      | (exfalso; omega)
      | skip
    all_goals (refine rnd_to _ _ _ (k + 1, 2, 0) ⟨hk', hv⟩ (by first | omega | (dsimp only; omega)) ?_; simp only [pthS, seenL, Int.reduceEq, decide_true, decide_false, cond_true, cond_false])
    all_goals (apply Wk.renA (fun _ => false); (case he => (try simp only [push_cast, Nat.reduceBEq, Nat.reduceLeDiff, Nat.reduceAdd]); (repeat' (first | exact trivial | (refine cv_ptE rfl rfl rfl rfl rfl ?_; simp only [push_cast, Nat.reduceBEq, Nat.reduceLeDiff, Nat.reduceAdd]) | exact cv_slE rfl rfl ⟨rfl, rfl⟩ (by simp) (by simp [take_map_len]) | exact cv_slG rfl rfl ⟨rfl, rfl⟩ (by simp) (by first | rfl | (simp; done)) (by first | rfl | (simp; done) | (simp; omega)) (by simp [push_cast]) | exact cv_ros_self (by simp [push_cast]) | exact bel_ros_cl (by simp [push_cast]) | exact cellsCv_eq (by simp [take_map_len]) (by simp [push_cast]) | refine And.intro ?_ ?_ | rfl | omega | (simp; done) | (simp; omega)))); (case hr => (try simp only [push_cast, Nat.reduceBEq, Nat.reduceLeDiff, Nat.reduceAdd]); (repeat' (first | exact trivial | (refine cv_ptE rfl rfl rfl rfl rfl ?_; simp only [push_cast, Nat.reduceBEq, Nat.reduceLeDiff, Nat.reduceAdd]) | exact cv_slE rfl rfl ⟨rfl, rfl⟩ (by simp) (by simp [take_map_len]) | exact cv_slG rfl rfl ⟨rfl, rfl⟩ (by simp) (by first | rfl | (simp; done)) (by first | rfl | (simp; done) | (simp; omega)) (by simp [push_cast]) | exact cv_ros_self (by simp [push_cast]) | exact bel_ros_cl (by simp [push_cast]) | exact cellsCv_eq (by simp [take_map_len]) (by simp [push_cast]) | refine And.intro ?_ ?_ | rfl | omega | (simp; done) | (simp; omega)))); (case hinj => simp [rhoA_0, rhoA_1, rhoA_2]); all_goals exact 0)
  · subst hdn
    (try simp only [push_cast, Nat.reduceAdd, Nat.reduceBEq, Nat.reduceEqDiff, Nat.reduceMul, Nat.reducePow, Int.reduceBNe, Int.reduceBEq, Nat.reduceLT, Nat.reduceLeDiff, reduceCtorEq, reduceIte, Int.reduceLE, Int.reduceLT, Int.reduceGT, Int.reduceGE, Int.reduceNe, Int.reduceEq, Int.reduceToNat, e1, e2, g1, g2, hw, hv])
    repeat' (first
      | ((first | refine brX_split ?_ ?_ | refine gX_split ?_ ?_ | refine hX_split ?_ ?_ | refine outK_split ?_ ?_) <;> (intro xc; (try simp only [Bool.not_eq_true', Bool.not_eq_false'] at xc); have xp := xc; (try simp only [decide_eq_true_eq, decide_eq_false_iff_not, Int.not_lt, Int.not_le, ge_iff_le, gt_iff_lt, Bool.and_eq_true, Bool.or_eq_false_iff] at xp); have xq := xp; (first | simp only [← Int.not_le] at xq | simp only [← Int.not_lt] at xq | clear xq)) <;> (try simp only [push_cast, Nat.reduceAdd, Nat.reduceBEq, Nat.reduceEqDiff, Nat.reduceMul, Nat.reducePow, Int.reduceBNe, Int.reduceBEq, Nat.reduceLT, Nat.reduceLeDiff, reduceCtorEq, reduceIte, Int.reduceLE, Int.reduceLT, Int.reduceGT, Int.reduceGE, Int.reduceNe, Int.reduceEq, Int.reduceToNat, *, e1, e2, g1, g2, hw, hv]))
      | ((first | refine ⟨.ret _, _, PCall.s (by first | exact hn | exact hk2) (by simp [push_cast, e1, e2, g1, g2, hw, hv]), ?_⟩ | refine ⟨.ret _, _, RCall.s (RCall.sh (by first | exact hn | exact hk2)) (by simp [push_cast, e1, e2, g1, g2, hw, hv]), ?_⟩ | refine ⟨_, _, SCall.lift (by first | exact hn | exact hk2) (outR_cl (by simp [push_cast]) (by simp [push_cast])) (by simp [push_cast, e1, e2, g1, g2, hw, hv]), ?_⟩ | refine ⟨_, (by first | exact hn | exact hk2), ?_⟩ | refine ⟨0, [], _, PCall.r (by first | exact hn | exact hk2), ?_⟩ | refine ⟨_, _, (by first | exact hn | exact hk2), ?_⟩ | refine ⟨_, _, _, RCall.sh (by first | exact hn | exact hk2), ?_⟩ | refine ⟨_, _, _, (by first | exact hn | exact hk2), ?_⟩ | ((fail_if_success (refine ⟨_, ?_, ?_⟩)); refine ⟨AV.any, ?_⟩) | refine ret_frz rfl ?_ (by simp [push_cast]) (by simp [push_cast, e1, e2, g1, g2, hw, hv]) (by simp [push_cast, e1, e2, g1, g2, hw, hv]) | refine end_frz rfl ?_ (by simp [push_cast]) (by simp [push_cast, e1, e2, g1, g2, hw, hv]) (by simp [push_cast, e1, e2, g1, g2, hw, hv]) | refine ret_now (by simp [push_cast]) ?_ (by simp [push_cast]) | refine end_now (by simp [push_cast]) ?_ (by simp [push_cast])) <;> (try simp only [push_cast, Nat.reduceAdd, Nat.reduceBEq, Nat.reduceEqDiff, Nat.reduceMul, Nat.reducePow, Int.reduceBNe, Int.reduceBEq, Nat.reduceLT, Nat.reduceLeDiff, reduceCtorEq, reduceIte, Int.reduceLE, Int.reduceLT, Int.reduceGT, Int.reduceGE, Int.reduceNe, Int.reduceEq, Int.reduceToNat, *, e1, e2, g1, g2, hw, hv]))
      | ((first | refine cv_ptE rfl rfl rfl rfl rfl ?_ | refine outQ_frz rfl ?_ (by simp [push_cast]) (by simp [push_cast, e1, e2, g1, g2, hw, hv]) | refine dfr_end (by simp) rfl ?_ (by simp [push_cast]) (by simp [push_cast, e1, e2, g1, g2, hw, hv])) <;> (try simp only [push_cast, Nat.reduceAdd, Nat.reduceBEq, Nat.reduceEqDiff, Nat.reduceMul, Nat.reducePow, Int.reduceBNe, Int.reduceBEq, Nat.reduceLT, Nat.reduceLeDiff, reduceCtorEq, reduceIte, Int.reduceLE, Int.reduceLT, Int.reduceGT, Int.reduceGE, Int.reduceNe, Int.reduceEq, Int.reduceToNat, e1, e2, g1, g2, hw, hv]))
      | exact cv_slE rfl rfl ⟨rfl, rfl⟩ (by simp) (by simp [take_map_len])
      | refine outQ_pan ?_ (by simp [push_cast])
      | refine outQ_unit ?_
      | refine outQ_unitN ?_
      | refine And.intro ?_ ?_
      | omega)
    all_goals (try simp only [push_cast, Nat.reduceAdd, Nat.reduceBEq, Nat.reduceEqDiff, Nat.reduceMul, Nat.reducePow, Int.reduceBNe, Int.reduceBEq, Nat.reduceLT, Nat.reduceLeDiff, reduceCtorEq, reduceIte, Int.reduceLE, Int.reduceLT, Int.reduceGT, Int.reduceGE, Int.reduceNe, Int.reduceEq, Int.reduceToNat, e1, e2, g1, g2, hw, hv])
    all_goals first
      | (simp only [*, e1, e2, g1, g2, hw, hv]; done)
      | (simp [*, e1, e2, g1, g2, hw, hv]; done)
      | (simp_all [e1, e2, g1, g2, hw, hv]; done)
      | (simp_all [e1, e2, g1, g2, hw, hv]; omega)
      | (exfalso; omega)
      | skip
    all_goals (refine rnd_to _ _ _ (k + 1, 5, 0) ⟨hk', hv⟩ (by first | omega | (dsimp only; omega)) ?_; simp only [pthS, seenL, Int.reduceEq, decide_true, decide_false, cond_true, cond_false])
    all_goals (apply Wk.renA (fun _ => false); (case he => (try simp only [push_cast, Nat.reduceBEq, Nat.reduceLeDiff, Nat.reduceAdd]); (repeat' (first | exact trivial | (refine cv_ptE rfl rfl rfl rfl rfl ?_; simp only [push_cast, Nat.reduceBEq, Nat.reduceLeDiff, Nat.reduceAdd]) | exact cv_slE rfl rfl ⟨rfl, rfl⟩ (by simp) (by simp [take_map_len]) | exact cv_slG rfl rfl ⟨rfl, rfl⟩ (by simp) (by first | rfl | (simp; done)) (by first | rfl | (simp; done) | (simp; omega)) (by simp [push_cast]) | exact cv_ros_self (by simp [push_cast]) | exact bel_ros_cl (by simp [push_cast]) | exact cellsCv_eq (by simp [take_map_len]) (by simp [push_cast]) | refine And.intro ?_ ?_ | rfl | omega | (simp; done) | (simp; omega)))); (case hr => (try simp only [push_cast, Nat.reduceBEq, Nat.reduceLeDiff, Nat.reduceAdd]); (repeat' (first | exact trivial | (refine cv_ptE rfl rfl rfl rfl rfl ?_; simp only [push_cast, Nat.reduceBEq, Nat.reduceLeDiff, Nat.reduceAdd]) | exact cv_slE rfl rfl ⟨rfl, rfl⟩ (by simp) (by simp [take_map_len]) | exact cv_slG rfl rfl ⟨rfl, rfl⟩ (by simp) (by first | rfl | (simp; done)) (by first | rfl | (simp; done) | (simp; omega)) (by simp [push_cast]) | exact cv_ros_self (by simp [push_cast]) | exact bel_ros_cl (by simp [push_cast]) | exact cellsCv_eq (by simp [take_map_len]) (by simp [push_cast]) | refine And.intro ?_ ?_ | rfl | omega | (simp; done) | (simp; omega)))); (case hinj => simp [rhoA_0, rhoA_1, rhoA_2]); all_goals exact 0)
  · subst hdn
    (try simp only [push_cast, Nat.reduceAdd, Nat.reduceBEq, Nat.reduceEqDiff, Nat.reduceMul, Nat.reducePow, Int.reduceBNe, Int.reduceBEq, Nat.reduceLT, Nat.reduceLeDiff, reduceCtorEq, reduceIte, Int.reduceLE, Int.reduceLT, Int.reduceGT, Int.reduceGE, Int.reduceNe, Int.reduceEq, Int.reduceToNat, e1, e2, g1, g2, hw, hv])
    repeat' (first
      | ((first | refine brX_split ?_ ?_ | refine gX_split ?_ ?_ | refine hX_split ?_ ?_ | refine outK_split ?_ ?_) <;> (intro xc; (try simp only [Bool.not_eq_true', Bool.not_eq_false'] at xc); have xp := xc; (try simp only [decide_eq_true_eq, decide_eq_false_iff_not, Int.not_lt, Int.not_le, ge_iff_le, gt_iff_lt, Bool.and_eq_true, Bool.or_eq_false_iff] at xp); have xq := xp; (first | simp only [← Int.not_le] at xq | simp only [← Int.not_lt] at xq | clear xq)) <;> (try simp only [push_cast, Nat.reduceAdd, Nat.reduceBEq, Nat.reduceEqDiff, Nat.reduceMul, Nat.reducePow, Int.reduceBNe, Int.reduceBEq, Nat.reduceLT, Nat.reduceLeDiff, reduceCtorEq, reduceIte, Int.reduceLE, Int.reduceLT, Int.reduceGT, Int.reduceGE, Int.reduceNe, Int.reduceEq, Int.reduceToNat, *, e1, e2, g1, g2, hw, hv]))
      | ((first | refine ⟨.ret _, _, PCall.s (by first | exact hn | exact hk2) (by simp [push_cast, e1, e2, g1, g2, hw, hv]), ?_⟩ | refine ⟨.ret _, _, RCall.s (RCall.sh (by first | exact hn | exact hk2)) (by simp [push_cast, e1, e2, g1, g2, hw, hv]), ?_⟩ | refine ⟨_, _, SCall.lift (by first | exact hn | exact hk2) (outR_cl (by simp [push_cast]) (by simp [push_cast])) (by simp [push_cast, e1, e2, g1, g2, hw, hv]), ?_⟩ | refine ⟨_, (by first | exact hn | exact hk2), ?_⟩ | refine ⟨0, [], _, PCall.r (by first | exact hn | exact hk2), ?_⟩ | refine ⟨_, _, (by first | exact hn | exact hk2), ?_⟩ | refine ⟨_, _, _, RCall.sh (by first | exact hn | exact hk2), ?_⟩ | refine ⟨_, _, _, (by first | exact hn | exact hk2), ?_⟩ | ((fail_if_success (refine ⟨_, ?_, ?_⟩)); refine ⟨AV.any, ?_⟩) | refine ret_frz rfl ?_ (by simp [push_cast]) (by simp [push_cast, e1, e2, g1, g2, hw, hv]) (by simp [push_cast, e1, e2, g1, g2, hw, hv]) | refine end_frz rfl ?_ (by simp [push_cast]) (by simp [push_cast, e1, e2, g1, g2, hw, hv]) (by simp [push_cast, e1, e2, g1, g2, hw, hv]) | refine ret_now (by simp [push_cast]) ?_ (by simp [push_cast]) | refine end_now (by simp [push_cast]) ?_ (by simp [push_cast])) <;> (try simp only [push_cast, Nat.reduceAdd, Nat.reduceBEq, Nat.reduceEqDiff, Nat.reduceMul, Nat.reducePow, Int.reduceBNe, Int.reduceBEq, Nat.reduceLT, Nat.reduceLeDiff, reduceCtorEq, reduceIte, Int.reduceLE, Int.reduceLT, Int.reduceGT, Int.reduceGE, Int.reduceNe, Int.reduceEq, Int.reduceToNat, *, e1, e2, g1, g2, hw, hv]))
      | ((first | refine cv_ptE rfl rfl rfl rfl rfl ?_ | refine outQ_frz rfl ?_ (by simp [push_cast]) (by simp [push_cast, e1, e2, g1, g2, hw, hv]) | refine dfr_end (by simp) rfl ?_ (by simp [push_cast]) (by simp [push_cast, e1, e2, g1, g2, hw, hv])) <;> (try simp only [push_cast, Nat.reduceAdd, Nat.reduceBEq, Nat.reduceEqDiff, Nat.reduceMul, Nat.reducePow, Int.reduceBNe, Int.reduceBEq, Nat.reduceLT, Nat.reduceLeDiff, reduceCtorEq, reduceIte, Int.reduceLE, Int.reduceLT, Int.reduceGT, Int.reduceGE, Int.reduceNe, Int.reduceEq, Int.reduceToNat, e1, e2, g1, g2, hw, hv]))
      | exact cv_slE rfl rfl ⟨rfl, rfl⟩ (by simp) (by simp [take_map_len])
      | refine outQ_pan ?_ (by simp [push_cast])
      | refine outQ_unit ?_
      | refine outQ_unitN ?_
      | refine And.intro ?_ ?_
      | omega)
    all_goals (try simp only [push_cast, Nat.reduceAdd, Nat.reduceBEq, Nat.reduceEqDiff, Nat.reduceMul, Nat.reducePow, Int.reduceBNe, Int.reduceBEq, Nat.reduceLT, Nat.reduceLeDiff, reduceCtorEq, reduceIte, Int.reduceLE, Int.reduceLT, Int.reduceGT, Int.reduceGE, Int.reduceNe, Int.reduceEq, Int.reduceToNat, e1, e2, g1, g2, hw, hv])
    all_goals first
      | (simp only [*, e1, e2, g1, g2, hw, hv]; done)
      | (simp [*, e1, e2, g1, g2, hw, hv]; done)
      | (simp_all [e1, e2, g1, g2, hw, hv]; done)
      | (simp_all [e1, e2, g1, g2, hw, hv]; omega)
      | (exfalso; omega)
      | skip
    all_goals (refine rnd_to _ _ _ (k + 1, 3, 0) ⟨hk', hv⟩ (by first | omega | (dsimp only; omega)) ?_; simp only [pthS, seenL, Int.reduceEq, decide_true, decide_false, cond_true, cond_false])
    all_goals (apply Wk.renA (fun _ => false); (case he => (try simp only [push_cast, Nat.reduceBEq, Nat.reduceLeDiff, Nat.reduceAdd]); (repeat' (first | exact trivial | (refine cv_ptE rfl rfl rfl rfl rfl ?_; simp only [push_cast, Nat.reduceBEq, Nat.reduceLeDiff, Nat.reduceAdd]) | exact cv_slE rfl rfl ⟨rfl, rfl⟩ (by simp) (by simp [take_map_len]) | exact cv_slG rfl rfl ⟨rfl, rfl⟩ (by simp) (by first | rfl | (simp; done)) (by first | rfl | (simp; done) | (simp; omega)) (by simp [push_cast]) | exact cv_ros_self (by simp [push_cast]) | exact bel_ros_cl (by simp [push_cast]) | exact cellsCv_eq (by simp [take_map_len]) (by simp [push_cast]) | refine And.intro ?_ ?_ | rfl | omega | (simp; done) | (simp; omega)))); (case hr => (try simp only [push_cast, Nat.reduceBEq, Nat.reduceLeDiff, Nat.reduceAdd]); (repeat' (first | exact trivial | (refine cv_ptE rfl rfl rfl rfl rfl ?_; simp only [push_cast, Nat.reduceBEq, Nat.reduceLeDiff, Nat.reduceAdd]) | exact cv_slE rfl rfl ⟨rfl, rfl⟩ (by simp) (by simp [take_map_len]) | exact cv_slG rfl rfl ⟨rfl, rfl⟩ (by simp) (by first | rfl | (simp; done)) (by first | rfl | (simp; done) | (simp; omega)) (by simp [push_cast]) | exact cv_ros_self (by simp [push_cast]) | exact bel_ros_cl (by simp [push_cast]) | exact cellsCv_eq (by simp [take_map_len]) (by simp [push_cast]) | refine And.intro ?_ ?_ | rfl | omega | (simp; done) | (simp; omega)))); (case hinj => simp [rhoA_0, rhoA_1, rhoA_2]); all_goals exact 0)
  · subst hdn
    have hb2 : ¬ t = 0 := fun e => by simp [e] at hb
    have hb3 : ¬ t > 4611686018427387904 := by omega
    (try simp only [push_cast, Nat.reduceAdd, Nat.reduceBEq, Nat.reduceEqDiff, Nat.reduceMul, Nat.reducePow, Int.reduceBNe, Int.reduceBEq, Nat.reduceLT, Nat.reduceLeDiff, reduceCtorEq, reduceIte, Int.reduceLE, Int.reduceLT, Int.reduceGT, Int.reduceGE, Int.reduceNe, Int.reduceEq, Int.reduceToNat, e1, e2, g1, g2, hw, hv, hb2, hb3])
    repeat' (first
      | ((first | refine brX_split ?_ ?_ | refine gX_split ?_ ?_ | refine hX_split ?_ ?_ | refine outK_split ?_ ?_) <;> (intro xc; (try simp only [Bool.not_eq_true', Bool.not_eq_false'] at xc); have xp := xc; (try simp only [decide_eq_true_eq, decide_eq_false_iff_not, Int.not_lt, Int.not_le, ge_iff_le, gt_iff_lt, Bool.and_eq_true, Bool.or_eq_false_iff] at xp); have xq := xp; (first | simp only [← Int.not_le] at xq | simp only [← Int.not_lt] at xq | clear xq)) <;> (try simp only [push_cast, Nat.reduceAdd, Nat.reduceBEq, Nat.reduceEqDiff, Nat.reduceMul, Nat.reducePow, Int.reduceBNe, Int.reduceBEq, Nat.reduceLT, Nat.reduceLeDiff, reduceCtorEq, reduceIte, Int.reduceLE, Int.reduceLT, Int.reduceGT, Int.reduceGE, Int.reduceNe, Int.reduceEq, Int.reduceToNat, *, e1, e2, g1, g2, hw, hv, hb2, hb3]))
      | ((first | refine ⟨.ret _, _, PCall.s (by first | exact hn | exact hk2) (by simp [push_cast, e1, e2, g1, g2, hw, hv, hb2, hb3]), ?_⟩ | refine ⟨.ret _, _, RCall.s (RCall.sh (by first | exact hn | exact hk2)) (by simp [push_cast, e1, e2, g1, g2, hw, hv, hb2, hb3]), ?_⟩ | refine ⟨_, _, SCall.lift (by first | exact hn | exact hk2) (outR_cl (by simp [push_cast]) (by simp [push_cast])) (by simp [push_cast, e1, e2, g1, g2, hw, hv, hb2, hb3]), ?_⟩ | refine ⟨_, (by first | exact hn | exact hk2), ?_⟩ | refine ⟨0, [], _, PCall.r (by first | exact hn | exact hk2), ?_⟩ | refine ⟨_, _, (by first | exact hn | exact hk2), ?_⟩ | refine ⟨_, _, _, RCall.sh (by first | exact hn | exact hk2), ?_⟩ | refine ⟨_, _, _, (by first | exact hn | exact hk2), ?_⟩ | ((fail_if_success (refine ⟨_, ?_, ?_⟩)); refine ⟨AV.any, ?_⟩) | refine ret_frz rfl ?_ (by simp [push_cast]) (by simp [push_cast, e1, e2, g1, g2, hw, hv, hb2, hb3]) (by simp [push_cast, e1, e2, g1, g2, hw, hv, hb2, hb3]) | refine end_frz rfl ?_ (by simp [push_cast]) (by simp [push_cast, e1, e2, g1, g2, hw, hv, hb2, hb3]) (by simp [push_cast, e1, e2, g1, g2, hw, hv, hb2, hb3]) | refine ret_now (by simp [push_cast]) ?_ (by simp [push_cast]) | refine end_now (by simp [push_cast]) ?_ (by simp [push_cast])) <;> (try simp only [push_cast, Nat.reduceAdd, Nat.reduceBEq, Nat.reduceEqDiff, Nat.reduceMul, Nat.reducePow, Int.reduceBNe, Int.reduceBEq, Nat.reduceLT, Nat.reduceLeDiff, reduceCtorEq, reduceIte, Int.reduceLE, Int.reduceLT, Int.reduceGT, Int.reduceGE, Int.reduceNe, Int.reduceEq, Int.reduceToNat, *, e1, e2, g1, g2, hw, hv, hb2, hb3]))
      | ((first | refine cv_ptE rfl rfl rfl rfl rfl ?_ | refine outQ_frz rfl ?_ (by simp [push_cast]) (by simp [push_cast, e1, e2, g1, g2, hw, hv, hb2, hb3]) | refine dfr_end (by simp) rfl ?_ (by simp [push_cast]) (by simp [push_cast, e1, e2, g1, g2, hw, hv, hb2, hb3])) <;> (try simp only [push_cast, Nat.reduceAdd, Nat.reduceBEq, Nat.reduceEqDiff, Nat.reduceMul, Nat.reducePow, Int.reduceBNe, Int.reduceBEq, Nat.reduceLT, Nat.reduceLeDiff, reduceCtorEq, reduceIte, Int.reduceLE, Int.reduceLT, Int.reduceGT, Int.reduceGE, Int.reduceNe, Int.reduceEq, Int.reduceToNat, e1, e2, g1, g2, hw, hv, hb2, hb3]))
      | exact cv_slE rfl rfl ⟨rfl, rfl⟩ (by simp) (by simp [take_map_len])
      | refine outQ_pan ?_ (by simp [push_cast])
      | refine outQ_unit ?_
      | refine outQ_unitN ?_
      | refine And.intro ?_ ?_
      | omega)
    all_goals (try simp only [push_cast, Nat.reduceAdd, Nat.reduceBEq, Nat.reduceEqDiff, Nat.reduceMul, Nat.reducePow, Int.reduceBNe, Int.reduceBEq, Nat.reduceLT, Nat.reduceLeDiff, reduceCtorEq, reduceIte, Int.reduceLE, Int.reduceLT, Int.reduceGT, Int.reduceGE, Int.reduceNe, Int.reduceEq, Int.reduceToNat, e1, e2, g1, g2, hw, hv, hb2, hb3])
    all_goals first
      | (simp only [*, e1, e2, g1, g2, hw, hv, hb2, hb3]; done)
      | (simp [*, e1, e2, g1, g2, hw, hv, hb2, hb3]; done)
      | (simp_all [e1, e2, g1, g2, hw, hv, hb2, hb3]; done)
      | (simp_all [e1, e2, g1, g2, hw, hv, hb2, hb3]; omega)
      | (exfalso; omega)
      | skip
    all_goals (refine rnd_to _ _ _ (k + 1, 4, t) ⟨hk', hv⟩ (by first | omega | (dsimp only; omega)) ?_; simp only [pthS, seenL, Int.reduceEq, decide_true, decide_false, cond_true, cond_false])
    all_goals (apply Wk.renA (fun _ => false); (case he => (try simp only [push_cast, Nat.reduceBEq, Nat.reduceLeDiff, Nat.reduceAdd]); (repeat' (first | exact trivial | (refine cv_ptE rfl rfl rfl rfl rfl ?_; simp only [push_cast, Nat.reduceBEq, Nat.reduceLeDiff, Nat.reduceAdd]) | exact cv_slE rfl rfl ⟨rfl, rfl⟩ (by simp) (by simp [take_map_len]) | exact cv_slG rfl rfl ⟨rfl, rfl⟩ (by simp) (by first | rfl | (simp; done)) (by first | rfl | (simp; done) | (simp; omega)) (by simp [push_cast]) | exact cv_ros_self (by simp [push_cast]) | exact bel_ros_cl (by simp [push_cast]) | exact cellsCv_eq (by simp [take_map_len]) (by simp [push_cast]) | refine And.intro ?_ ?_ | rfl | omega | (simp; done) | (simp; omega)))); (case hr => (try simp only [push_cast, Nat.reduceBEq, Nat.reduceLeDiff, Nat.reduceAdd]); (repeat' (first | exact trivial | (refine cv_ptE rfl rfl rfl rfl rfl ?_; simp only [push_cast, Nat.reduceBEq, Nat.reduceLeDiff, Nat.reduceAdd]) | exact cv_slE rfl rfl ⟨rfl, rfl⟩ (by simp) (by simp [take_map_len]) | exact cv_slG rfl rfl ⟨rfl, rfl⟩ (by simp) (by first | rfl | (simp; done)) (by first | rfl | (simp; done) | (simp; omega)) (by simp [push_cast]) | exact cv_ros_self (by simp [push_cast]) | exact bel_ros_cl (by simp [push_cast]) | exact cellsCv_eq (by simp [take_map_len]) (by simp [push_cast]) | refine And.intro ?_ ?_ | rfl | omega | (simp; done) | (simp; omega)))); (case hinj => simp [rhoA_0, rhoA_1, rhoA_2]); all_goals exact 0)
end Go.Proofs.Ytihkijccnimgbaa
