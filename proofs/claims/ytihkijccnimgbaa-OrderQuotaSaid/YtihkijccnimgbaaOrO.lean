/- Facts of the program over abstract values. No condition. -/
import Derived.Test.YtihkijccnimgbaaOrN
import Derived.Test.YtihkijccnimgbaaAiT
set_option linter.unusedSimpArgs false
set_option linter.unusedVariables false
set_option maxRecDepth 8000
namespace Go.Proofs.Ytihkijccnimgbaa
set_option linter.unusedSimpArgs false
set_option linter.unusedVariables false
set_option linter.unnecessarySimpa false
set_option linter.unusedSectionVars false
open Go.Proofs.Try
open Go.Proofs.Ytihkijccnimgbaa.Ai
set_option maxHeartbeats 4000000
attribute [local push_cast] outK_ret outK_pan vis frs low oneR flId tgt w_skip w_ret w_exit w_seq x_cond w_block x_reg x_drw seqX_nil seqX_none seqX_some gX kS kP kG dX_nil dX_st dX_none dX_some hX kD_0 kD_1 kH iss_mv iss_pick iss_nc iss_alloc iss_box iss_build iss_bslice iss_ld iss_fa iss_fd iss_ias iss_iaa iss_ixa iss_ixs iss_ext iss_bin iss_eqb iss_eqn iss_not iss_neg iss_cv iss_b2s iss_s2b iss_mkf iss_mki iss_len iss_lens iss_cap iss_max2 iss_min2 iss_slc iss_sls iss_mks iss_app iss_eqv iss_cal iss_cav iss_pan iss_tas iss_eqi brX_true brX_false opR opG opD thn_n thn_r thn_e thn_p blk_n blk_r blk_e blk_p argE Ai.put Ai.next Ai.push prow pcond pval sv lv ev Ai.get beq_iff_eq cond_true cond_false AV.strip AV.live binC binV intC intV gv gvA norow pickC pickV sel ncC partsC partsV splice elemsC elemsV rdc rdv Ai.look Ai.over Ai.drop faC faV fdC fdV partV iasC iasV iaaC iaaV ixaC ixaV extC extV boolC intIs strIs eqbV notV negV cvV maxV minV lenV lenC eqaC eqaV eqvC eqvV skC skE stC stR AV.one AV.cells AV.known allLv intOr List.length_cons List.length_nil List.take_succ_cons List.take_zero List.drop_succ_cons List.drop_zero List.append_nil List.nil_append List.contains_nil List.contains_cons List.cons_append List.getD_cons_zero List.getD_cons_succ List.headD_cons List.set_cons_zero List.set_cons_succ List.replicate_succ List.replicate_zero List.map_cons List.map_nil Int.toNat_natCast true_and and_true Nat.zero_add Nat.add_zero Nat.zero_mul Nat.mul_one Nat.one_mul Bool.not_true Bool.not_false Bool.and_true Bool.and_false Bool.true_and Bool.false_and Nat.lt_add_one Nat.le_refl List.take_nil List.drop_nil true_implies false_implies List.mem_cons List.not_mem_nil or_false forall_eq_or_imp forall_eq ibne or_true true_or false_or and_false false_and ne_eq not_true_eq_false not_false_eq_true beq_true beq_false Bool.true_beq Bool.false_beq ibeq decide_true decide_false rvsC rvC rvV tupV cl_any cl_bool cl_int cl_str cl_nilp cl_nils cl_nilf cl_nili cl_nilm cl_roe cl_agg cl_tup cl_ros cl_rop cl_opt bel_any bel_bool bel_int bel_str bel_nilp bel_nils bel_nilf bel_nili bel_nilm bel_roe bel_agg bel_tup bel_ros bel_rop bel_opt bel_sl bel_pt beq_self_eq_true

theorem two_q {α : Type} {cs : List α} (h : cs.length = 2) : ∃ a b, cs = [a, b] := by
  match cs, h with
  | [a, b], _ => exact ⟨a, b, rfl⟩
theorem c3q : prog.cellsOf 3 = 1 := by kernel_rfl
theorem c22q : prog.cellsOf 22 = 1 := by kernel_rfl
theorem cCountq : prog.cellsOf 31 = 2 := by kernel_rfl
theorem count_datq {xs : List AV} (h : Dat prog 31 xs) : ∃ cw cm, xs = [.int .u64 cw, .int .i64 cm] := by
  obtain ⟨hl, hx⟩ := h.parts_inv (l := [(0, 22), (1, 3)]) (by kernel_rfl)
  rw [cCountq] at hl
  obtain ⟨x0, x1, rfl⟩ := two_q hl
  have h0 := hx 0 _ _ rfl; have h1 := hx 1 _ _ rfl
  simp only [c3q, c22q, List.drop_succ_cons, List.drop_zero, List.take_succ_cons, List.take_zero] at h0 h1
  obtain ⟨n0, e0, _⟩ := h0.int_inv underlying22
  obtain ⟨n1, e1, _⟩ := h1.int_inv underlying3
  simp only [List.cons.injEq, and_true] at e0 e1
  subst e0 e1
  exact ⟨n0, n1, rfl⟩
theorem ticks_dat : ∀ {es : List (List AV)}, (∀ x ∈ es, Dat prog 22 x) → ∃ ts : List Int, es = (ts.map fun n => [.int .u64 n]) ∧ ∀ t ∈ ts, 0 ≤ t
  | [], _ => ⟨[], rfl, nofun⟩
  | x :: es, h => by
    obtain ⟨ts, rfl, h1⟩ := ticks_dat (es := es) fun y hy => h y (List.mem_cons_of_mem _ hy)
    obtain ⟨n, rfl, hw⟩ := (h x List.mem_cons_self).int_inv underlying22
    refine ⟨n :: ts, rfl, fun t ht => ?_⟩
    rcases List.mem_cons.1 ht with rfl | ht
    · simp only [Lit.wf, Bool.and_eq_true, decide_eq_true_eq] at hw; have h2 : IntKind.u64.min = 0 := rfl; omega
    · exact h1 t ht
theorem orderQuota_pcall (x0 : List AV) (a1 a2 : Int) (x3 : AV) (d0 : Dat prog 31 x0) (w1 : (Lit.int .i64 a1).wf = true) (w2 : (Lit.int .i64 a2).wf = true) (d3 : Dat prog 79 [x3]) :
    PCall prog 9 [.agg x0, .int .i64 a1, .int .i64 a2, x3] (.bool true) := by
  obtain ⟨cw, cm, rfl⟩ := count_datq d0
  obtain ⟨es, he, _, hl, hx⟩ := d3.slice_inv (e := 22) (by kernel_rfl)
  simp only [List.cons.injEq, and_true] at he
  subst he
  obtain ⟨ts, rfl, h0⟩ := ticks_dat hx
  rw [c22q]
  exact law_quota cw cm a1 a2 ts (by simp only [List.length_map, maxLen] at hl; omega) h0
end Go.Proofs.Ytihkijccnimgbaa
