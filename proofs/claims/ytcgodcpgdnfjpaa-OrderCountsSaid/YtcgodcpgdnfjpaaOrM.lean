/- Facts of the program over abstract values. No condition. -/
import Derived.Test.YtcgodcpgdnfjpaaOrL
import Derived.Test.YtcgodcpgdnfjpaaAiT
set_option linter.unusedSimpArgs false
set_option linter.unusedVariables false
set_option maxRecDepth 8000
namespace Go.Proofs.Ytcgodcpgdnfjpaa
set_option linter.unusedSimpArgs false
set_option linter.unusedVariables false
open Go.Proofs.Try
open Go.Proofs.Ytcgodcpgdnfjpaa.Ai
set_option maxHeartbeats 4000000
attribute [local bitvec_to_nat] w_skip w_ret w_exit w_seq w_cond w_block w_reg w_drw seqR opR opG dR opD thn blk argE Ai.put Ai.next Ai.push prow pcond pval sv lv ev Ai.get condR beq_iff_eq cond_true cond_false AV.strip AV.live binC binV intC intV gv gvA norow pickC pickV sel ncC partsC partsV splice elemsC elemsV rdc rdv Ai.look Ai.over Ai.drop faC faV fdC fdV partV iasC iasV iaaC iaaV ixaC ixaV extC extV boolC intIs strIs eqbV notV negV cvV maxV minV lenV lenC eqaC eqaV eqvC eqvV skC skE stC stR AV.one AV.cells AV.known allLv intOr List.length_cons List.length_nil List.take_succ_cons List.take_zero List.drop_succ_cons List.drop_zero List.append_nil List.nil_append List.cons_append List.getD_cons_zero List.getD_cons_succ List.headD_cons List.set_cons_zero List.set_cons_succ List.replicate_succ List.replicate_zero List.map_cons List.map_nil Int.toNat_natCast true_and and_true Nat.zero_add Nat.add_zero Nat.zero_mul Nat.mul_one Nat.one_mul Bool.not_true Bool.not_false Bool.and_true Bool.and_false Bool.true_and Bool.false_and Nat.lt_add_one Nat.le_refl List.take_nil List.drop_nil true_implies false_implies List.mem_cons List.not_mem_nil or_false forall_eq_or_imp forall_eq ibne or_true true_or false_or and_false false_and ne_eq not_true_eq_false not_false_eq_true beq_true beq_false Bool.true_beq Bool.false_beq ibeq decide_true decide_false rvsC rvC rvV tupV cl_any cl_bool cl_int cl_str cl_nilp cl_nils cl_nilf cl_nili cl_nilm cl_roe cl_agg cl_tup cl_ros cl_rop cl_opt bel_any bel_bool bel_int bel_str bel_nilp bel_nils bel_nilf bel_nili bel_nilm bel_roe bel_agg bel_tup bel_ros bel_rop bel_opt bel_sl bel_pt beq_self_eq_true

theorem six_ {α : Type} {cs : List α} (h : cs.length = 6) : ∃ a b c d e f, cs = [a, b, c, d, e, f] := by
  match cs, h with
  | [a, b, c, d, e, f], _ => exact ⟨a, b, c, d, e, f, rfl⟩
theorem two_ {α : Type} {cs : List α} (h : cs.length = 2) : ∃ a b, cs = [a, b] := by
  match cs, h with
  | [a, b], _ => exact ⟨a, b, rfl⟩
theorem c3 : prog.cellsOf 3 = 1 := by kernel_rfl
theorem c5 : prog.cellsOf 5 = 1 := by kernel_rfl
theorem c22 : prog.cellsOf 22 = 1 := by kernel_rfl
theorem cOrder : prog.cellsOf 24 = 6 := by kernel_rfl
theorem cCount : prog.cellsOf 31 = 2 := by kernel_rfl

theorem order_dat {xs : List AV} (h : Dat prog 24 xs) : ∃ i p d s a f, xs = ordC i p d s a f := by
  obtain ⟨hl, hx⟩ := h.parts_inv (l := [(0, 3), (1, 3), (2, 3), (3, 5), (4, 22), (5, 22)]) (by kernel_rfl)
  rw [cOrder] at hl
  obtain ⟨x0, x1, x2, x3, x4, x5, rfl⟩ := six_ hl
  have h0 := hx 0 _ _ rfl; have h1 := hx 1 _ _ rfl; have h2 := hx 2 _ _ rfl; have h3 := hx 3 _ _ rfl; have h4 := hx 4 _ _ rfl; have h5 := hx 5 _ _ rfl
  simp only [c3, c5, c22, List.drop_succ_cons, List.drop_zero, List.take_succ_cons, List.take_zero] at h0 h1 h2 h3 h4 h5
  obtain ⟨n0, e0, _⟩ := h0.int_inv underlying3
  obtain ⟨n1, e1, _⟩ := h1.int_inv underlying3
  obtain ⟨n2, e2, _⟩ := h2.int_inv underlying3
  obtain ⟨n3, e3, _⟩ := h3.int_inv underlying5
  obtain ⟨n4, e4, _⟩ := h4.int_inv underlying22
  obtain ⟨n5, e5, _⟩ := h5.int_inv underlying22
  simp only [List.cons.injEq, and_true] at e0 e1 e2 e3 e4 e5
  subst e0 e1 e2 e3 e4 e5
  exact ⟨n0, n1, n2, n3, n4, n5, rfl⟩

theorem orderStates_pcall (a0 a1 a2 a3 : Int) (x4 : List AV) (a5 : Int) (w0 : (Lit.int .i64 a0).wf = true) (w1 : (Lit.int .i64 a1).wf = true) (w2 : (Lit.int .i64 a2).wf = true) (w3 : (Lit.int .u64 a3).wf = true) (d4 : Dat prog 24 x4) (w5 : (Lit.int .u8 a5).wf = true) :
    PCall prog 4 [.int .i64 a0, .int .i64 a1, .int .i64 a2, .int .u64 a3, .agg x4, .int .u8 a5] (.bool true) := by
  obtain ⟨i, p, d, s, a, f, rfl⟩ := order_dat d4
  exact law_states a0 a1 a2 a3 i p d s a f a5

theorem count_dat {xs : List AV} (h : Dat prog 31 xs) : ∃ cw cm, xs = [.int .u64 cw, .int .i64 cm] := by
  obtain ⟨hl, hx⟩ := h.parts_inv (l := [(0, 22), (1, 3)]) (by kernel_rfl)
  rw [cCount] at hl
  obtain ⟨x0, x1, rfl⟩ := two_ hl
  have h0 := hx 0 _ _ rfl; have h1 := hx 1 _ _ rfl
  simp only [c3, c22, List.drop_succ_cons, List.drop_zero, List.take_succ_cons, List.take_zero] at h0 h1
  obtain ⟨n0, e0, _⟩ := h0.int_inv underlying22
  obtain ⟨n1, e1, _⟩ := h1.int_inv underlying3
  simp only [List.cons.injEq, and_true] at e0 e1
  subst e0 e1
  exact ⟨n0, n1, rfl⟩

theorem orderCounts_pcall (x0 : List AV) (a1 a2 a3 : Int) (d0 : Dat prog 31 x0) (w1 : (Lit.int .i64 a1).wf = true) (w2 : (Lit.int .i64 a2).wf = true) (w3 : (Lit.int .u64 a3).wf = true) :
    PCall prog 5 [.agg x0, .int .i64 a1, .int .i64 a2, .int .u64 a3] (.bool true) := by
  obtain ⟨cw, cm, rfl⟩ := count_dat d0
  exact law_counts cw cm a1 a2 a3
end Go.Proofs.Ytcgodcpgdnfjpaa
