/- Facts of the program over abstract values. No condition. -/
import Derived.Test.YtihkijccnimgbaaOrRq
import Derived.Test.YtihkijccnimgbaaAiY
set_option linter.unusedSimpArgs false
namespace Go.Proofs.Ytihkijccnimgbaa
set_option linter.unusedSimpArgs false
set_option linter.unusedVariables false
set_option linter.unnecessarySimpa false
set_option linter.unusedSectionVars false
open Go.Proofs.Try
open Go.Proofs.Ytihkijccnimgbaa.Ai
set_option maxHeartbeats 4000000
attribute [local push_cast] outK_ret outK_pan vis frs low oneR flId tgt w_skip w_ret w_exit w_seq w_cond w_block w_reg w_drw seqR opR opG dR opD thn blk argE Ai.put Ai.next Ai.push prow pcond pval sv lv ev Ai.get condR beq_iff_eq cond_true cond_false AV.strip AV.live binC binV intC intV gv gvA norow pickC pickV sel ncC partsC partsV splice elemsC elemsV rdc rdv Ai.look Ai.over Ai.drop faC faV fdC fdV partV iasC iasV iaaC iaaV ixaC ixaV extC extV boolC intIs strIs eqbV notV negV cvV maxV minV lenV lenC eqaC eqaV eqvC eqvV skC skE stC stR AV.one AV.cells AV.known allLv intOr List.length_cons List.length_nil List.take_succ_cons List.take_zero List.drop_succ_cons List.drop_zero List.append_nil List.nil_append List.cons_append List.getD_cons_zero List.getD_cons_succ List.headD_cons List.set_cons_zero List.set_cons_succ List.replicate_succ List.replicate_zero List.map_cons List.map_nil Int.toNat_natCast true_and and_true Nat.zero_add Nat.add_zero Nat.zero_mul Nat.mul_one Nat.one_mul Bool.not_true Bool.not_false Bool.and_true Bool.and_false Bool.true_and Bool.false_and Nat.lt_add_one Nat.le_refl List.take_nil List.drop_nil true_implies false_implies List.mem_cons List.not_mem_nil or_false forall_eq_or_imp forall_eq ibne or_true true_or false_or and_false false_and ne_eq not_true_eq_false not_false_eq_true beq_true beq_false Bool.true_beq Bool.false_beq ibeq decide_true decide_false rvsC rvC rvV tupV cl_any cl_bool cl_int cl_str cl_nilp cl_nils cl_nilf cl_nili cl_nilm cl_roe cl_agg cl_tup cl_ros cl_rop cl_opt bel_any bel_bool bel_int bel_str bel_nilp bel_nils bel_nilf bel_nili bel_nilm bel_roe bel_agg bel_tup bel_ros bel_rop bel_opt bel_sl bel_pt beq_self_eq_true

theorem isState_p (n : Int) : PCall prog 47 [.int .u8 n] (.bool (decide (1 ≤ n) && decide (n ≤ 5))) := by
  obtain ⟨c, hb, hl⟩ := l47
  refine pcall_of mixed e47 hb rfl hl r47 (by rw [n47]; simp) ?_
  simp only [q47, push_cast, Nat.reduceAdd, Nat.reduceBEq, Nat.reduceEqDiff, Nat.reduceMul, Nat.reducePow, Int.reduceBNe, Int.reduceBEq, Nat.reduceLT, Nat.reduceLeDiff, reduceCtorEq, reduceIte, Int.reduceLE, Int.reduceLT, Int.reduceGT, Int.reduceGE, Int.reduceNe, Int.reduceEq, forall_const, implies_true, eq_self, imp_self]
  repeat' apply And.intro
  all_goals first | (intros; simp_all; done) | skip
  refine ret_now (by simp only [push_cast, Nat.reduceAdd, Nat.reduceBEq, Nat.reduceEqDiff, Nat.reduceMul, Nat.reducePow, Int.reduceBNe, Int.reduceBEq, Nat.reduceLT, Nat.reduceLeDiff, reduceCtorEq, reduceIte, Int.reduceLE, Int.reduceLT, Int.reduceGT, Int.reduceGE, Int.reduceNe, Int.reduceEq, forall_const, implies_true, eq_self, imp_self]) ?_ (by simp only [push_cast, Nat.reduceAdd, Nat.reduceBEq, Nat.reduceEqDiff, Nat.reduceMul, Nat.reducePow, Int.reduceBNe, Int.reduceBEq, Nat.reduceLT, Nat.reduceLeDiff, reduceCtorEq, reduceIte, Int.reduceLE, Int.reduceLT, Int.reduceGT, Int.reduceGE, Int.reduceNe, Int.reduceEq, forall_const, implies_true, eq_self, imp_self])
  simp only [push_cast, Nat.reduceAdd, Nat.reduceBEq, Nat.reduceEqDiff, Nat.reduceMul, Nat.reducePow, Int.reduceBNe, Int.reduceBEq, Nat.reduceLT, Nat.reduceLeDiff, reduceCtorEq, reduceIte, Int.reduceLE, Int.reduceLT, Int.reduceGT, Int.reduceGE, Int.reduceNe, Int.reduceEq, forall_const, implies_true, eq_self, imp_self]
  by_cases h : 1 ≤ n <;> simp [h]

theorem within_p (lo hi : Int) (xs : List Int) (hx : xs.length < 2 ^ 63) : PCall prog 50 [.int .i64 lo, .int .i64 hi, ints .i64 xs] (.bool (xs.all fun n => decide (lo ≤ n) && decide (n ≤ hi))) := by
  obtain ⟨c, hb, hl⟩ := l50
  refine pcall_of mixed e50 hb rfl hl r50 (by rw [n50]; simp) ?_
  simp only [q50, ints, push_cast, Nat.reduceAdd, Nat.reduceBEq, Nat.reduceEqDiff, Nat.reduceMul, Nat.reducePow, Int.reduceBNe, Int.reduceBEq, Nat.reduceLT, Nat.reduceLeDiff, reduceCtorEq, reduceIte, Int.reduceLE, Int.reduceLT, Int.reduceGT, Int.reduceGE, Int.reduceNe, Int.reduceEq, forall_const, implies_true, eq_self, imp_self]
  refine w_loop (fun e s => ∃ k : Nat, k ≤ xs.length ∧ (∀ i, i < k → (decide (lo ≤ xs.getD i 0) && decide (xs.getD i 0 ≤ hi)) = true) ∧
    e = [(11, .int .i64 k), (10, .int .i64 xs.length), (9, .ros 1 (xs.map fun n => [.int .i64 n])), (0, .int .i64 lo), (1, .int .i64 hi)] ∧ s = ⟨0, []⟩)
    (fun e s => (xs.length - (match Ai.get e 11 with | .int _ k => k.toNat | _ => 0))) ?_ ?_
  · refine ⟨_, _, Wk.to (c := 0) (Nat.le_refl _) (Nat.zero_le _) ?_ (by simp), 0, by simp, by simp, rfl, rfl⟩
    simp [Ai.get, push_cast, Nat.reduceAdd, Nat.reduceBEq, Nat.reduceEqDiff, Nat.reduceMul, Nat.reducePow, Int.reduceBNe, Int.reduceBEq, Nat.reduceLT, Nat.reduceLeDiff, reduceCtorEq, reduceIte, Int.reduceLE, Int.reduceLT, Int.reduceGT, Int.reduceGE, Int.reduceNe, Int.reduceEq, forall_const, implies_true, eq_self, imp_self]
  · rintro e s ⟨k, hk, hall, rfl, rfl⟩
    rcases Nat.lt_or_ge k xs.length with hk' | hk'
    · have hg : (xs.map fun n => [AV.int .i64 n]).getD k [] = [.int .i64 (xs.getD k 0)] := by simp [List.getD, List.getElem?_eq_getElem hk']
      have hd : decide ((k : Int) < xs.length) = true := by simp [hk']
      have hw : IntKind.i64.wrap ((k : Int) + 1) = ((k + 1 : Nat) : Int) := IntWalk.i64_in _ (by omega)
      simp only [push_cast, Nat.reduceAdd, Nat.reduceBEq, Nat.reduceEqDiff, Nat.reduceMul, Nat.reducePow, Int.reduceBNe, Int.reduceBEq, Nat.reduceLT, Nat.reduceLeDiff, reduceCtorEq, reduceIte, Int.reduceLE, Int.reduceLT, Int.reduceGT, Int.reduceGE, Int.reduceNe, Int.reduceEq, forall_const, implies_true, eq_self, imp_self, hg, hd, hw]
      refine ⟨⟨by omega, by simp; omega⟩, by simp_all, by simp_all, fun h => ?_, fun h => ?_⟩
      · refine ret_now (by simp only [push_cast, Nat.reduceAdd, Nat.reduceBEq, Nat.reduceEqDiff, Nat.reduceMul, Nat.reducePow, Int.reduceBNe, Int.reduceBEq, Nat.reduceLT, Nat.reduceLeDiff, reduceCtorEq, reduceIte, Int.reduceLE, Int.reduceLT, Int.reduceGT, Int.reduceGE, Int.reduceNe, Int.reduceEq, forall_const, implies_true, eq_self, imp_self]) ?_ (by simp only [push_cast, Nat.reduceAdd, Nat.reduceBEq, Nat.reduceEqDiff, Nat.reduceMul, Nat.reducePow, Int.reduceBNe, Int.reduceBEq, Nat.reduceLT, Nat.reduceLeDiff, reduceCtorEq, reduceIte, Int.reduceLE, Int.reduceLT, Int.reduceGT, Int.reduceGE, Int.reduceNe, Int.reduceEq, forall_const, implies_true, eq_self, imp_self])
        simp only [push_cast, Nat.reduceAdd, Nat.reduceBEq, Nat.reduceEqDiff, Nat.reduceMul, Nat.reducePow, Int.reduceBNe, Int.reduceBEq, Nat.reduceLT, Nat.reduceLeDiff, reduceCtorEq, reduceIte, Int.reduceLE, Int.reduceLT, Int.reduceGT, Int.reduceGE, Int.reduceNe, Int.reduceEq, forall_const, implies_true, eq_self, imp_self]
        have : ¬ (∀ x ∈ xs, lo ≤ x ∧ x ≤ hi) := fun hall => by
          have h2 := hall _ (List.getElem_mem hk')
          simp only [List.getD, List.getElem?_eq_getElem hk', Option.getD_some] at h
          by_cases h3 : xs[k] < lo
          · omega
          · simp [h3] at h; omega
        congr 1
        rw [eq_comm, Bool.eq_false_iff]
        simpa using this
      · refine ⟨_, _, Wk.to (c := 0) (Nat.le_refl _) (Nat.zero_le _) (by simp only [Ai.get, push_cast, Nat.reduceAdd, Nat.reduceBEq, Nat.reduceEqDiff, Nat.reduceMul, Nat.reducePow, Int.reduceBNe, Int.reduceBEq, Nat.reduceLT, Nat.reduceLeDiff, reduceCtorEq, reduceIte, Int.reduceLE, Int.reduceLT, Int.reduceGT, Int.reduceGE, Int.reduceNe, Int.reduceEq, forall_const, implies_true, eq_self, imp_self, push_cast, Nat.reduceAdd, Nat.reduceBEq, Nat.reduceEqDiff, Nat.reduceMul, Nat.reducePow, Int.reduceBNe, Int.reduceBEq, Nat.reduceLT, Nat.reduceLeDiff, reduceCtorEq, reduceIte, Int.reduceLE, Int.reduceLT, Int.reduceGT, Int.reduceGE, Int.reduceNe, Int.reduceEq, forall_const, implies_true, eq_self, imp_self]; simp [bel_int]) (by simp), ⟨k + 1, hk', ?_, rfl, rfl⟩, ?_⟩
        · intro i hi
          rcases Nat.lt_or_ge i k with h1 | h1
          · exact hall i h1
          · obtain rfl : i = k := by omega
            by_cases h3 : xs.getD i 0 < lo
            · simp only [h3, decide_true, cond_true, reduceCtorEq] at h
            · simp only [h3, decide_false, cond_false, decide_eq_false_iff_not] at h
              simp only [Bool.and_eq_true, decide_eq_true_eq]
              omega
        · simp only [Ai.get, Nat.reduceBEq, cond_true, cond_false, Int.toNat_natCast]
          clear hw hd
          show xs.length - (k + 1) < xs.length - k
          omega
    · have hd : decide ((k : Int) < xs.length) = false := by simp; omega
      simp only [push_cast, Nat.reduceAdd, Nat.reduceBEq, Nat.reduceEqDiff, Nat.reduceMul, Nat.reducePow, Int.reduceBNe, Int.reduceBEq, Nat.reduceLT, Nat.reduceLeDiff, reduceCtorEq, reduceIte, Int.reduceLE, Int.reduceLT, Int.reduceGT, Int.reduceGE, Int.reduceNe, Int.reduceEq, forall_const, implies_true, eq_self, imp_self, hd]
      refine ret_now (by simp only [push_cast, Nat.reduceAdd, Nat.reduceBEq, Nat.reduceEqDiff, Nat.reduceMul, Nat.reducePow, Int.reduceBNe, Int.reduceBEq, Nat.reduceLT, Nat.reduceLeDiff, reduceCtorEq, reduceIte, Int.reduceLE, Int.reduceLT, Int.reduceGT, Int.reduceGE, Int.reduceNe, Int.reduceEq, forall_const, implies_true, eq_self, imp_self]) ?_ (by simp only [push_cast, Nat.reduceAdd, Nat.reduceBEq, Nat.reduceEqDiff, Nat.reduceMul, Nat.reducePow, Int.reduceBNe, Int.reduceBEq, Nat.reduceLT, Nat.reduceLeDiff, reduceCtorEq, reduceIte, Int.reduceLE, Int.reduceLT, Int.reduceGT, Int.reduceGE, Int.reduceNe, Int.reduceEq, forall_const, implies_true, eq_self, imp_self])
      simp only [push_cast, Nat.reduceAdd, Nat.reduceBEq, Nat.reduceEqDiff, Nat.reduceMul, Nat.reducePow, Int.reduceBNe, Int.reduceBEq, Nat.reduceLT, Nat.reduceLeDiff, reduceCtorEq, reduceIte, Int.reduceLE, Int.reduceLT, Int.reduceGT, Int.reduceGE, Int.reduceNe, Int.reduceEq, forall_const, implies_true, eq_self, imp_self]
      congr 1
      rw [eq_comm, List.all_eq_true]
      intro x hx
      obtain ⟨i, hi, rfl⟩ := List.getElem_of_mem hx
      have := hall i (by omega)
      simpa [List.getD, List.getElem?_eq_getElem hi] using this
end Go.Proofs.Ytihkijccnimgbaa
