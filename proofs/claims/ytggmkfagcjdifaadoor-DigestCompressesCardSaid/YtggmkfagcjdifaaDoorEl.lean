/- Facts of the program over abstract values. No condition. -/
import Derived.Test.YtggmkfagcjdifaaDoorEk
set_option maxRecDepth 8000
namespace Go.Proofs.YtggmkfagcjdifaaDoor
set_option linter.unusedSimpArgs false
set_option linter.unusedVariables false
set_option linter.unnecessarySimpa false
set_option linter.unusedSectionVars false
open Go.Proofs.Tryd
open Go.Proofs.YtggmkfagcjdifaaDoor.Ai
set_option maxHeartbeats 4000000
set_option linter.unusedVariables false
open Go.Proofs.YtggmkfagcjdifaaDoor.Sh hiding mixed
attribute [local push_cast] stc_cl stc_one

theorem same0_p : PCall prog 29 [.agg (hc iv .nils 0), .agg (hc iv .nils 0)] (.bool true) := by
  have hs : hc iv .nils 0 = [.int .u32 1779033703, .int .u32 3144134277, .int .u32 1013904242, .int .u32 2773480762, .int .u32 1359893119, .int .u32 2600822924, .int .u32 528734635, .int .u32 1541459225, .nils, .int .u64 0] := rfl
  rw [hs]
  obtain ⟨c, hb, hl⟩ := l29
  refine pcall_of mixed e29 hb rfl hl r29 (by rw [n29]; simp) ?_
  clear hb hl c
  (try simp only [push_cast, Nat.zero_lt_succ, Nat.reduceAdd, Nat.reduceBEq, Nat.reduceLT, Nat.reduceLeDiff, reduceCtorEq, eqaC, eqaV])
  repeat' (((((refine ret_frz rfl ?_ (by ((simp only [push_cast]; done))) (by ((simp only [push_cast]; done))) (by ((simp only [push_cast]; done))))) <;> (try simp only [push_cast, Nat.reduceBEq, *]))))
theorem law4 (s : Sh.St) (hs : s.ok) (l : List UInt8) (hl : l.length = 64) : PCall prog 4 [.agg (stc s), .agg (l.map u8c)] (.bool true) := by
  have c1 := comp_p s hs l hl
  have c2 := comp'_p s hs l hl
  have c3 := start_p
  have c4 := start'_p
  have c5 := same0_p
  have h8 : (stc s).length = 8 := rfl
  have t8 : List.take 8 (stc s) = stc s := rfl
  have t64 : List.take 64 (l.map u8c) = l.map u8c := List.take_of_length_le (by simp; omega)
  have e1 : eqaV false [(0, SK.i .u32), (1, SK.i .u32), (2, SK.i .u32), (3, SK.i .u32), (4, SK.i .u32), (5, SK.i .u32), (6, SK.i .u32), (7, SK.i .u32)] (.agg (stc (Sh.compress s l))) (.agg (stc (Sh.compress s l))) = .bool true := by
    simp [eqaV, eqvV, stc, skE]
  have e2 : eqaC [(0, SK.i .u32), (1, SK.i .u32), (2, SK.i .u32), (3, SK.i .u32), (4, SK.i .u32), (5, SK.i .u32), (6, SK.i .u32), (7, SK.i .u32)] (.agg (stc (Sh.compress s l))) (.agg (stc (Sh.compress s l))) = True := by
    simp [eqaC, eqvC, stc, skC]
  generalize Sh.compress s l = s' at *
  have hcl : (∀ v, v ∈ hc iv .nils 0 → Cl v) = True := by simp only [hc, push_cast]
  generalize hc iv .nils 0 = hh at *
  obtain ⟨c, hb, hl⟩ := l4
  refine pcall_of mixed e4 hb rfl hl r4 (by rw [n4]; simp) ?_
  clear hb hl c
  (try simp only [push_cast, Nat.zero_lt_succ, Nat.reduceAdd, Nat.reduceBEq, Nat.reduceLT, h8, t8, t64, hl])
  repeat' ((((first | (apply ap_cl; (case h => first | exact c3 | exact c4 | exact c5); (case hc => ((simp only [push_cast, hcl]; done)))) | (apply cd_p; (case h => first | exact c1 | exact c2); (case hc => ((simp only [push_cast]; done)))) | refine ret_frz rfl ?_ (by ((simp only [push_cast]; done))) (by ((simp only [push_cast]; done))) (by ((simp only [push_cast]; done)))) <;> (try simp only [push_cast, Nat.zero_lt_succ, Nat.reduceAdd, Nat.reduceBEq, Nat.reduceLT, reduceCtorEq, *]))))
end Go.Proofs.YtggmkfagcjdifaaDoor
