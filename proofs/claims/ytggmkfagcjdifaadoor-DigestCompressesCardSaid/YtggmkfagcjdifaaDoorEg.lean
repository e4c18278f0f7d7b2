/- Facts of the program over abstract values. No condition. -/
import Derived.Test.YtggmkfagcjdifaaDoorEf
import Derived.Test.YtggmkfagcjdifaaDoorShC
set_option maxRecDepth 8000
namespace Go.Proofs.YtggmkfagcjdifaaDoor
set_option linter.unusedSimpArgs false
set_option linter.unusedVariables false
set_option linter.unnecessarySimpa false
set_option linter.unusedSectionVars false
open Go.Proofs.Tryd
open Go.Proofs.YtggmkfagcjdifaaDoor.Ai
set_option maxHeartbeats 4000000
set_option linter.unusedVariables false
open Go.Proofs.YtggmkfagcjdifaaDoor.Sh hiding mixed
attribute [local push_cast] stc_cl stc_one

theorem sum'_p (b : List UInt8) (hl : b.length ≤ 8192) : PCall prog 58 [bsV b] (.agg ((shaW b).map u8c)) := by
  have c1 := first_p
  have c2 := finish'_p iv iv_ok b b.length hl (by omega)
  have f1 : IntKind.u64.wrap (b.length : Int) = (b.length : Int) := by rw [IntKind.wrap_u64]; omega
  have hk8 : (stc iv).length = 8 := rfl
  have ht8 : List.take 8 (stc iv) = stc iv := rfl
  have hsl := shaW_length b
  have ht2 : List.take 32 ((shaW b).map u8c) = (shaW b).map u8c := List.take_of_length_le (by simp; omega)
  have hdr : List.drop 32 (rep 32 (.int .u8 0)) = [] := List.drop_of_length_le (by rw [rep_len]; omega)
  rw [show sumBytes (absorbed iv (b ++ padBytes b.length) ((b ++ padBytes b.length).length / 64)) = shaW b from rfl] at c2
  generalize shaW b = w at *
  obtain ⟨c, hb, hl⟩ := l58
  refine pcall_of mixed e58 hb rfl hl r58 (by rw [n58]; simp) ?_
  clear hb hl c
  (try simp only [push_cast])
  repeat' (first | ((first | (apply sc_p; (case h => first | exact c1 | exact c2); (case hc => ((simp only [push_cast]; done)))) | refine ret_frz rfl ?_ (by ((simp only [push_cast, hsl]; done))) (by ((simp only [push_cast, ht2]; done))) (by ((simp only [push_cast]; done)))) <;> (try simp only [push_cast, Nat.zero_lt_succ, Nat.reduceAdd, Nat.reduceBEq, *])) | (((refine cv_ptE rfl rfl rfl (by simp; done) (by ((simp only [push_cast, hsl]; done))) ?_)) <;> (try simp only [push_cast, hsl, ht2])) | exact all2_cl (by ((simp only [push_cast]; done))))
def summS (b : List UInt8) : AV := bif decide ((b.length : Int) > 8192) then .tup [.agg z32, .int .i64 4] else .tup [.agg ((shaW b).map u8c), .int .i64 0]
theorem summed_p (b : List UInt8) : PCall prog 35 [bsV b] (summS b) := by
  have hsl := shaW_length b
  have ht2 : List.take 32 ((shaW b).map u8c) = (shaW b).map u8c := List.take_of_length_le (by simp; omega)
  have hdr : List.drop 32 (rep 32 (.int .u8 0)) = [] := List.drop_of_length_le (by rw [rep_len]; omega)
  have htz : List.take 32 (rep 32 (AV.int .u8 0)) = rep 32 (AV.int .u8 0) := List.take_of_length_le (by rw [rep_len]; omega)
  simp only [summS]
  by_cases hb : (b.length : Int) > 8192
  · have hd : decide ((b.length : Int) > 8192) = true := by simpa using hb
    simp only [hd, cond_true]
    obtain ⟨c, hb, hl⟩ := l35
    refine pcall_of mixed e35 hb rfl hl r35 (by rw [n35]; simp) ?_
    clear hb hl c
    (try simp only [push_cast, Nat.zero_lt_succ, Nat.reduceAdd, Nat.reduceBEq, reduceCtorEq, hd, hdr])
    repeat' (first | (((refine ret_frz rfl ?_ (by ((simp only [push_cast, Nat.reduceBEq]; done))) (by ((simp only [push_cast, Nat.reduceBEq, htz]; done))) (by ((simp [push_cast]; done))))) <;> (try simp only [push_cast, Nat.reduceBEq, reduceCtorEq, *])) | (((refine cv_ptE rfl rfl rfl (by simp; done) (by ((simp only [push_cast]; done))) ?_)) <;> (try simp only [push_cast, htz])) | exact all2_cl (by ((simp [push_cast]; done))))
  · have hd : decide ((b.length : Int) > 8192) = false := by simpa using hb
    have c := sum'_p b (by omega)
    simp only [hd, cond_false]
    generalize shaW b = w at *
    obtain ⟨c, hb, hl⟩ := l35
    refine pcall_of mixed e35 hb rfl hl r35 (by rw [n35]; simp) ?_
    clear hb hl c
    (try simp only [push_cast, Nat.reduceAdd, Nat.reduceBEq, hd])
    repeat' (first | ((first | (apply sc_p; (case h => (exact c)); (case hc => ((simp only [push_cast]; done)))) | refine ret_frz rfl ?_ (by ((simp only [push_cast, Nat.reduceBEq, hsl]; done))) (by ((simp only [push_cast, Nat.reduceBEq, ht2]; done))) (by ((simp only [push_cast]; done)))) <;> (try simp only [push_cast, Nat.zero_lt_succ, Nat.reduceAdd, Nat.reduceBEq, *])) | (((refine cv_ptE rfl rfl rfl (by simp; done) (by ((simp only [push_cast, hsl]; done))) ?_)) <;> (try simp only [push_cast, ht2, hsl])) | exact all2_cl (by ((simp only [push_cast]; done))))
theorem start'_p : PCall prog 30 [] (.agg (hc iv .nils 0)) := by
  have c1 := first_p
  simp only [stc] at c1
  obtain ⟨c, hb, hl⟩ := l30
  refine pcall_of mixed e30 hb rfl hl r30 (by rw [n30]; simp) ?_
  clear hb hl c
  (try simp only [push_cast, Nat.reduceAdd, hc])
  repeat' (first | ((first | (apply sc_p; (case h => (exact c1)); (case hc => ((simp only [push_cast]; done)))) | refine ret_frz rfl ?_ (by ((simp only [push_cast, Nat.reduceAdd]; done))) (by ((simp only [push_cast]; done))) (by ((simp only [push_cast]; done)))) <;> (try simp only [push_cast, Nat.zero_lt_succ, Nat.reduceAdd, Nat.reduceBEq, Nat.reduceLeDiff, *])) | ((refine cv_ptE rfl rfl rfl rfl rfl ?_) <;> (try simp only [push_cast, Nat.reduceAdd])))
def vhB (len : Nat) (n : Int) : Bool := decide (n ≤ 8192) && (IntKind.u64.wrap (len : Int) == n.tmod 64)
theorem vh_p (s : Sh.St) (t : List UInt8) (n : Int) : PCall prog 54 [.agg (hc s (bsV t) n)] (.bool (vhB t.length n)) := by
  obtain ⟨c, hb, hl⟩ := l54
  refine pcall_of mixed e54 hb rfl hl r54 (by rw [n54]; simp) ?_
  clear hb hl c
  (try simp only [push_cast, Nat.zero_lt_succ, Nat.reduceAdd, Nat.reduceBEq, hc])
  repeat' (first | ((refine gX_split ?_ ?_) <;> (intro xc; have xp := xc; (try simp only [decide_eq_true_eq, decide_eq_false_iff_not, Int.not_le] at xp); have xq := xp; (first | simp only [← Int.not_le] at xq | simp only [← Int.not_lt] at xq)) <;> (try simp only [push_cast, Nat.zero_lt_succ, Nat.reduceAdd, Nat.reduceBEq, Nat.reduceLeDiff, reduceCtorEq, Int.reduceEq, *])) | (((refine ret_frz rfl ?_ (by ((simp only [push_cast]; done))) (by ((simp only [push_cast]; done))) (by ((simp only [push_cast]; done))))) <;> (try simp only [push_cast, Nat.reduceBEq, *])))
  all_goals (try simp only [push_cast, vhB])
  all_goals (((simp [*]; done)))
def chk'H (len : Nat) (n : Int) : Int := bif vhB len n then 0 else 8
theorem check'_p (s : Sh.St) (t : List UInt8) (n : Int) : PCall prog 32 [.agg (hc s (bsV t) n)] (.int .i64 (chk'H t.length n)) := by
  have c := vh_p s t n
  obtain ⟨c, hb, hl⟩ := l32
  refine pcall_of mixed e32 hb rfl hl r32 (by rw [n32]; simp) ?_
  clear hb hl c
  (try simp only [push_cast, Nat.zero_lt_succ, Nat.reduceAdd, Nat.reduceBEq, hc])
  repeat' (first | ((refine brX_split ?_ ?_) <;> (intro xc; (try simp only [Bool.not_eq_true', Bool.not_eq_false'] at xc); have xp := xc; have xq := xp; (clear xq)) <;> (try simp only [push_cast, Nat.reduceAdd, *])) | ((first | (apply sc_p; (case h => (exact c)); (case hc => ((simp only [push_cast]; done)))) | refine ret_frz rfl ?_ (by ((simp only [push_cast]; done))) (by ((simp only [push_cast]; done))) (by ((simp only [push_cast]; done)))) <;> (try simp only [push_cast, Nat.reduceAdd, Nat.reduceBEq, *])))
  all_goals (try simp only [push_cast, chk'H])
  all_goals (((simp [*]; done)))
end Go.Proofs.YtggmkfagcjdifaaDoor
