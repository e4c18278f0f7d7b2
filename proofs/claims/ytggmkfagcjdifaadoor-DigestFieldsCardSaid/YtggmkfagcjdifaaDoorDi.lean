/- Facts of the program over abstract values. No condition. -/
import Derived.Test.YtggmkfagcjdifaaDoorDh
set_option maxRecDepth 8000
namespace Go.Proofs.YtggmkfagcjdifaaDoor
set_option linter.unusedSimpArgs false
set_option linter.unusedVariables false
set_option linter.unnecessarySimpa false
set_option linter.unusedSectionVars false
open Go.Proofs.Tryd
open Go.Proofs.YtggmkfagcjdifaaDoor.Ai
set_option maxHeartbeats 4000000
set_option linter.unusedVariables false
open Go.Proofs.YtggmkfagcjdifaaDoor.Sh hiding mixed
attribute [local push_cast] stc_cl stc_one

theorem write_p0 (b : List UInt8) (hl : b.length < 2 ^ 48) : PCall prog 23 [.agg (hc iv .nils 0), bsV b] (wrS HS.start b) := by
  refine (write_p HS.start HS.ok.start b hl).to ?_
  simp only [hc, HS.start, push_cast]
def sumS (b : List UInt8) : AV := bif decide ((b.length : Int) > 8192) then .tup [.agg z32, .int .i64 4] else .tup [.agg ((shaB b).map u8c), .int .i64 0]
theorem sum_p (b : List UInt8) (hl : b.length < 2 ^ 48) : PCall prog 21 [bsV b] (sumS b) := by
  have c1 := start_p
  have c2 := write_p0 b hl
  have hz : ((8192 : Int) - ((HS.start.n : Nat) : Int)) = 8192 := by rfl
  simp only [wrS, hz] at c2
  simp only [sumS]
  have hsl := shaB_length b
  have ht : List.take 32 ((shaB b).map u8c) = (shaB b).map u8c := List.take_of_length_le (by simp; omega)
  have hdr : List.drop 32 (rep 32 (.int .u8 0)) = [] := List.drop_of_length_le (by rw [rep_len]; omega)
  have htz : List.take 32 (rep 32 (AV.int .u8 0)) = rep 32 (AV.int .u8 0) := List.take_of_length_le (by rw [rep_len]; omega)
  by_cases hb : (b.length : Int) > 8192
  · have hd : decide ((b.length : Int) > 8192) = true := by simpa using hb
    simp only [hd, cond_true] at c2 ⊢
    obtain ⟨c, hb, hl⟩ := l21
    refine pcall_of mixed e21 hb rfl hl r21 (by rw [n21]; simp) ?_
    clear hb hl c
    (try simp only [push_cast, Nat.reduceAdd])
    repeat' (first | ((first | (apply sc_p; (case h => first | exact c1 | exact c2); (case hc => ((simp only [push_cast] <;> fail "n")))) | (refine ret_frz rfl ?_ ?_ ?_ ?_; rotate_left 1; (((simp only [push_cast, Nat.reduceBEq] <;> fail "n"))); (((simp only [push_cast, Nat.reduceBEq, htz] <;> fail "n"))); (((simp [push_cast] <;> fail "n"))))) <;> (try simp only [push_cast, Nat.zero_lt_succ, Nat.reduceAdd, Nat.reduceBEq, reduceCtorEq, Int.reduceEq, *, hc])) | ((((refine cv_ptE rfl rfl rfl ?_ ?_ ?_; (simp <;> fail "n"); (((simp only [push_cast] <;> fail "n"))); rotate_left 1))) <;> (try simp only [push_cast, htz])) | (refine all2_cl ?_; (((simp [push_cast] <;> fail "n")))))
  · have hd : decide ((b.length : Int) > 8192) = false := by simpa using hb
    simp only [hd, cond_false] at c2 ⊢
    have hok := HS.ok.start.write (b := b) (by show 0 + b.length ≤ 8192; omega)
    have c3 := finish_p (HS.start.write b) hok
    simp only [shaB] at *
    generalize HS.start.write b = h at *
    obtain ⟨c, hb, hl⟩ := l21
    refine pcall_of mixed e21 hb rfl hl r21 (by rw [n21]; simp) ?_
    clear hb hl c
    (try simp only [push_cast, Nat.reduceAdd])
    repeat' (first | ((first | (apply sc_p; (case h => first | exact c1 | exact c2 | exact c3); (case hc => ((simp only [push_cast] <;> fail "n")))) | (refine ret_frz rfl ?_ ?_ ?_ ?_; rotate_left 1; (((simp only [push_cast, Nat.reduceBEq, hsl] <;> fail "n"))); (((simp only [push_cast, Nat.reduceBEq, ht] <;> fail "n"))); (((simp only [push_cast] <;> fail "n"))))) <;> (try simp only [push_cast, Nat.zero_lt_succ, Nat.reduceAdd, Nat.reduceBEq, *, hc])) | ((refine cv_ptE rfl rfl rfl rfl rfl ?_) <;> (try simp only [push_cast, ht, hsl])) | (refine all2_cl ?_; (((simp only [push_cast] <;> fail "n")))))
end Go.Proofs.YtggmkfagcjdifaaDoor
