/- Facts of the program over abstract values. No condition. -/
import Derived.Test.YtggmkfagcjdifaaDoorEc
set_option maxRecDepth 8000
namespace Go.Proofs.YtggmkfagcjdifaaDoor
set_option linter.unusedSimpArgs false
set_option linter.unusedVariables false
set_option linter.unnecessarySimpa false
set_option linter.unusedSectionVars false
open Go.Proofs.Tryd
open Go.Proofs.YtggmkfagcjdifaaDoor.Ai
set_option maxHeartbeats 4000000
set_option linter.unusedVariables false
open Go.Proofs.YtggmkfagcjdifaaDoor.Sh hiding mixed
attribute [local push_cast] stc_cl stc_one

@[irreducible] def dv (n k : Nat) : Nat := n / 256 ^ k
theorem dv_eq (n k : Nat) : dv n k = n / 256 ^ k := by unfold dv; rfl
theorem dv_le (n k : Nat) : dv n k ≤ n := by rw [dv_eq]; exact Nat.div_le_self _ _
theorem number_r (n k : Nat) (hn : n < 18446744073709551616) (hk : k ≤ 8) : RCall prog 66 [.int .u64 (n : Int), .int .i64 (k : Int)] 0 1 (accR 0 1 ((be n k).map b1)) (accV 0 1 ((be n k).map b1)) := by
  refine SCall.r ?_ (look_lt (all_acc fun r => rfl))
  obtain ⟨c, hb, hl⟩ := l66
  refine scall_of mixed e66 hb rfl hl r66 (by rw [n66]; simp) ?_
  clear hb hl c
  (try simp only [push_cast, Nat.reduceAdd])
  refine w_loopS (fun j : Nat => ([(0, .int .u64 (dv n j : Int)), (1, .int .i64 (k : Int)), (5, accV 0 1 ((be n j).map b1)), (6, .int .i64 j)], ⟨1, accR 0 1 ((be n j).map b1)⟩)) (fun j => j ≤ k) (fun j => k - j) 0 (Nat.zero_le _) ?_ ?_
  · simp only [dv_eq, Nat.pow_zero, Nat.div_one, be, List.map_nil, accV, accR]
    (apply Wk.renA (fun _ => false); (case he => (try simp only [push_cast, Nat.reduceBEq]); (skip)); (case hr => (try simp only [push_cast]); (skip)); (all_goals try exact 0); (case hinj => (((simp; done)))))
  intro j hj
  rcases Nat.lt_or_ge j k with hj' | hj'
  · have hd := dlt hj'
    have hw := inc64 (k := j) (by omega)
    have hle := dv_le n j
    have hs : (be n (j + 1)).map b1 = [.int .u8 (((dv n j) % 256 : Nat) : Int)] :: (be n j).map b1 := by
      rw [be_cons, List.map_cons, dv_eq, b1, ofNat_toNat]
    have hdv : dv n (j + 1) = dv n j / 256 := by rw [dv_eq, dv_eq, Nat.pow_succ, Nat.div_div_eq_div_mul]
    have f1 : ((dv n j : Nat) : Int).tmod 256 = (((dv n j) % 256 : Nat) : Int) := by rw [Int.tmod_eq_emod_of_nonneg (by omega)]; simp
    have f2 : IntKind.u8.wrap (((dv n j) % 256 : Nat) : Int) = (((dv n j) % 256 : Nat) : Int) := by rw [IntKind.wrap_u8]; omega
    have f3 : IntKind.u64.wrap (((dv n j : Nat) : Int).tdiv 256) = (dv n (j + 1) : Int) := by rw [Int.tdiv_eq_ediv_of_nonneg (by omega), IntKind.wrap_u64, hdv]; omega
    have hbl := be_length n j
    generalize dv n j % 256 = m at *
    generalize be n j = B at *
    have hb : 1 + B.length ≤ 140737488355328 := by omega
    have hb2 : 1 + B.length ≤ 9223372036854775807 := by omega
    clear hbl hdv
    (try simp only [push_cast, Nat.zero_lt_succ, Nat.reduceAdd, Nat.reduceBEq, Nat.reducePow, Nat.reduceLeDiff, reduceCtorEq, Int.reduceEq, hd, hw, f1, f2, f3, hb, hb2])
    all_goals (refine rnd_to _ _ _ (j + 1) hj' (by (omega)) ?_; (try simp only [hs]); (apply Wk.renA (fun _ => false); (case he => (try simp only [push_cast, Nat.reduceBEq]); (repeat' (first | exact cv_sl_acc rfl (by ((simp; omega))) (by ((simp; done))) | exact bel_acc (by omega) | refine And.intro ?_ ?_))); (case hr => (try simp only [push_cast]); (repeat' ((exact rowsAll_acc0 (by ((simp only [push_cast]; done))) (by ((simp only [push_cast]; done))) (by ((simp only [push_cast]; done))) (by ((simp only [push_cast]; done))))))); (all_goals try exact 0); (case hinj => (((apply inj_of; (case h => (try dsimp only); repeat' (exact keysIn_acc0)); (case hi => unfold injK; (decide))))))))
  · obtain rfl : j = k := by omega
    have hd := dge (Nat.le_refl j)
    (try simp only [push_cast, Nat.reduceAdd, Nat.reduceBEq, hd])
    all_goals (refine outQ_ret rfl ?_ (by simp [push_cast]; done) (by simp [push_cast]; done); (apply Wk.renA (fun _ => false); (case he => (try simp only [push_cast, Nat.reduceBEq]); (repeat' (first | exact cv_acc rfl | exact bel_acc (by omega) | refine And.intro ?_ ?_))); (case hr => (try simp only [push_cast]); (repeat' ((exact rowsAll_acc0 (by ((simp only [push_cast]; done))) (by ((simp only [push_cast]; done))) (by ((simp only [push_cast]; done))) (by ((simp only [push_cast]; done))))))); (all_goals try exact 0); (case hinj => (((apply inj_of; (case h => (try dsimp only); repeat' (exact keysIn_acc0)); (case hi => unfold injK; (decide))))))))
theorem number_p (n k : Nat) (hn : n < 18446744073709551616) (hk : k ≤ 8) : PCall prog 66 [.int .u64 (n : Int), .int .i64 (k : Int)] (bsV (be n k)) :=
  (number_r n k hn hk).still (cv_accF rfl (by rw [accOK_hd0]; trivial) (b1_len _) (b1_cl _)) (.ros _ _ (b1_cl _))
end Go.Proofs.YtggmkfagcjdifaaDoor
