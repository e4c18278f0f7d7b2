/- Facts of the program over abstract values. No condition. -/
import Derived.Test.YtggmkfagcjdifaaDoorEg
set_option maxRecDepth 8000
namespace Go.Proofs.YtggmkfagcjdifaaDoor
set_option linter.unusedSimpArgs false
set_option linter.unusedVariables false
set_option linter.unnecessarySimpa false
set_option linter.unusedSectionVars false
open Go.Proofs.Tryd
open Go.Proofs.YtggmkfagcjdifaaDoor.Ai
set_option maxHeartbeats 4000000
set_option linter.unusedVariables false
open Go.Proofs.YtggmkfagcjdifaaDoor.Sh hiding mixed
attribute [local push_cast] stc_cl stc_one

def keyX (key : List UInt8) (v : UInt8) (k : Nat) : List UInt8 := ((key64 key).take k).map (· ^^^ v)
theorem keyX_step {key : List UInt8} {v : UInt8} {k : Nat} {c : UInt8} (h : (key64 key)[k]? = some c) : (keyX key v (k + 1)).map b1 = (keyX key v k).map b1 ++ [b1 (c ^^^ v)] := by
  unfold keyX; rw [List.take_add_one, h]; simp
theorem key64_at {key : List UInt8} {k : Nat} (h : key.length ≤ 64) (hk : k < 64) : (key64 key)[k]? = some (key.getD k 0) := by
  unfold key64
  rcases Nat.lt_or_ge k key.length with h1 | h1
  · rw [List.getElem?_append_left h1, List.getD_eq_getElem?_getD, List.getElem?_eq_getElem h1]; rfl
  · rw [List.getElem?_append_right h1, List.getD_eq_getElem?_getD, List.getElem?_eq_none h1, List.getElem?_replicate, if_pos (by omega)]; rfl
theorem mixed'_r (key : List UInt8) (v : UInt8) (h : key.length ≤ 64) : RCall prog 67 [bsV key, u8c v] 0 1 (accR 0 1 (((key64 key).map (· ^^^ v)).map b1)) (accV 0 1 (((key64 key).map (· ^^^ v)).map b1)) := by
  have hfull : keyX key v 64 = (key64 key).map (· ^^^ v) := by unfold keyX; rw [List.take_of_length_le (by rw [key64_length h]; omega)]
  refine SCall.r ?_ (look_lt (all_acc fun r => rfl))
  obtain ⟨c, hb, hl⟩ := l67
  refine scall_of mixed e67 hb rfl hl r67 (by rw [n67]; simp) ?_
  clear hb hl c
  (try simp only [push_cast, Nat.reduceAdd])
  refine w_loopS (fun k : Nat => ([(0, bsV key), (1, u8c v), (5, accV 0 1 ((keyX key v k).map b1)), (6, .int .i64 k)], ⟨1, accR 0 1 ((keyX key v k).map b1)⟩)) (fun k => k ≤ 64) (fun k => 64 - k) 0 (Nat.zero_le _) ?_ ?_
  · simp only [keyX, List.take_zero, List.map_nil, accV, accR]
    (apply Wk.renA (fun _ => false); (case he => (try simp only [push_cast, Nat.reduceBEq]); (repeat' ((exact cv_ros_self (by ((simp only [push_cast]; done))))))); (case hr => (try simp only [push_cast]); (skip)); (all_goals try exact 0); (case hinj => (((simp; done)))))
  intro k hk
  rcases Nat.lt_or_ge k 64 with hk' | hk'
  · have hd := dltL (k := k) (n := 64) (by omega)
    have hw := inc64 (k := k) (by omega)
    have hs := keyX_step (v := v) (key64_at h hk')
    have hln : (keyX key v k).length = k := by unfold keyX; rw [List.length_map, List.length_take, key64_length h]; omega
    have hxb := xor_byte (key.getD k 0) v
    have hb : (keyX key v k).length + 1 ≤ 140737488355328 := by omega
    have hb2 : (keyX key v k).length + 1 ≤ 9223372036854775807 := by omega
    rcases Nat.lt_or_ge k key.length with h1 | h1
    · obtain ⟨x, hx⟩ := lt_get h1
      have hg := getD_map (enc := b1) hx
      have hgd : key.getD k 0 = x := by rw [List.getD_eq_getElem?_getD, hx]; rfl
      rw [hgd] at hs hxb
      have hd2 := dlt h1
      clear hln hgd
      generalize keyX key v k = ac at *
      (try simp only [push_cast, Nat.zero_lt_succ, Nat.reduceAdd, Nat.reduceBEq, Nat.reducePow, Nat.reduceLeDiff, hd, hd2, hw, hg, hxb, hb, hb2])
      repeat' (first | refine And.intro ?_ ?_ | omega)
      all_goals (refine rnd_to _ _ _ (k + 1) hk' (by (omega)) ?_; (try simp only [hs]); (apply Wk.renA (fun _ => false); (case he => (try simp only [push_cast, Nat.reduceBEq]); (repeat' (first | exact cv_ros_self (by ((simp only [push_cast]; done))) | exact cv_acc rfl | exact bel_acc (by omega) | refine And.intro ?_ ?_))); (case hr => (try simp only [push_cast]); (repeat' ((exact rowsAll_acc0 (by ((simp only [push_cast]; done))) (by ((simp only [push_cast]; done))) (by ((simp only [push_cast]; done))) (by ((simp only [push_cast]; done))))))); (all_goals try exact 0); (case hinj => (((apply inj_of; (case h => (try dsimp only); repeat' (exact keysIn_acc0)); (case hi => unfold injK; (decide))))))))
    · have hgd : key.getD k 0 = 0 := by rw [List.getD_eq_getElem?_getD, List.getElem?_eq_none h1]; rfl
      rw [hgd] at hs hxb
      have hd2 := dge h1
      have hxb : Go.bits .xor .u8 0 (v.toNat : Int) = ((0 ^^^ v).toNat : Int) := hxb
      clear hln hgd
      generalize keyX key v k = ac at *
      (try simp only [push_cast, Nat.zero_lt_succ, Nat.reduceAdd, Nat.reduceBEq, Nat.reducePow, Nat.reduceLeDiff, hd, hd2, hw, hxb, hb, hb2])
      all_goals (refine rnd_to _ _ _ (k + 1) hk' (by (omega)) ?_; (try simp only [hs]); (apply Wk.renA (fun _ => false); (case he => (try simp only [push_cast, Nat.reduceBEq]); (repeat' (first | exact cv_ros_self (by ((simp only [push_cast]; done))) | exact cv_acc rfl | exact bel_acc (by omega) | refine And.intro ?_ ?_))); (case hr => (try simp only [push_cast]); (repeat' ((exact rowsAll_acc0 (by ((simp only [push_cast]; done))) (by ((simp only [push_cast]; done))) (by ((simp only [push_cast]; done))) (by ((simp only [push_cast]; done))))))); (all_goals try exact 0); (case hinj => (((apply inj_of; (case h => (try dsimp only); repeat' (exact keysIn_acc0)); (case hi => unfold injK; (decide))))))))
  · obtain rfl : k = 64 := by omega
    simp only [hfull]
    (try simp only [push_cast, Nat.reduceSub, Int.reduceAdd, Nat.reduceAdd, Nat.reduceBEq, Int.reduceLT])
    all_goals (refine outQ_ret rfl ?_ (by simp [push_cast]; done) (by simp [push_cast]; done); (apply Wk.renA (fun _ => false); (case he => (try simp only [push_cast, Nat.reduceBEq]); (repeat' (first | exact cv_acc rfl | exact bel_acc (by omega) | refine And.intro ?_ ?_))); (case hr => (try simp only [push_cast]); (repeat' ((exact rowsAll_acc0 (by ((simp only [push_cast]; done))) (by ((simp only [push_cast]; done))) (by ((simp only [push_cast]; done))) (by ((simp only [push_cast]; done))))))); (all_goals try exact 0); (case hinj => (((apply inj_of; (case h => (try dsimp only); repeat' (exact keysIn_acc0)); (case hi => unfold injK; (decide))))))))
end Go.Proofs.YtggmkfagcjdifaaDoor
