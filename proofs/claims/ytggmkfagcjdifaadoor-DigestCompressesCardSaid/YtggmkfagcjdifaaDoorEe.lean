/- Facts of the program over abstract values. No condition. -/
import Derived.Test.YtggmkfagcjdifaaDoorEd
set_option maxRecDepth 8000
namespace Go.Proofs.YtggmkfagcjdifaaDoor
set_option linter.unusedSimpArgs false
set_option linter.unusedVariables false
set_option linter.unnecessarySimpa false
set_option linter.unusedSectionVars false
open Go.Proofs.Tryd
open Go.Proofs.YtggmkfagcjdifaaDoor.Ai
set_option maxHeartbeats 4000000
set_option linter.unusedVariables false
open Go.Proofs.YtggmkfagcjdifaaDoor.Sh hiding mixed
attribute [local push_cast] stc_cl stc_one

def padZ (j : Nat) : List UInt8 := 128 :: List.replicate j 0
theorem padZ_snoc (j : Nat) : padZ (j + 1) = padZ j ++ [0] := by simp [padZ, List.replicate_succ']
theorem padZ_len (j : Nat) : (padZ j).length = j + 1 := by simp [padZ]
theorem pad_p (n : Nat) (hn : n ≤ 8192) : PCall prog 65 [.int .u64 (n : Int)] (bsV (padBytes n)) := by
  obtain ⟨z, hz⟩ : ∃ z, z = (119 - n % 64) % 64 := ⟨_, rfl⟩
  have hz64 : z < 64 := by omega
  have hp : padBytes n = padZ z ++ be (8 * n) 8 := by unfold padBytes padZ; rw [hz]; rfl
  obtain ⟨c, hb, hl⟩ := l65
  refine pcall_of mixed e65 hb rfl hl r65 (by rw [n65]; simp) ?_
  clear hb hl c
  (try simp only [push_cast, Nat.zero_lt_succ, Nat.reduceAdd, Nat.reduceBEq, Nat.reducePow, Nat.reduceLeDiff])
  refine w_loopS (fun j : Nat => ([(0, .int .u64 (n : Int)), (3, accV 0 1 ((padZ j).map b1))], ⟨1, accR 0 1 ((padZ j).map b1)⟩)) (fun j => j ≤ z) (fun j => z - j) 0 (Nat.zero_le _) ?_ ?_
  · have h0 : (padZ 0).map b1 = [[.int .u8 128]] := rfl
    simp only [h0]
    (apply Wk.renA (fun _ => false); (case he => (try simp only [push_cast, Nat.reduceBEq]); (repeat' (first | exact cv_sl_acc rfl (by ((simp; done))) (by ((simp; done))) | exact bel_acc (by omega) | refine And.intro ?_ ?_))); (case hr => (try simp only [push_cast]); (repeat' ((exact rowsAll_acc0 (by ((simp only [push_cast]; done))) (by ((simp only [push_cast]; done))) (by ((simp only [push_cast]; done))) (by ((simp only [push_cast]; done))))))); (all_goals try exact 0); (case hinj => (((apply inj_of; (case h => (try dsimp only); repeat' (exact keysIn_acc0)); (case hi => unfold injK; (decide)))))))
  intro j hj
  have hln := padZ_len j
  have f1 : IntKind.u64.wrap (((padZ j).length : Nat) : Int) = ((j + 1 : Nat) : Int) := by rw [hln, IntKind.wrap_u64]; omega
  have f2 : IntKind.u64.wrap ((n : Int) + ((j : Int) + 1)) = ((n + j + 1 : Nat) : Int) := by rw [IntKind.wrap_u64]; omega
  have f3 : IntKind.u64.wrap ((n : Int) + (j : Int) + 1 + 8) = ((n + j + 9 : Nat) : Int) := by rw [IntKind.wrap_u64]; omega
  obtain ⟨m, hm, hmi⟩ := mod64 (n + j + 9) 64 (by omega)
  rcases Nat.lt_or_ge j z with hj' | hj'
  · have hne : ((m : Int) != 0) = true := by simp; omega
    have hs : (padZ (j + 1)).map b1 = (padZ j).map b1 ++ [[.int .u8 0]] := by rw [padZ_snoc, List.map_append]; rfl
    obtain ⟨s, hs9⟩ : ∃ s, s = n + j + 9 := ⟨_, rfl⟩
    rw [← hs9] at f3 hmi
    have hb : (padZ j).length + 1 ≤ 140737488355328 := by omega
    have hb2 : (padZ j).length + 1 ≤ 9223372036854775807 := by omega
    have f2' : IntKind.u64.wrap ((n : Int) + ((j : Int) + 1)) = (n : Int) + (j : Int) + 1 := by rw [f2]; omega
    clear hs9 hm hp hz f2 hln
    generalize padZ j = pz at *
    (try simp only [push_cast, Nat.zero_lt_succ, Nat.reduceAdd, Nat.reduceBEq, Nat.reducePow, Nat.reduceLeDiff, Int.reduceEq, f1, f2', f3, hmi, hne, hb, hb2])
    all_goals (refine rnd_to _ _ _ (j + 1) hj' (by (omega)) ?_; (try simp only [hs]); (apply Wk.renA (fun _ => false); (case he => (try simp only [push_cast, Nat.reduceBEq]); (repeat' (first | exact cv_acc rfl | exact bel_acc (by omega) | refine And.intro ?_ ?_))); (case hr => (try simp only [push_cast]); (repeat' ((exact rowsAll_acc0 (by ((simp only [push_cast]; done))) (by ((simp only [push_cast]; done))) (by ((simp only [push_cast]; done))) (by ((simp only [push_cast]; done))))))); (all_goals try exact 0); (case hinj => (((apply inj_of; (case h => (try dsimp only); repeat' (exact keysIn_acc0)); (case hi => unfold injK; (decide))))))))
  · obtain rfl : j = z := by omega
    have hne : ((m : Int) != 0) = false := by simp; omega
    obtain ⟨s, hs9⟩ : ∃ s, s = n + j + 9 := ⟨_, rfl⟩
    rw [← hs9] at f3 hmi
    have f2' : IntKind.u64.wrap ((n : Int) + ((j : Int) + 1)) = (n : Int) + (j : Int) + 1 := by rw [f2]; omega
    have f4 : IntKind.u64.wrap (8 * (n : Int)) = ((8 * n : Nat) : Int) := by rw [IntKind.wrap_u64]; omega
    have c := number_p (8 * n) 8 (by omega) (by omega)
    have hbl := be_length (8 * n) 8
    have hb : (padZ j).length + (be (8 * n) 8).length ≤ 140737488355328 := by omega
    have hb2 : (padZ j).length + (be (8 * n) 8).length ≤ 9223372036854775807 := by omega
    generalize hq : 8 * n = q at *
    have hq' : 8 * (n : Int) = (q : Int) := by omega
    clear hs9 hm hz f2 hln hbl hq
    generalize padZ j = pz at *
    generalize be q 8 = bq at *
    rw [hp]
    simp only [bsV, List.map_append]
    clear hp
    (try simp only [push_cast, Nat.reduceAdd, Nat.reduceBEq, Int.reduceEq, f1, f2', f3, hmi, hne, f4])
    repeat' (first | ((first | (apply sc_p; (case h => (exact c)); (case hc => ((simp only [push_cast]; done)))) | refine ret_frz rfl ?_ (by ((simp only [push_cast]; done))) (by ((simp only [push_cast]; done))) (by ((simp only [push_cast]; done)))) <;> (try simp only [push_cast, Nat.reduceAdd, Nat.reduceBEq, *])) | exact cv_accF (by ((simp only [push_cast]; done))) (by ((simp only [push_cast]; done))) (by ((simp only [push_cast]; done))) (by ((simp only [push_cast]; done))))
def fillG (N : Nat) (D : List UInt8) (i : Nat) : List UInt8 := D.take i ++ List.replicate (N - i) 0
theorem fillG_len {N : Nat} {D : List UInt8} {i : Nat} (hD : i ≤ D.length) (hi : i ≤ N) : (fillG N D i).length = N := by simp [fillG]; omega
theorem fillG_full {N : Nat} (D : List UInt8) : fillG N D N = D.take N := by simp [fillG]
theorem fillG_zero {N : Nat} {D : List UInt8} : (fillG N D 0).map u8c = rep N (.int .u8 0) := by
  rw [fillG, List.take_zero, List.nil_append]; show _ = rep N (u8c 0); exact rep_map.symm
theorem fillG_set {N : Nat} {D : List UInt8} {i : Nat} (hi : i < N) {b : UInt8} (hb : D[i]? = some b) : (fillG N D i).set i b = fillG N D (i + 1) := by
  unfold fillG
  have hD := (List.getElem?_eq_some_iff.1 hb).1
  have hl : (D.take i).length = i := by rw [List.length_take]; omega
  rw [List.set_append_right _ _ (by omega), hl, Nat.sub_self, show N - i = (N - (i + 1)) + 1 from by omega, List.replicate_succ, List.set_cons_zero, List.take_add_one, hb]
  simp
theorem blocks_p (s : Sh.St) (hs : s.ok) (l : List UInt8) (hl : l.length < 2 ^ 40) : PCall prog 55 [.agg (stc s), bsV l] (.tup [.agg (stc (absorbed s l (l.length / 64))), bsV (l.drop (64 * (l.length / 64)))]) := by
  obtain ⟨N, hN⟩ : ∃ N, N = l.length / 64 := ⟨_, rfl⟩
  rw [← hN]
  have hst : stc s = (stL s).map u32 := rfl
  have ht8 : ∀ x, List.take 8 (stc x) = stc x := fun x => rfl
  have hl8 : ∀ x, (stc x).length = 8 := fun x => rfl
  obtain ⟨c, hb, hl⟩ := l55
  refine pcall_of mixed e55 hb rfl hl r55 (by rw [n55]; simp) ?_
  clear hb hl c
  (try simp only [push_cast, Nat.reduceAdd, Nat.reduceBEq, hl8])
  refine w_loopS (fun k : Nat => ([(1, bsV (l.drop (64 * k))), (2, .pt 0 8 0 0), (4, .pt 1 8 0 0)], ⟨2, [(0, ⟨8, [stc (absorbed s l k)]⟩), (1, ⟨8, [zs8]⟩)]⟩)) (fun k => 64 * k ≤ l.length) (fun k => l.length - 64 * k) 0 (by omega) ?_ ?_
  · have h0 : absorbed s l 0 = s := rfl
    simp only [h0, zs8, Nat.mul_zero, List.drop_zero]
    (apply Wk.renA (fun _ => false); (case he => (try simp only [push_cast, Nat.reduceBEq]); (repeat' (first | exact cv_ros_self (by ((simp only [push_cast]; done))) | refine And.intro ?_ ?_ | rfl | omega))); (case hr => (try simp only [push_cast, Nat.reduceBEq]); (repeat' (first | exact cellsCv_eq (by simp; done) (by ((simp only [push_cast]; done))) | refine And.intro ?_ ?_ | omega))); (all_goals try exact 0); (case hinj => (((simp [rhoA_0, rhoA_1]; done)))))
  intro k hk
  have hdl : (l.drop (64 * k)).length = l.length - 64 * k := by simp
  rcases Nat.lt_or_ge (l.length - 64 * k) 64 with h64 | h64
  · obtain rfl : k = N := by omega
    have hd : decide ((64 : Int) ≤ ((l.drop (64 * k)).length : Int)) = false := by simp only [decide_eq_false_iff_not]; omega
    (try simp only [push_cast, Nat.zero_lt_succ, Nat.reduceAdd, Nat.reduceBEq, hd, hl8, ht8])
    repeat' (first | (((refine ret_frz rfl ?_ (by ((simp only [push_cast, Nat.reduceBEq, hl8]; done))) (by ((simp only [push_cast, Nat.reduceBEq, ht8]; done))) (by ((simp only [push_cast]; done))))) <;> (try simp only [push_cast, Nat.reduceBEq, *])) | ((refine cv_ptE rfl rfl rfl rfl rfl ?_) <;> (try simp only [push_cast, hl8, ht8])) | exact all2_cl (by ((simp only [push_cast]; done))))
  · have hd : decide ((64 : Int) ≤ ((l.drop (64 * k)).length : Int)) = true := by simp only [decide_eq_true_eq]; omega
    have hstep : absorbed s l (k + 1) = Sh.compress (absorbed s l k) ((l.drop (64 * k)).take 64) := rfl
    have hdd : l.drop (64 * (k + 1)) = (l.drop (64 * k)).drop 64 := by rw [List.drop_drop]; congr 1
    have hok := absorbed_ok hs l k
    generalize hD : l.drop (64 * k) = D at *
    have hD64 : 64 ≤ D.length := by omega
    have hlt : (D.take 64).length = 64 := by rw [List.length_take]; omega
    have c := comp'_p (absorbed s l k) hok (D.take 64) hlt
    rw [← hstep] at c
    clear hstep hdl hD
    have hd8 : ∀ x, List.drop 8 (stc x) = [] := fun x => rfl
    (try simp only [push_cast, Nat.reduceAdd, Nat.reduceBEq, hd])
    refine w_loopS (fun i : Nat => ([(1, bsV D), (2, .pt 1 8 0 0), (4, .pt 2 8 0 0), (6, .pt 0 64 0 0), (7, .int .i64 i)], ⟨3, [(0, ⟨64, [(fillG 64 D i).map u8c]⟩), (1, ⟨8, [stc (absorbed s l k)]⟩), (2, ⟨8, [zs8]⟩)]⟩)) (fun i => i ≤ 64) (fun i => 64 - i) 0 (Nat.zero_le _) ?_ ?_
    · simp only [fillG_zero, zs8]
      (apply Wk.renA (fun _ => false); (case he => (try simp only [push_cast, Nat.reduceBEq]); (repeat' (first | exact cv_ros_self (by ((simp only [push_cast]; done))) | refine And.intro ?_ ?_ | rfl | omega))); (case hr => (try simp only [push_cast, Nat.reduceBEq]); (repeat' (first | exact cellsCv_eq (by simp; done) (by first | (simp only [push_cast]; done) | (simp [push_cast]; done)) | refine And.intro ?_ ?_ | omega))); (all_goals try exact 0); (case hinj => (((simp [rhoA_0, rhoA_1, rhoA_2]; done)))))
    intro i hi
    rcases Nat.lt_or_ge i 64 with hi' | hi'
    · have hdi := dltL (k := i) (n := 64) (by omega)
      have hw := inc64 (k := i) (by omega)
      obtain ⟨x, hx⟩ := lt_get (xs := D) (k := i) (by omega)
      have g1 := getD_map (enc := b1) hx
      have hs := st_at' (f := u8c) (ws := fillG 64 D i) (j := i) (v := u8c x) (by rw [fillG_len] <;> omega) x rfl
      rw [fillG_set hi' hx] at hs
      have hiD : i < D.length := by omega
      (try simp only [push_cast, Int.reduceAdd, Nat.zero_lt_succ, Nat.reduceAdd, Nat.reduceBEq, Nat.reduceLeDiff, hdi, hw, g1, hs])
      repeat' (first | refine And.intro ?_ ?_ | omega)
      all_goals (refine rnd_to _ _ _ (i + 1) hi' (by (omega)) ?_; (apply Wk.renA (fun _ => false); (case he => (try simp only [push_cast, Nat.reduceBEq]); (repeat' (first | exact cv_ros_self (by ((simp only [push_cast]; done))) | refine And.intro ?_ ?_ | rfl | omega))); (case hr => (try simp only [push_cast, Nat.reduceBEq]); (repeat' (first | exact cellsCv_eq (by simp; done) (by ((simp only [push_cast]; done))) | refine And.intro ?_ ?_ | omega))); (all_goals try exact 0); (case hinj => (((simp [rhoA_0, rhoA_1, rhoA_2]; done))))))
    · obtain rfl : i = 64 := by omega
      have htb : List.take 64 ((D.take 64).map u8c) = (D.take 64).map u8c := List.take_of_length_le (by simp; omega)
      have htl : List.take (D.length - 64) (List.drop 64 (D.map b1)) = (D.drop 64).map b1 := by rw [← List.map_drop, List.take_of_length_le (by simp; done)]
      simp only [fillG_full]
      (try simp only [push_cast, Nat.reduceSub, Int.reduceAdd, Nat.zero_lt_succ, Nat.reduceAdd, Nat.reduceBEq, Int.reduceLT, hl8, ht8, hlt, htb])
      repeat' (first | ((((apply sc_p; (case h => (exact c)); (case hc => ((simp only [push_cast]; done)))))) <;> (try simp only [push_cast, Nat.zero_lt_succ, Nat.reduceAdd, Nat.reduceBEq, Int.reduceLE, Int.reduceToNat, *])) | refine And.intro ?_ ?_ | omega)
      all_goals (refine rnd_to _ _ _ (k + 1) (by show 64 * (k + 1) ≤ l.length; omega) (by (omega)) ?_; (try simp only [hdd, bsV]); (apply Wk.renA (fun _ => false); (case he => (try simp only [push_cast, Nat.reduceBEq]); (repeat' (first | exact cv_ros_self (by ((simp only [push_cast]; done))) | refine And.intro ?_ ?_ | rfl | omega))); (case hr => (try simp only [push_cast, Nat.reduceBEq]); (repeat' (first | exact cellsCv_eq (by simp; done) (by ((simp only [push_cast]; done))) | refine And.intro ?_ ?_ | omega))); (all_goals try exact 0); (case hinj => (((simp [rhoA_0, rhoA_1]; done))))))
end Go.Proofs.YtggmkfagcjdifaaDoor
