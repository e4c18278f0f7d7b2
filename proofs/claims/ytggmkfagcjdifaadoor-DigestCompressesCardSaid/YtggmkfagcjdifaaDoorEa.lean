/- Facts of the program over abstract values. No condition. -/
import Derived.Test.YtggmkfagcjdifaaDoorDk
set_option maxRecDepth 8000
namespace Go.Proofs.YtggmkfagcjdifaaDoor
set_option linter.unusedSimpArgs false
set_option linter.unusedVariables false
set_option linter.unnecessarySimpa false
set_option linter.unusedSectionVars false
open Go.Proofs.Tryd
open Go.Proofs.YtggmkfagcjdifaaDoor.Ai
set_option maxHeartbeats 4000000
set_option linter.unusedVariables false
open Go.Proofs.YtggmkfagcjdifaaDoor.Sh hiding mixed
attribute [local push_cast] stc_cl stc_one

@[irreducible] def P2 (n : Nat) : Nat := 2 ^ n
theorem P2_eq (n : Nat) : P2 n = 2 ^ n := by unfold P2; rfl
theorem P2_lt {n : Nat} (h : n ≤ 31) : P2 n ≤ 2147483648 := by rw [P2_eq]; exact Nat.pow_le_pow_right (by omega : 1 ≤ 2) h
theorem P2_pos {n : Nat} : 0 < P2 n := by rw [P2_eq]; exact Nat.pow_pos (by omega)
theorem power_p (n : Nat) (h : n ≤ 31) : PCall prog 64 [.int .i64 (n : Int)] (u32 (P2 n)) := by
  obtain ⟨c, hb, hl⟩ := l64
  refine pcall_of mixed e64 hb rfl hl r64 (by rw [n64]; simp) ?_
  clear hb hl c
  (try simp only [push_cast, Nat.reduceAdd])
  refine w_loopS (fun k : Nat => ([(0, .int .i64 (n : Int)), (3, u32 (P2 k)), (4, .int .i64 k)], ⟨0, []⟩)) (fun k => k ≤ n) (fun k => n - k) 0 (Nat.zero_le _) ?_ ?_
  · have h0 : P2 0 = 1 := P2_eq 0
    simp only [h0]
    (apply Wk.renA (fun _ => false); (case he => (try simp only [push_cast, Nat.reduceBEq]); (repeat' (rfl))); (case hr => (try simp only [push_cast]); (skip)); (all_goals try exact 0); (case hinj => (((simp; done)))))
  intro k hk
  rcases Nat.lt_or_ge k n with hk' | hk'
  · have hd := dlt hk'
    have hw := inc64 (k := k) (by omega)
    have hp := P2_lt (n := k) (by omega)
    have h2 : P2 (k + 1) = 2 * P2 k := by rw [P2_eq, P2_eq, Nat.pow_succ]; omega
    have h3 := P2_lt (n := k + 1) (by omega)
    have h4 : IntKind.u32.wrap (2 * (P2 k : Int)) = (P2 (k + 1) : Int) := by rw [IntKind.wrap_u32]; omega
    clear h2 hp h3
    (try simp only [push_cast, Nat.reduceAdd, Nat.reduceBEq, hd, hw, h4])
    all_goals (refine rnd_to _ _ _ (k + 1) hk' (by (omega)) ?_; (apply Wk.renA (fun _ => false); (case he => (try simp only [push_cast, Nat.reduceBEq]); (skip)); (case hr => (try simp only [push_cast]); (skip)); (all_goals try exact 0); (case hinj => (((simp; done))))))
  · obtain rfl : k = n := by omega
    have hd := dge (Nat.le_refl k)
    (try simp only [push_cast, Nat.reduceAdd, Nat.reduceBEq, hd])
    repeat' (((((refine ret_frz rfl ?_ (by ((simp only [push_cast]; done))) (by ((simp only [push_cast]; done))) (by ((simp only [push_cast]; done))))) <;> (try simp only [push_cast, Nat.reduceBEq, *]))))
theorem rotr'_p (x n : Nat) (hx : x < 4294967296) (h1 : 1 ≤ n) (h : n ≤ 31) : PCall prog 52 [u32 x, .int .i64 (n : Int)] (u32 (Sh.rotr x n)) := by
  have c1 := power_p n h
  have c2 := power_p (32 - n) (by omega)
  have hr := rotr_lt (n := n) hx (by omega)
  have hP : P2 n * P2 (32 - n) = 4294967296 := by rw [P2_eq, P2_eq, ← Nat.pow_add, show n + (32 - n) = 32 from by omega]
  have he : Sh.rotr x n = x / P2 n + x % P2 n * P2 (32 - n) := by rw [P2_eq, P2_eq]; rfl
  have hpos := P2_pos (n := n)
  have hpos2 := P2_pos (n := 32 - n)
  have f1 : IntKind.i64.wrap (32 - (n : Int)) = ((32 - n : Nat) : Int) := by rw [i64_id (by omega) (by omega)]; omega
  have hm : x % P2 n < P2 n := Nat.mod_lt _ hpos
  have hd : x / P2 n ≤ x := Nat.div_le_self _ _
  have hdi : ((x : Int) / (P2 n : Int)) = ((x / P2 n : Nat) : Int) := by simp
  have hmi : ((x : Int) % (P2 n : Int)) = ((x % P2 n : Nat) : Int) := by simp
  generalize 32 - n = m at *
  generalize P2 n = p at *
  generalize P2 m = q at *
  have f2 : IntKind.u32.wrap ((x : Int).tdiv (p : Int)) = ((x / p : Nat) : Int) := by
    rw [Int.tdiv_eq_ediv_of_nonneg (by omega), hdi, IntKind.wrap_u32]; generalize x / p = d at *; omega
  have f3 : (x : Int).tmod (p : Int) = ((x % p : Nat) : Int) := by rw [Int.tmod_eq_emod_of_nonneg (by omega), hmi]
  have hmq : x % p * q < 4294967296 := by rw [← hP]; exact Nat.mul_lt_mul_of_pos_right hm hpos2
  have f4 : ((x % p : Nat) : Int) * (q : Int) = ((x % p * q : Nat) : Int) := by simp
  rw [he] at hr ⊢
  generalize x % p * q = t at *
  generalize x % p = r at *
  generalize x / p = d at *
  have f5 : IntKind.u32.wrap ((r : Int) * (q : Int)) = (t : Int) := by rw [f4, IntKind.wrap_u32]; omega
  have f6 : IntKind.u32.wrap ((d : Int) + (t : Int)) = (d : Int) + (t : Int) := by rw [IntKind.wrap_u32]; omega
  have f7 : ¬ (p : Int) = 0 := by omega
  clear f4 hdi hmi hP he
  obtain ⟨c, hb, hl⟩ := l52
  refine pcall_of mixed e52 hb rfl hl r52 (by rw [n52]; simp) ?_
  clear hb hl c
  (try simp only [push_cast, Nat.reduceAdd, Nat.reduceBEq])
  repeat' ((((first | (apply cd_p; (case h => first | exact c1 | exact c2); (case hc => ((simp only [push_cast]; done)))) | refine ret_frz rfl ?_ (by ((simp only [push_cast]; done))) (by ((simp only [push_cast]; done))) (by ((simp only [push_cast]; done)))) <;> (try simp only [push_cast, Nat.reduceAdd, Nat.reduceBEq, *]))))
theorem first_p : PCall prog 53 [] (.agg (stc iv)) := by
  have h : stc iv = [.int .u32 1779033703, .int .u32 3144134277, .int .u32 1013904242, .int .u32 2773480762, .int .u32 1359893119, .int .u32 2600822924, .int .u32 528734635, .int .u32 1541459225] := rfl
  rw [h]
  obtain ⟨c, hb, hl⟩ := l53
  refine pcall_of mixed e53 hb rfl hl r53 (by rw [n53]; simp) ?_
  clear hb hl c
  (try simp only [push_cast, Nat.zero_lt_succ, Nat.reduceAdd, Nat.reduceBEq, Nat.reduceLeDiff])
  repeat' (first | (((refine ret_frz rfl ?_ (by ((simp only [push_cast, Nat.reduceAdd]; done))) (by ((simp only [push_cast]; done))) (by ((simp only [push_cast]; done))))) <;> (try simp only [push_cast, Nat.reduceBEq, *])) | ((refine cv_ptE rfl rfl rfl rfl rfl ?_) <;> (try simp only [push_cast, Nat.reduceAdd])))
theorem val_mod (n k : Nat) (x : UInt8) (h : n < 72057594037927936) : IntKind.u64.wrap (IntKind.u64.wrap (256 * (n : Int)) + (x.toNat : Int)) = 256 * (n : Int) + (x.toNat : Int) := by
  have := x.toNat_lt
  rw [IntKind.wrap_u64, IntKind.wrap_u64]; omega
theorem value_p (l : List UInt8) (hl : l.length ≤ 8) : PCall prog 63 [bsV l] (.int .u64 (val l : Int)) := by
  obtain ⟨c, hb, hl⟩ := l63
  refine pcall_of mixed e63 hb rfl hl r63 (by rw [n63]; simp) ?_
  clear hb hl c
  (try simp only [push_cast, Nat.reduceAdd])
  refine w_loopS (fun k : Nat => ([(0, bsV l), (3, .int .u64 (val (l.take k) : Int)), (4, .int .i64 k)], ⟨0, []⟩)) (fun k => k ≤ l.length) (fun k => l.length - k) 0 (Nat.zero_le _) ?_ ?_
  · simp only [List.take_zero, val_nil]
    (apply Wk.renA (fun _ => false); (case he => (try simp only [push_cast, Nat.reduceBEq]); (repeat' ((exact cv_ros_self (by ((simp only [push_cast]; done))))))); (case hr => (try simp only [push_cast]); (skip)); (all_goals try exact 0); (case hinj => (((simp; done)))))
  intro k hk
  rcases Nat.lt_or_ge k l.length with hk' | hk'
  · have hd := dlt hk'
    have hw := inc64 (k := k) (by omega)
    obtain ⟨x, hx⟩ := lt_get hk'
    have hg := getD_map (enc := b1) hx
    have hs : (val (l.take (k + 1)) : Int) = 256 * (val (l.take k) : Int) + (x.toNat : Int) := by rw [take_snoc hx, val_snoc]; simp
    have hv := val_lt7 (l := l.take k) (by simp; omega)
    have hx8 := x.toNat_lt
    have hwx : IntKind.u64.wrap (x.toNat : Int) = (x.toNat : Int) := by rw [IntKind.wrap_u64]; omega
    have h4 := val_mod (val (l.take k)) k x hv
    (try simp only [push_cast, Nat.reduceAdd, Nat.reduceBEq, hd, hw, hg, hwx, h4])
    repeat' (first | refine And.intro ?_ ?_ | omega)
    all_goals (refine rnd_to _ _ _ (k + 1) hk' (by (omega)) ?_; (try simp only [hs]); (apply Wk.renA (fun _ => false); (case he => (try simp only [push_cast, Nat.reduceBEq]); (repeat' ((exact cv_ros_self (by ((simp only [push_cast]; done))))))); (case hr => (try simp only [push_cast]); (skip)); (all_goals try exact 0); (case hinj => (((simp; done))))))
  · obtain rfl : k = l.length := by omega
    have hd := dge (Nat.le_refl l.length)
    simp only [List.take_length]
    (try simp only [push_cast, Nat.reduceAdd, Nat.reduceBEq, hd])
    repeat' (((((refine ret_frz rfl ?_ (by ((simp only [push_cast]; done))) (by ((simp only [push_cast]; done))) (by ((simp only [push_cast]; done))))) <;> (try simp only [push_cast, Nat.reduceBEq, *]))))
end Go.Proofs.YtggmkfagcjdifaaDoor
