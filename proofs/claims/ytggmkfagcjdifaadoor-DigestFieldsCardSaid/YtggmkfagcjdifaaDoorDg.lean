/- Facts of the program over abstract values. No condition. -/
import Derived.Test.YtggmkfagcjdifaaDoorDf
set_option maxRecDepth 8000
namespace Go.Proofs.YtggmkfagcjdifaaDoor
set_option linter.unusedSimpArgs false
set_option linter.unusedVariables false
set_option linter.unnecessarySimpa false
set_option linter.unusedSectionVars false
open Go.Proofs.Tryd
open Go.Proofs.YtggmkfagcjdifaaDoor.Ai
set_option maxHeartbeats 4000000
set_option linter.unusedVariables false
open Go.Proofs.YtggmkfagcjdifaaDoor.Sh hiding mixed
attribute [local push_cast] stc_cl stc_one

theorem appUint_sl (bs : List UInt8) (n k : Nat) (hn : n < 18446744073709551616) (hk : k ≤ 8) (hl : bs.length < 2 ^ 40) (h0 : bs ≠ []) :
    SCall prog 41 [.sl 0 1 0 bs.length none, .int .u64 (n : Int), .int .i64 (k : Int)] ⟨1, [(0, ⟨1, bs.map b1⟩)]⟩ (.ret (.sl 1 1 0 (bs.length + k) none)) ⟨2, [(1, ⟨1, (bs ++ be n k).map b1⟩)]⟩ := by
  have := appUint_s bs n k hn hk hl
  rw [accV_ne (by simpa using h0), accR_ne (by simpa using h0), accV_ne (by simp [h0] <;> fail "n"), accR_ne (by simp [h0] <;> fail "n")] at this
  simpa [be_length] using this
theorem padding_p (n : Nat) (hn : n ≤ 8192) : PCall prog 56 [.int .u64 (n : Int)] (bsV (padBytes n)) := by
  obtain ⟨z, hz⟩ : ∃ z, z = (119 - n % 64) % 64 := ⟨_, rfl⟩
  have hp : padBytes n = (128 :: List.replicate z 0) ++ be (8 * n) 8 := by unfold padBytes; rw [hz]; rfl
  obtain ⟨r, hr, hri⟩ := mod64 n 64 (by omega)
  have f0 : IntKind.i64.wrap (r : Int) = (r : Int) := i64_nat (by omega)
  have f1 : IntKind.i64.wrap (119 - (r : Int)) = 119 - (r : Int) := i64_id (by omega) (by omega)
  have f2 : (119 - (r : Int)).tmod 64 = (z : Int) := by rw [Int.tmod_eq_emod_of_nonneg (by omega)]; omega
  have f3 : IntKind.i64.wrap (1 + (z : Int)) = ((z + 1 : Nat) : Int) := by rw [i64_id (by omega) (by omega)]; omega
  have f4 : IntKind.u64.wrap (8 * (n : Int)) = ((8 * n : Nat) : Int) := by rw [IntKind.wrap_u64]; omega
  have hrep : List.set (List.replicate (z + 1) [AV.int .u8 0]) 0 [AV.int .u8 128] = (128 :: List.replicate z (0 : UInt8)).map b1 := by
    rw [List.replicate_succ, List.set_cons_zero, List.map_cons, List.map_replicate]; rfl
  have hlen : (128 :: List.replicate z (0 : UInt8)).length = z + 1 := by simp
  have c := appUint_sl (128 :: List.replicate z 0) (8 * n) 8 (by omega) (by omega) (by simp; omega) (by simp <;> fail "n")
  rw [← hp] at c
  rw [hlen] at c
  generalize (128 :: List.replicate z (0 : UInt8)) = ys at *
  generalize hm : 8 * n = m at *
  generalize hz1 : z + 1 = z1 at *
  have hz64 : z1 ≤ 64 := by omega
  have hzp : 0 < z1 := by omega
  have hg : (z1 : Int) ≤ 140737488355328 := by omega
  have hg2 : (z1 : Int) < 9223372036854775808 := by omega
  have hpl : z1 + 8 = (padBytes n).length := by rw [hp, List.length_append, be_length, hlen]
  have hgd : (List.replicate z1 [AV.int .u8 0]).getD 0 [] = [AV.int .u8 0] := by rw [← hz1, List.replicate_succ]; rfl
  clear hz1 hm hz hr hp
  generalize padBytes n = pb at *
  obtain ⟨c, hb, hl⟩ := l56
  refine pcall_of mixed e56 hb rfl hl r56 (by rw [n56]; simp) ?_
  clear hb hl c
  (try simp only [push_cast, Int.reduceAdd, Nat.reduceAdd, Nat.reduceBEq, Int.reduceLE, Int.reduceEq, Int.reduceToNat, hri, f0, f1, f2, f3, f4, hrep, hgd])
  repeat' (first | ((first | (apply SCall.fA (fun _ => false); (case h => exact c); (case hx => (try simp only [push_cast, argsCv]); (repeat' (first | refine And.intro ?_ ?_ | rfl))); (case hr => (try simp only [push_cast]); (repeat' (((refine cellsCv_eq ?_ ?_; (simp <;> fail "n"); (((simp only [push_cast] <;> fail "n")))))))); (all_goals try exact 0); (case hinj => (((simp [injK, keys, push_cast]; done)))); (case hlt => ((refine lt_one ?_; (simp [push_cast] <;> fail "n")))); (case hinj' => (((simp [injK, keys, push_cast]; done))))) | (refine ret_frz rfl ?_ ?_ ?_ ?_; rotate_left 1; (((simp only [push_cast] <;> fail "n"))); (((simp only [push_cast] <;> fail "n"))); (((simp only [push_cast] <;> fail "n"))))) <;> (try simp only [push_cast, Nat.reduceSub, Nat.reduceAdd, Nat.reduceBEq, Nat.reduceLT, *])) | (refine cv_slE rfl rfl ⟨rfl, rfl⟩ ?_ ?_; (simp <;> fail "n"); (simp [take_map_len] <;> fail "n")) | refine And.intro ?_ ?_ | omega)
  all_goals (((simp [*]; done)))
/-- The hash that Write returns, and the error. -/
def wrS (h : HS) (b : List UInt8) : AV := bif decide ((b.length : Int) > 8192 - (h.n : Int)) then .tup [.agg zs10, .int .i64 4] else .tup [.agg (hc (h.write b).s (bsV (h.write b).t) (h.write b).n), .int .i64 0]
theorem chkH_ok {h : HS} (hh : h.ok) : chkH h.t.length (h.n : Int) = 0 := by
  obtain ⟨h1, h2, h3⟩ := hh
  simp only [chkH]
  rw [show IntKind.u64.wrap (h.t.length : Int) = (h.t.length : Int) from by rw [IntKind.wrap_u64]; omega, Int.tmod_eq_emod_of_nonneg (by omega)]
  have : decide ((h.n : Int) > 8192) = false := by simp; omega
  rw [this, h2]
  simp
theorem write_p (h : HS) (hh : h.ok) (b : List UInt8) (hl : b.length < 2 ^ 48) : PCall prog 23 [.agg (hc h.s (bsV h.t) h.n), bsV b] (wrS h b) := by
  have c1 := check_p h.s h.t h.n
  rw [chkH_ok hh] at c1
  obtain ⟨s, t, n⟩ := h
  obtain ⟨h1, h2, h3⟩ := hh
  simp only at h1 h2 h3 c1
  have f1 : IntKind.i64.wrap (n : Int) = (n : Int) := i64_nat (by omega)
  have f2 : IntKind.i64.wrap (8192 - (n : Int)) = 8192 - (n : Int) := i64_id (by omega) (by omega)
  have f3 : IntKind.u64.wrap (b.length : Int) = (b.length : Int) := by rw [IntKind.wrap_u64]; omega
  have f4 : IntKind.u64.wrap ((n : Int) + (b.length : Int)) = (n : Int) + (b.length : Int) := by rw [IntKind.wrap_u64]; omega
  by_cases hb : (b.length : Int) > 8192 - (n : Int)
  · have hd : decide ((b.length : Int) > 8192 - (n : Int)) = true := by simpa using hb
    simp only [wrS, hd, cond_true]
    obtain ⟨c, hb, hl⟩ := l23
    refine pcall_of mixed e23 hb rfl hl r23 (by rw [n23]; simp) ?_
    clear hb hl c
    (try simp only [push_cast, Nat.zero_lt_succ, Nat.reduceAdd, Nat.reduceBEq, hc])
    repeat' (first | ((first | (apply sc_p; (case h => (exact c1)); (case hc => ((simp only [push_cast] <;> fail "n")))) | (refine ret_frz rfl ?_ ?_ ?_ ?_; rotate_left 1; (((simp only [push_cast, Nat.reduceBEq, Nat.reduceAdd] <;> fail "n"))); (((simp only [push_cast, Nat.reduceBEq] <;> fail "n"))); (((simp only [push_cast] <;> fail "n"))))) <;> (try simp only [push_cast, Nat.zero_lt_succ, Nat.reduceAdd, Nat.reduceBEq, *])) | ((refine cv_ptE rfl rfl rfl rfl rfl ?_) <;> (try simp only [push_cast, Nat.reduceAdd])))
  have hd : decide ((b.length : Int) > 8192 - (n : Int)) = false := by simpa using hb
  have c2 := join_p [t, b] (by simp <;> fail "n") (by simp; omega)
  simp only [List.flatten_cons, List.flatten_nil, List.append_nil] at c2
  have c3 := absorb_p s h1 (t ++ b) (by simp; omega)
  simp only [wrS, HS.write, hd, cond_false]
  generalize absorbed s (t ++ b) ((t ++ b).length / 64) = s' at *
  generalize (t ++ b).drop (64 * ((t ++ b).length / 64)) = t' at *
  generalize (t ++ b) = tb at *
  obtain ⟨c, hb, hl⟩ := l23
  refine pcall_of mixed e23 hb rfl hl r23 (by rw [n23]; simp) ?_
  clear hb hl c
  (try simp only [push_cast, Nat.zero_lt_succ, Nat.reduceAdd, Nat.reduceBEq, hc])
  repeat' (first | ((first | (apply sc_p; (case h => (exact c1)); (case hc => ((simp only [push_cast] <;> fail "n")))) | (apply cd_p; (case h => first | exact c2 | exact c3); (case hc => ((simp only [push_cast] <;> fail "n")))) | (refine ret_frz rfl ?_ ?_ ?_ ?_; rotate_left 1; (((simp only [push_cast, Nat.reduceBEq, Nat.reduceAdd] <;> fail "n"))); (((simp only [push_cast, Nat.reduceBEq] <;> fail "n"))); (((simp only [push_cast] <;> fail "n"))))) <;> (try simp only [push_cast, Nat.zero_lt_succ, Nat.reduceAdd, Nat.reduceBEq, Nat.reducePow, Nat.reduceLT, Nat.reduceLeDiff, *, stc])) | ((refine cv_ptE rfl rfl rfl rfl rfl ?_) <;> (try simp only [push_cast, Nat.reduceAdd])))
end Go.Proofs.YtggmkfagcjdifaaDoor
