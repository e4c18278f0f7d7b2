/- Facts of the program over abstract values. No condition. -/
import Derived.Test.YtggmkfagcjdifaaDoorEe
set_option maxRecDepth 8000
namespace Go.Proofs.YtggmkfagcjdifaaDoor
set_option linter.unusedSimpArgs false
set_option linter.unusedVariables false
set_option linter.unnecessarySimpa false
set_option linter.unusedSectionVars false
open Go.Proofs.Tryd
open Go.Proofs.YtggmkfagcjdifaaDoor.Ai
set_option maxHeartbeats 4000000
set_option linter.unusedVariables false
open Go.Proofs.YtggmkfagcjdifaaDoor.Sh hiding mixed
attribute [local push_cast] stc_cl stc_one

theorem be_at (x j : Nat) (hj : j < 4) : (be x 4)[j]? = some (UInt8.ofNat (x / 256 ^ (3 - j))) := by
  rw [be4]
  match j, hj with
  | 0, _ => rfl
  | 1, _ => rfl
  | 2, _ => rfl
  | 3, _ => rfl
theorem finish'_p (s : Sh.St) (hs : s.ok) (t : List UInt8) (n : Nat) (hn : n ≤ 8192) (hl : t.length < 2 ^ 39) : PCall prog 57 [.agg (stc s), bsV t, .int .u64 (n : Int)] (.agg ((sumBytes (absorbed s (t ++ padBytes n) ((t ++ padBytes n).length / 64))).map u8c)) := by
  have c4 := pad_p n hn
  have hpl := padBytes_length n
  have c3 := blocks_p s hs (t ++ padBytes n) (by simp; omega)
  have hok := absorbed_ok hs (t ++ padBytes n) ((t ++ padBytes n).length / 64)
  have hap : (t ++ padBytes n).map b1 = t.map b1 ++ (padBytes n).map b1 := List.map_append
  have hb : t.length + (padBytes n).length ≤ 140737488355328 := by omega
  have hb2 : t.length + (padBytes n).length ≤ 9223372036854775807 := by omega
  have hb3 : t.length ≤ 140737488355328 := by omega
  have hb4 : t.length ≤ 9223372036854775807 := by omega
  simp only [bsV] at c3
  generalize absorbed s (t ++ padBytes n) ((t ++ padBytes n).length / 64) = s' at *
  generalize (t ++ padBytes n).drop (64 * ((t ++ padBytes n).length / 64)) = t' at *
  rw [hap] at c3
  clear hap
  generalize padBytes n = pb at *
  have hst : stc s' = (stL s').map u32 := rfl
  have hsl : (stL s').length = 8 := rfl
  have hlt := stL_lt hok
  have hat : ∀ {k j x : Nat}, j < 4 → (stL s')[k]? = some x → (sumBytes s')[4 * k + j]? = some (UInt8.ofNat (x / 256 ^ (3 - j))) := fun hj h => sum_at s' hj h
  have hDl := sumBytes_length s'
  have htk : List.take 8 ((stL s').map u32) = (stL s').map u32 := rfl
  have hdk : List.drop 8 (stc s) = [] := rfl
  have hk8 : (stc s).length = 8 := rfl
  have ht8 : List.take 8 (stc s) = stc s := rfl
  generalize stL s' = ss at *
  generalize sumBytes s' = D at *
  simp only [hst] at c3
  obtain ⟨c, hb, hl⟩ := l57
  refine pcall_of mixed e57 hb rfl hl r57 (by rw [n57]; simp) ?_
  clear hb hl c
  (try simp only [push_cast, Nat.reduceAdd, Nat.reduceBEq, Nat.reducePow, Nat.reduceLeDiff, hk8, hb3, hb4])
  repeat' (first | ((first | (apply sc_p; (case h => (exact c4)); (case hc => ((simp only [push_cast]; done)))) | (apply SCall.fZ; (case h => exact c3); (case hx => (try simp only [argsCv]); repeat' (first | exact trivial | exact cv_closed (by ((simp only [push_cast]; done))) | exact Cl.bel (by ((simp only [push_cast]; done))) | exact cv_slG rfl zB_self ⟨rfl, rfl⟩ (by ((simp only [push_cast]; done))) rfl (by ((simp only [push_cast]; done))) (by ((simp only [push_cast]; done))) | refine And.intro ?_ ?_)); (case hcl => exact (by ((simp only [push_cast]; done)))); (case hv => exact (by ((simp only [push_cast]; done)))))) <;> (try simp only [push_cast, Nat.zero_lt_succ, Nat.reduceAdd, Nat.reduceBEq, *])) | refine And.intro ?_ ?_ | omega)
  refine w_loopS (fun i : Nat => ([(3, .pt 1 8 0 0), (6, .pt 2 32 0 0), (8, .pt 0 32 0 0), (9, .int .i64 i)], ⟨3, [(0, ⟨32, [(fillG 32 D i).map u8c]⟩), (1, ⟨8, [ss.map u32]⟩), (2, ⟨32, [z32]⟩)]⟩)) (fun i => i ≤ 32) (fun i => 32 - i) 0 (Nat.zero_le _) ?_ ?_
  · simp only [fillG_zero]
    (apply Wk.renA (fun _ => false); (case he => (try simp only [push_cast, Nat.reduceBEq]); (repeat' (first | refine And.intro ?_ ?_ | rfl | omega))); (case hr => (try simp only [push_cast, Nat.reduceBEq]); (repeat' (first | exact cellsCv_eq (by simp; done) (by first | (simp only [push_cast]; done) | (simp [push_cast]; done)) | refine And.intro ?_ ?_ | omega))); (all_goals try exact 0); (case hinj => (((simp [rhoA_0, rhoA_1, rhoA_2]; done)))))
  intro i hi
  rcases Nat.lt_or_ge i 32 with hi' | hi'
  · have hd := dltL (k := i) (n := 32) (by omega)
    have hw := inc64 (k := i) (by omega)
    obtain ⟨q, hq0, hqi⟩ := div64 i 4 (by omega) (by omega)
    obtain ⟨r, hr0, hri⟩ := mod64 i 4 (by omega)
    have hq : q = i / 4 := by omega
    have hr : r = i % 4 := by omega
    obtain ⟨x, hx⟩ := lt_get (xs := ss) (k := q) (by omega)
    have g1 := ld_at (f := u32) hx
    have hxl := hlt x (List.mem_of_getElem? hx)
    have hbe := be_at x r (by omega)
    have hb := hat (j := r) (by omega) hx
    rw [show 4 * q + r = i from by omega] at hb
    have c := number_p x 4 (by omega) (by omega)
    have hbl := be_length x 4
    have g2 := getD_map (enc := b1) hbe
    have hs := st_at' (f := u8c) (ws := fillG 32 D i) (j := i) (v := u8c (UInt8.ofNat (x / 256 ^ (3 - r)))) (by rw [fillG_len] <;> omega) _ rfl
    rw [fillG_set hi' hb] at hs
    have fx : IntKind.u64.wrap (x : Int) = (x : Int) := by rw [IntKind.wrap_u64]; omega
    have k1 : q ≤ 7 := by omega
    have k2 : r < 4 := by omega
    generalize be x 4 = bx at *
    generalize UInt8.ofNat (x / 256 ^ (3 - r)) = y at *
    clear hq hr hat hbe hb hq0 hr0
    (try simp only [push_cast, Int.reduceAdd, Nat.zero_lt_succ, Nat.reduceAdd, Nat.reduceBEq, Nat.reduceLeDiff, Int.reduceEq, hd, hqi, g1, fx, k1])
    repeat' (first | ((((apply sc_p; (case h => (exact c)); (case hc => ((simp only [push_cast]; done)))))) <;> (try simp only [push_cast, Int.reduceAdd, Nat.zero_lt_succ, Nat.reduceAdd, Nat.reduceBEq, Nat.reduceLeDiff, Int.reduceEq, *])) | refine And.intro ?_ ?_ | omega)
    all_goals (refine rnd_to _ _ _ (i + 1) hi' (by (omega)) ?_; (apply Wk.renA (fun _ => false); (case he => (try simp only [push_cast, Nat.reduceBEq]); (repeat' (first | refine And.intro ?_ ?_ | rfl | omega))); (case hr => (try simp only [push_cast, Nat.reduceBEq]); (repeat' (first | exact cellsCv_eq (by simp; done) (by first | (simp only [push_cast]; done) | (simp [push_cast]; done)) | refine And.intro ?_ ?_ | omega))); (all_goals try exact 0); (case hinj => (((simp [rhoA_0, rhoA_1, rhoA_2]; done))))))
  · obtain rfl : i = 32 := by omega
    have h32 : fillG 32 D 32 = D := by rw [fillG_full, List.take_of_length_le (by omega)]
    have ht : List.take 32 (D.map u8c) = D.map u8c := List.take_of_length_le (by simp; omega)
    have hdr : List.drop 32 (rep 32 (.int .u8 0)) = [] := List.drop_of_length_le (by rw [rep_len]; omega)
    simp only [h32]
    (try simp only [push_cast, Nat.reduceSub, Int.reduceAdd, Nat.zero_lt_succ, Nat.reduceAdd, Nat.reduceBEq, Int.reduceLT, ht, hDl, hdr])
    repeat' (first | (((refine ret_frz rfl ?_ (by ((simp only [push_cast, hDl]; done))) (by ((simp only [push_cast, ht]; done))) (by ((simp only [push_cast]; done))))) <;> (try simp only [push_cast, Nat.reduceBEq, *])) | (((refine cv_ptE rfl rfl rfl (by simp; done) (by ((simp only [push_cast, hDl]; done))) ?_)) <;> (try simp only [push_cast, ht, hDl])) | exact all2_cl (by ((simp only [push_cast]; done))))
end Go.Proofs.YtggmkfagcjdifaaDoor
