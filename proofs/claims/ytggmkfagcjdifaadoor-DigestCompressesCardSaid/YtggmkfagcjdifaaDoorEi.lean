/- Facts of the program over abstract values. No condition. -/
import Derived.Test.YtggmkfagcjdifaaDoorEh
set_option maxRecDepth 8000
namespace Go.Proofs.YtggmkfagcjdifaaDoor
set_option linter.unusedSimpArgs false
set_option linter.unusedVariables false
set_option linter.unnecessarySimpa false
set_option linter.unusedSectionVars false
open Go.Proofs.Tryd
open Go.Proofs.YtggmkfagcjdifaaDoor.Ai
set_option maxHeartbeats 4000000
set_option linter.unusedVariables false
open Go.Proofs.YtggmkfagcjdifaaDoor.Sh hiding mixed
attribute [local push_cast] stc_cl stc_one

theorem tag'_p (key b : List UInt8) (hk : key.length ≤ 64) (hl : b.length ≤ 8128) : PCall prog 59 [bsV key, bsV b] (.agg ((tagB key b).map u8c)) := by
  rw [tagB_eq]
  have c1 : RCall prog 67 [bsV key, .int .u8 54] 0 1 _ _ := mixed'_r key 54 hk
  have c2 : RCall prog 67 [bsV key, .int .u8 92] 0 1 _ _ := mixed'_r key 92 hk
  have hX : ((key64 key).map (· ^^^ (54 : UInt8))).length = 64 := by rw [List.length_map]; exact key64_length hk
  have hY : ((key64 key).map (· ^^^ (92 : UInt8))).length = 64 := by rw [List.length_map]; exact key64_length hk
  generalize (key64 key).map (· ^^^ (54 : UInt8)) = X at *
  generalize (key64 key).map (· ^^^ (92 : UInt8)) = Y at *
  have c3 := sum'_p (X ++ b) (by simp; omega)
  have hi := shaW_length (X ++ b)
  generalize shaW (X ++ b) = inn at *
  have c4 := sum'_p (Y ++ inn) (by simp; omega)
  have ho := shaW_length (Y ++ inn)
  generalize shaW (Y ++ inn) = out at *
  have hb1 : X.length + b.length ≤ 140737488355328 := by omega
  have hb2 : X.length + b.length ≤ 9223372036854775807 := by omega
  have hb3 : Y.length + 32 ≤ 140737488355328 := by omega
  have hb4 : Y.length + 32 ≤ 9223372036854775807 := by omega
  have ht1 : List.take 32 (inn.map u8c) = inn.map u8c := List.take_of_length_le (by simp; omega)
  have ht2 : List.take 32 (out.map u8c) = out.map u8c := List.take_of_length_le (by simp; omega)
  have hdr : List.drop 32 (rep 32 (.int .u8 0)) = [] := List.drop_of_length_le (by rw [rep_len]; omega)
  have f1 : List.map (fun c => [c]) (inn.map u8c) = inn.map b1 := (flat1 _).symm
  simp only [bsV, List.map_append] at c3 c4
  clear hX hY
  obtain ⟨c, hb, hl⟩ := l59
  refine pcall_of mixed e59 hb rfl hl r59 (by rw [n59]; simp) ?_
  clear hb hl c
  (try simp only [push_cast, Nat.reduceAdd, Nat.reduceBEq])
  repeat' (first | ((first | (apply sc_r; (case h => (exact c1)); (case hc => ((simp only [push_cast]; done)))) | (apply cd_r; (case h => (exact c2)); (case hc => ((simp only [push_cast]; done)))) | (apply sc_pz; (case h => exact c3); (case hx => ((try simp only [all2_cons, all2_nil, frzArg, push_cast]); repeat' ((exact cv_accF rfl (by ((simp only [push_cast]; done))) (by ((simp only [push_cast]; done))) (by ((simp only [push_cast]; done))))))); (case hv => ((simp only [push_cast]; done)))) | (apply sc_pz; (case h => exact c4); (case hx => ((try simp only [all2_cons, all2_nil, frzArg, push_cast]); repeat' ((exact cv_accF rfl (by ((simp only [push_cast]; done))) (by ((simp only [push_cast]; done))) (by ((simp only [push_cast]; done))))))); (case hv => ((simp only [push_cast]; done)))) | refine ret_frz rfl ?_ (by ((simp only [push_cast, ho]; done))) (by ((simp only [push_cast, ht2]; done))) (by ((simp only [push_cast]; done)))) <;> (try simp only [push_cast, Nat.reduceSub, Int.reduceAdd, Nat.zero_lt_succ, Nat.reduceAdd, Nat.reduceBEq, Nat.reduceLT, Nat.reduceLeDiff, Int.reduceLE, Int.reduceToNat, *])) | ((((apply cv_ptE; (case hr => ((try simp only [push_cast, Nat.reduceBEq]); rfl)); (case hz => rfl); (case h1 => rfl); (case h2 => rfl); (case h3 => (((simp only [push_cast, ho]; done))))))) <;> (try simp only [push_cast, ht2, ho])) | exact all2_cl (by ((simp only [push_cast]; done))))
end Go.Proofs.YtggmkfagcjdifaaDoor
