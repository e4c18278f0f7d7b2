/- Facts of the program over abstract values. No condition. -/
import Derived.Test.YtggmkfagcjdifaaDoorDk
import Derived.Test.YtggmkfagcjdifaaDoorAiY
set_option maxRecDepth 100000
namespace Go.Proofs.YtggmkfagcjdifaaDoor
set_option linter.unusedSimpArgs false
set_option linter.unusedVariables false
set_option linter.unnecessarySimpa false
set_option linter.unusedSectionVars false
open Go.Proofs.Tryd
open Go.Proofs.YtggmkfagcjdifaaDoor.Ai
set_option maxHeartbeats 4000000
set_option linter.unusedVariables false
open Go.Proofs.YtggmkfagcjdifaaDoor.Sh hiding mixed
theorem a1_p : PCall prog 14 [bsV [7], .int .u64 258, .int .i64 2] (.tup [bsV [7, 1, 2], .int .i64 0]) := ev_call (fr := [42]) (L := 200) (n := 12) mixed tabOK (by kernel_rfl)
theorem a2_p : PCall prog 16 [bsV [7, 1, 2], .int .i64 1, .int .i64 2] (.tup [.int .u64 258, .int .i64 3, .int .i64 0]) := ev_call (fr := [42]) (L := 200) (n := 12) mixed tabOK (by kernel_rfl)
theorem a3_p : PCall prog 17 [bsV [7, 1, 2], .int .i64 1, .int .i64 2] (.tup [bsV [1, 2], .int .i64 3, .int .i64 0]) := ev_call (fr := [42]) (L := 200) (n := 12) mixed tabOK (by kernel_rfl)
theorem a4_p : PCall prog 25 [.str ⟨#[48, 48, 97, 102]⟩] (.tup [bsV [0, 175], .int .i64 0]) := ev_call (fr := [42]) (L := 200) (n := 12) mixed tabOK (by kernel_rfl)
def strB (l : List UInt8) : ByteArray := ⟨l.toArray⟩
def abcX : List UInt8 := [186, 120, 22, 191, 143, 1, 207, 234, 65, 65, 64, 222, 93, 174, 34, 35, 176, 3, 97, 163, 150, 23, 122, 156, 180, 16, 255, 97, 242, 0, 21, 173]
def abcT : List UInt8 := [98, 97, 55, 56, 49, 54, 98, 102, 56, 102, 48, 49, 99, 102, 101, 97, 52, 49, 52, 49, 52, 48, 100, 101, 53, 100, 97, 101, 50, 50, 50, 51, 98, 48, 48, 51, 54, 49, 97, 51, 57, 54, 49, 55, 55, 97, 57, 99, 98, 52, 49, 48, 102, 102, 54, 49, 102, 50, 48, 48, 49, 53, 97, 100]
def jefX : List UInt8 := [91, 220, 193, 70, 191, 96, 117, 78, 106, 4, 36, 38, 8, 149, 117, 199, 90, 0, 63, 8, 157, 39, 57, 131, 157, 236, 88, 185, 100, 236, 56, 67]
theorem hex40_p : PCall prog 40 [bsV abcX] (.tup [.str ⟨#[98, 97, 55, 56, 49, 54, 98, 102, 56, 102, 48, 49, 99, 102, 101, 97, 52, 49, 52, 49, 52, 48, 100, 101, 53, 100, 97, 101, 50, 50, 50, 51, 98, 48, 48, 51, 54, 49, 97, 51, 57, 54, 49, 55, 55, 97, 57, 99, 98, 52, 49, 48, 102, 102, 54, 49, 102, 50, 48, 48, 49, 53, 97, 100]⟩, .int .i64 0]) := ev_call (fr := [42]) (L := 200) (n := 12) mixed tabOK (by kernel_rfl)
theorem hex41_p : PCall prog 40 [bsV jefX] (.tup [.str ⟨#[53, 98, 100, 99, 99, 49, 52, 54, 98, 102, 54, 48, 55, 53, 52, 101, 54, 97, 48, 52, 50, 52, 50, 54, 48, 56, 57, 53, 55, 53, 99, 55, 53, 97, 48, 48, 51, 102, 48, 56, 57, 100, 50, 55, 51, 57, 56, 51, 57, 100, 101, 99, 53, 56, 98, 57, 54, 52, 101, 99, 51, 56, 52, 51]⟩, .int .i64 0]) := ev_call (fr := [42]) (L := 200) (n := 12) mixed tabOK (by kernel_rfl)
theorem shaabc : shaB [97, 98, 99] = abcX := by decide +kernel
theorem tagjef : tagB [74, 101, 102, 101] [119, 104, 97, 116, 32, 100, 111, 32, 121, 97, 32, 119, 97, 110, 116, 32, 102, 111, 114, 32, 110, 111, 116, 104, 105, 110, 103, 63] = jefX := by decide +kernel
theorem hexfn_p {X : List UInt8} {S : ByteArray} (hX : X.length = 32) (c : PCall prog 40 [bsV X] (.tup [.str S, .int .i64 0])) : PCall prog 43 [.agg (X.map u8c), .int .i64 0] (.str S) := by
  have ht : List.take 32 (X.map u8c) = X.map u8c := List.take_of_length_le (by simp; omega)
  have hf : List.map (fun c => [c]) (X.map u8c) = X.map b1 := (flat1 _).symm
  obtain ⟨c, hb, hl⟩ := l43
  refine pcall_of mixed e43 hb rfl hl r43 (by rw [n43]; simp) ?_
  clear hb hl c
  (try simp only [push_cast, Nat.reduceSub, Int.reduceAdd, Nat.zero_lt_succ, Nat.reduceAdd, Nat.reduceBEq, Int.reduceLE, Int.reduceToNat, hX])
  repeat' ((((first | (apply sc_pz; (case h => exact c); (case hx => ((try simp only [all2_cons, all2_nil, frzArg, push_cast]); repeat' (((refine cv_slY rfl rfl rfl ?_ ?_ ?_; (((simp only [push_cast, hX] <;> fail "n"))); (((simp only [push_cast, hf] <;> fail "n"))); (((simp only [push_cast] <;> fail "n")))))))); (case hv => ((simp only [push_cast] <;> fail "n")))) | (refine ret_frz rfl ?_ ?_ ?_ ?_; rotate_left 1; (((simp only [push_cast] <;> fail "n"))); (((simp only [push_cast] <;> fail "n"))); (((simp only [push_cast] <;> fail "n"))))) <;> (try simp only [push_cast, Nat.zero_lt_succ, Nat.reduceAdd, Nat.reduceBEq, reduceCtorEq, *]))))
theorem sum18_p {X b : List UInt8} {S a : ByteArray} (ha : (a.data.toList.map fun x => [AV.int .u8 (x.toNat : Int)]) = b.map b1) (has : a.size = b.length) (hb : b.length ≤ 8192) (hs : shaB b = X) (c : PCall prog 40 [bsV X] (.tup [.str S, .int .i64 0])) : PCall prog 18 [.str a] (.str S) := by
  have hX : X.length = 32 := by rw [← hs]; exact shaB_length b
  have c1 := sum_p b (by omega)
  have hd : decide ((b.length : Int) > 8192) = false := by simp; omega
  simp only [sumS, hd, cond_false, hs] at c1
  have c2 := hexfn_p hX c
  have ht : List.take 32 (X.map u8c) = X.map u8c := List.take_of_length_le (by simp; omega)
  have hdr : List.drop 32 (rep 32 (.int .u8 0)) = [] := List.drop_of_length_le (by rw [rep_len]; omega)
  clear c hs hd hb
  obtain ⟨c, hb, hl⟩ := l18
  refine pcall_of mixed e18 hb rfl hl r18 (by rw [n18]; simp) ?_
  clear hb hl c
  (try simp only [push_cast, Nat.reduceAdd, Nat.reduceBEq, ha, has])
  repeat' ((((first | (apply sc_p; (case h => (exact c2)); (case hc => ((simp only [push_cast] <;> fail "n")))) | (apply sc_pz; (case h => exact c1); (case hx => ((try simp only [all2_cons, all2_nil, frzArg, push_cast]); repeat' (((refine cv_slF rfl rfl ⟨rfl, rfl⟩ ?_ ?_ ?_; (simp <;> fail "n"); (rfl); (((simp <;> fail "n")))))))); (case hv => ((simp only [push_cast] <;> fail "n")))) | (refine ret_frz rfl ?_ ?_ ?_ ?_; rotate_left 1; (((simp only [push_cast] <;> fail "n"))); (((simp only [push_cast] <;> fail "n"))); (((simp only [push_cast] <;> fail "n"))))) <;> (try simp only [push_cast, Nat.zero_lt_succ, Nat.reduceAdd, Nat.reduceBEq, *]))))
end Go.Proofs.YtggmkfagcjdifaaDoor
