/- Facts of the program over abstract values. No condition. -/
import Derived.Test.YtggmkfagcjdifaaDoorFa
set_option maxRecDepth 100000
namespace Go.Proofs.YtggmkfagcjdifaaDoor
set_option linter.unusedSimpArgs false
set_option linter.unusedVariables false
set_option linter.unnecessarySimpa false
set_option linter.unusedSectionVars false
open Go.Proofs.Tryd
open Go.Proofs.YtggmkfagcjdifaaDoor.Ai
set_option maxHeartbeats 4000000
set_option linter.unusedVariables false
open Go.Proofs.YtggmkfagcjdifaaDoor.Sh hiding mixed
theorem tag19_p {X k b : List UInt8} {S ka a : ByteArray} (hka : (ka.data.toList.map fun x => [AV.int .u8 (x.toNat : Int)]) = k.map b1) (hks : ka.size = k.length) (ha : (a.data.toList.map fun x => [AV.int .u8 (x.toNat : Int)]) = b.map b1) (has : a.size = b.length) (hk0 : 1 ≤ k.length) (hk : k.length ≤ 64) (hb : b.length ≤ 8128) (hs : tagB k b = X) (c : PCall prog 40 [bsV X] (.tup [.str S, .int .i64 0])) : PCall prog 19 [.str ka, .str a] (.str S) := by
  have hX : X.length = 32 := by rw [← hs]; exact tagB_length k b
  have c1 := tag_p k b (by omega) (by omega)
  have hd : (decide ((k.length : Int) < 1) || decide ((k.length : Int) > 64)) = false := by simp; omega
  have hd2 : decide ((b.length : Int) > 8128) = false := by simp; omega
  simp only [tagS, hd, hd2, cond_false, hs] at c1
  have c2 := hexfn_p hX c
  have ht : List.take 32 (X.map u8c) = X.map u8c := List.take_of_length_le (by simp; omega)
  have hdr : List.drop 32 (rep 32 (.int .u8 0)) = [] := List.drop_of_length_le (by rw [rep_len]; omega)
  clear c hs hd hd2 hb hk hk0
  obtain ⟨c, hb, hl⟩ := l19
  refine pcall_of mixed e19 hb rfl hl r19 (by rw [n19]; simp) ?_
  clear hb hl c
  (try simp only [push_cast, Nat.reduceAdd, Nat.reduceBEq, hka, hks, ha, has])
  repeat' ((((first | (apply sc_p; (case h => (exact c2)); (case hc => ((simp only [push_cast] <;> fail "n")))) | (apply sc_pz; (case h => exact c1); (case hx => ((try simp only [all2_cons, all2_nil, frzArg, push_cast]); repeat' (first | (refine cv_slF rfl rfl ⟨rfl, rfl⟩ ?_ ?_ ?_; (simp <;> fail "n"); (rfl); (((simp <;> fail "n")))) | refine And.intro ?_ ?_))); (case hv => ((simp only [push_cast] <;> fail "n")))) | (refine ret_frz rfl ?_ ?_ ?_ ?_; rotate_left 1; (((simp only [push_cast] <;> fail "n"))); (((simp only [push_cast] <;> fail "n"))); (((simp only [push_cast] <;> fail "n"))))) <;> (try simp only [push_cast, Nat.zero_lt_succ, Nat.reduceAdd, Nat.reduceBEq, *]))))
theorem alive_p : PCall prog 15 [] (.bool true) := by
  have c1 : PCall prog 14 [.ros 1 [[.int .u8 7]], .int .u64 258, .int .i64 2] (.tup [.ros 1 [[.int .u8 7], [.int .u8 1], [.int .u8 2]], .int .i64 0]) := a1_p
  have c2 : PCall prog 16 [.ros 1 [[.int .u8 7], [.int .u8 1], [.int .u8 2]], .int .i64 1, .int .i64 2] (.tup [.int .u64 258, .int .i64 3, .int .i64 0]) := a2_p
  have c3 : PCall prog 17 [.ros 1 [[.int .u8 7], [.int .u8 1], [.int .u8 2]], .int .i64 1, .int .i64 2] (.tup [.ros 1 [[.int .u8 1], [.int .u8 2]], .int .i64 3, .int .i64 0]) := a3_p
  have c4 : PCall prog 25 [.str ⟨#[48, 48, 97, 102]⟩] (.tup [.ros 1 [[.int .u8 0], [.int .u8 175]], .int .i64 0]) := a4_p
  have c5 : PCall prog 18 [.str ⟨#[97, 98, 99]⟩] (.str ⟨#[98, 97, 55, 56, 49, 54, 98, 102, 56, 102, 48, 49, 99, 102, 101, 97, 52, 49, 52, 49, 52, 48, 100, 101, 53, 100, 97, 101, 50, 50, 50, 51, 98, 48, 48, 51, 54, 49, 97, 51, 57, 54, 49, 55, 55, 97, 57, 99, 98, 52, 49, 48, 102, 102, 54, 49, 102, 50, 48, 48, 49, 53, 97, 100]⟩) := sum18_p (b := [97, 98, 99]) rfl rfl (by decide) shaabc hex40_p
  have c6 : PCall prog 19 [.str ⟨#[74, 101, 102, 101]⟩, .str ⟨#[119, 104, 97, 116, 32, 100, 111, 32, 121, 97, 32, 119, 97, 110, 116, 32, 102, 111, 114, 32, 110, 111, 116, 104, 105, 110, 103, 63]⟩] (.str ⟨#[53, 98, 100, 99, 99, 49, 52, 54, 98, 102, 54, 48, 55, 53, 52, 101, 54, 97, 48, 52, 50, 52, 50, 54, 48, 56, 57, 53, 55, 53, 99, 55, 53, 97, 48, 48, 51, 102, 48, 56, 57, 100, 50, 55, 51, 57, 56, 51, 57, 100, 101, 99, 53, 56, 98, 57, 54, 52, 101, 99, 51, 56, 52, 51]⟩) := tag19_p (k := [74, 101, 102, 101]) (b := [119, 104, 97, 116, 32, 100, 111, 32, 121, 97, 32, 119, 97, 110, 116, 32, 102, 111, 114, 32, 110, 111, 116, 104, 105, 110, 103, 63]) rfl rfl rfl rfl (by decide) (by decide) (by decide) tagjef hex41_p
  have e1 : (ByteArray.toList ⟨#[Ai.byteOf (.int .u8 7), Ai.byteOf (.int .u8 1), Ai.byteOf (.int .u8 2)]⟩ == ByteArray.toList ⟨#[7, 1, 2]⟩) = true := by decide +kernel
  have e2 : (ByteArray.toList ⟨#[Ai.byteOf (.int .u8 1), Ai.byteOf (.int .u8 2)]⟩ == ByteArray.toList ⟨#[1, 2]⟩) = true := by decide +kernel
  have e3 : (ByteArray.toList ⟨#[Ai.byteOf (.int .u8 0), Ai.byteOf (.int .u8 175)]⟩ == ByteArray.toList ⟨#[0, 175]⟩) = true := by decide +kernel
  have f1 : (ByteArray.toList ⟨#[UInt8.ofNat (Int.toNat 7), UInt8.ofNat (Int.toNat 1), UInt8.ofNat (Int.toNat 2)]⟩ == ByteArray.toList ⟨#[7, 1, 2]⟩) = true := by decide +kernel
  have f2 : (ByteArray.toList ⟨#[UInt8.ofNat (Int.toNat 1), UInt8.ofNat (Int.toNat 2)]⟩ == ByteArray.toList ⟨#[1, 2]⟩) = true := by decide +kernel
  have f3 : (ByteArray.toList ⟨#[UInt8.ofNat (Int.toNat 0), UInt8.ofNat (Int.toNat 175)]⟩ == ByteArray.toList ⟨#[0, 175]⟩) = true := by decide +kernel
  have e4 : ∀ S : ByteArray, (S.toList == S.toList) = true := fun S => by simp
  obtain ⟨c, hb, hl⟩ := l15
  refine pcall_of mixed e15 hb rfl hl r15 (by rw [n15]; simp) ?_
  clear hb hl c
  (try simp only [push_cast, Nat.zero_lt_succ, Nat.reduceAdd, Nat.reduceBEq, Nat.reducePow, Nat.reduceLeDiff])
  repeat' (first | ((first | refine brX_split ?_ ?_ | refine gX_split ?_ ?_) <;> (intro xc; (try simp only [Bool.not_eq_true', Bool.not_eq_false'] at xc); have xp := xc; have xq := xp; (clear xq)) <;> (try simp only [push_cast, Nat.reduceAdd, Nat.reduceBEq, reduceCtorEq, Int.reduceToNat, *])) | ((first | (apply sc_p; (case h => first | exact c1 | exact c2 | exact c3 | exact c4 | exact c5); (case hc => ((simp only [push_cast] <;> fail "n")))) | (apply ap_cl; (case h => (exact c6)); (case hc => ((simp only [push_cast] <;> fail "n")))) | (refine ret_frz rfl ?_ ?_ ?_ ?_; rotate_left 1; (((simp only [push_cast] <;> fail "n"))); (((simp only [push_cast] <;> fail "n"))); (((simp only [push_cast] <;> fail "n"))))) <;> (try simp only [push_cast, Nat.zero_lt_succ, Nat.reduceAdd, Nat.reduceBEq, Nat.reducePow, Nat.reduceLT, Nat.reduceLeDiff, reduceCtorEq, Int.reduceToNat, *])))
  all_goals (((simp_all []; done)))
end Go.Proofs.YtggmkfagcjdifaaDoor
