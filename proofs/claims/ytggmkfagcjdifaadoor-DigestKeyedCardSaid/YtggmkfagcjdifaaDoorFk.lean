/- Facts of the program over abstract values. No condition. -/
import Derived.Test.YtggmkfagcjdifaaDoorFb
import Derived.Test.YtggmkfagcjdifaaDoorShC
import Derived.Test.YtggmkfagcjdifaaDoorEm
import Derived.Test.YtggmkfagcjdifaaDoorDm
set_option linter.unusedSimpArgs false
set_option maxRecDepth 8000
namespace Go.Proofs.YtggmkfagcjdifaaDoor
set_option linter.unusedSimpArgs false
set_option linter.unusedVariables false
set_option linter.unnecessarySimpa false
set_option linter.unusedSectionVars false
open Go.Proofs.Tryd
open Go.Proofs.YtggmkfagcjdifaaDoor.Ai
set_option maxHeartbeats 4000000
set_option linter.unusedVariables false
open Go.Proofs.YtggmkfagcjdifaaDoor.Sh hiding mixed

def kz (key : List UInt8) (j : Nat) : List UInt8 := key ++ List.replicate j 0
theorem kz_snoc (key : List UInt8) (j : Nat) : (kz key (j + 1)).map b1 = (kz key j).map b1 ++ [[.int .u8 0]] := by
  simp [kz, List.replicate_succ', ← List.append_assoc]
theorem kz_len (key : List UInt8) (j : Nat) : (kz key j).length = key.length + j := by simp [kz]
theorem kz_full (key : List UInt8) : kz key (64 - key.length) = key64 key := rfl
def kxT (X : List UInt8) (v : UInt8) (k : Nat) : List UInt8 := (X.take k).map (· ^^^ v)
theorem kxT_step {X : List UInt8} {v : UInt8} {k : Nat} {c : UInt8} (h : X[k]? = some c) : (kxT X v (k + 1)).map b1 = (kxT X v k).map b1 ++ [b1 (c ^^^ v)] := by
  unfold kxT; rw [List.take_add_one, h]; simp
theorem kxT_len {X : List UInt8} {v : UInt8} {k : Nat} (h : k ≤ X.length) : (kxT X v k).length = k := by simp [kxT]; omega
theorem key64_take {key : List UInt8} {n : Nat} (h : key.length ≤ n) (hn : n ≤ 64) : key64 ((key64 key).take n) = key64 key := by
  unfold key64
  rw [List.take_append, List.take_of_length_le h, List.take_replicate, List.append_assoc, List.replicate_append_replicate]
  congr 2
  simp; omega
theorem xor_ne {T : List UInt8} {q : Nat} {y p : UInt8} (hy : T[q]? = some y) (hp : p ≠ 0) : T ≠ T.set q (y ^^^ p) := by
  intro h
  have hq := (List.getElem?_eq_some_iff.1 hy).1
  have h2 : (T.set q (y ^^^ p))[q]? = some (y ^^^ p) := by rw [List.getElem?_set_self hq]
  rw [← h, hy] at h2
  have h3 : y = y ^^^ p := Option.some.inj h2
  apply hp
  have h4 : y ^^^ y = y ^^^ (y ^^^ p) := by rw [← h3]
  simpa [← UInt8.xor_assoc] using h4.symm
theorem pow_ne (m : Nat) (h : m < 8) : (UInt8.ofNat (2 ^ m)) ≠ 0 ∧ IntKind.u8.wrap (1 * 2 ^ min m IntKind.u8.bits) = ((UInt8.ofNat (2 ^ m)).toNat : Int) := by
  match m, h with
  | 0, _ => decide
  | 1, _ => decide
  | 2, _ => decide
  | 3, _ => decide
  | 4, _ => decide
  | 5, _ => decide
  | 6, _ => decide
  | 7, _ => decide
end Go.Proofs.YtggmkfagcjdifaaDoor
