/-
  BLMATH: the digest as the law DigestBlocks comes to it: the padded whole, absorbed at once; in plain Lean.
-/
import Derived.Test.YtpoppfmlphkakaaDoorSum
namespace Go.Proofs.YtpoppfmlphkakaaDoor
set_option linter.unusedVariables false
set_option linter.unusedSimpArgs false
set_option maxRecDepth 100000

theorem absorbed_add (s : St) (l : List UInt8) (i : Nat) : ∀ j, absorbed s l (i + j) = absorbed (absorbed s l i) (l.drop (64 * i)) j
  | 0 => rfl
  | j + 1 => by
    show compress (absorbed s l (i + j)) ((l.drop (64 * (i + j))).take 64) = compress (absorbed (absorbed s l i) (l.drop (64 * i)) j) (((l.drop (64 * i)).drop (64 * j)).take 64)
    rw [absorbed_add s l i j, List.drop_drop, Nat.mul_add]
theorem absorbed_left (s : St) (l p : List UInt8) : ∀ k, 64 * k ≤ l.length → absorbed s (l ++ p) k = absorbed s l k
  | 0, _ => rfl
  | k + 1, h => by
    show compress (absorbed s (l ++ p) k) (((l ++ p).drop (64 * k)).take 64) = compress (absorbed s l k) ((l.drop (64 * k)).take 64)
    rw [absorbed_left s l p k (by omega), List.drop_append_of_le_length (by omega), List.take_append_of_le_length (by rw [List.length_drop]; omega)]
/-- Absorbing in two steps is absorbing at once. -/
theorem absorbed_append (s : St) (l p : List UInt8) :
    absorbed (absorbed s l (l.length / 64)) (l.drop (64 * (l.length / 64)) ++ p) ((l.length % 64 + p.length) / 64) = absorbed s (l ++ p) ((l.length + p.length) / 64) := by
  have h : 64 * (l.length / 64) ≤ l.length := by omega
  have e : (l.length + p.length) / 64 = l.length / 64 + (l.length % 64 + p.length) / 64 := by omega
  rw [e, absorbed_add, absorbed_left s l p _ h, List.drop_append_of_le_length h]
theorem shaB_whole (l : List UInt8) : shaB l = sumBytes (absorbed iv (l ++ padBytes l.length) ((l.length + (padBytes l.length).length) / 64)) := by
  unfold shaB
  rw [absorbed_append]

/-- the row behind z zero bytes. -/
def padZ (l : List UInt8) (z : Nat) : List UInt8 := l ++ [128] ++ List.replicate z 0
theorem padZ_len (l : List UInt8) (z : Nat) : (padZ l z).length = l.length + 1 + z := by simp [padZ]; omega
theorem padZ_snoc (l : List UInt8) (z : Nat) : padZ l (z + 1) = padZ l z ++ [0] := by simp [padZ, List.replicate_succ']
theorem padZ_stop {n z : Nat} (h : z ≤ (119 - n % 64) % 64) : (n + 1 + z) % 64 = 56 ↔ z = (119 - n % 64) % 64 := by omega
/-- the row behind k bytes of the length. -/
def padL (l : List UInt8) (k : Nat) : List UInt8 := padZ l ((119 - l.length % 64) % 64) ++ (be (8 * l.length) 8).take k
theorem padL_len (l : List UInt8) {k : Nat} (h : k ≤ 8) : (padL l k).length = l.length + 1 + (119 - l.length % 64) % 64 + k := by
  simp [padL, padZ_len, be_length]; omega
theorem be_at (x : Nat) : ∀ (n k : Nat), k < n → (be x n)[k]? = some (UInt8.ofNat (x / 256 ^ (n - 1 - k)))
  | 0, k, h => by omega
  | n + 1, 0, _ => by rw [be_cons]; simp
  | n + 1, k + 1, h => by
    rw [be_cons, List.getElem?_cons_succ, be_at x n k (by omega)]
    congr 4
    omega
theorem padL_snoc (l : List UInt8) {k : Nat} (h : k < 8) : padL l (k + 1) = padL l k ++ [UInt8.ofNat (8 * l.length / 256 ^ (7 - k))] := by
  unfold padL
  rw [List.take_add_one, be_at _ 8 k h, List.append_assoc]
  rfl
theorem padL_last (l : List UInt8) : padL l 8 = l ++ padBytes l.length := by
  unfold padL padZ padBytes
  rw [List.take_of_length_le (by rw [be_length]; exact Nat.le_refl _)]
  simp
theorem padL_blocks (l : List UInt8) : (padL l 8).length % 64 = 0 := by rw [padL_len l (Nat.le_refl _)]; omega
/-- byte i of the sum. -/
theorem sum_at (s : St) {i x : Nat} (hi : i < 32) (h : s.list[i / 4]? = some x) : (sumBytes s)[i]? = some (UInt8.ofNat (x / 256 ^ (3 - i % 4))) := by
  have := flat4_at s.list (i / 4) (i % 4) x (Nat.mod_lt _ (by decide)) h
  rwa [Nat.div_add_mod] at this
end Go.Proofs.YtpoppfmlphkakaaDoor
