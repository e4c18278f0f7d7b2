/-
  MATH: plain functions on numbers and bytes; no program.
-/
import Derived.Test.YtpoppfmlphkakaaDoorWords
import Derived.Laws.BitsAllLaws
namespace Go.Proofs.YtpoppfmlphkakaaDoor
set_option linter.unusedVariables false
set_option linter.unusedSimpArgs false
set_option maxRecDepth 100000
open Go.RowKit

/-- 'n' in 's' bytes, highest first (cut to what fits). -/
def be (n : Nat) : Nat → List UInt8
  | 0 => []
  | s + 1 => be (n / 256) s ++ [UInt8.ofNat n]
theorem be_length (n s : Nat) : (be n s).length = s := by
  induction s generalizing n with
  | zero => rfl
  | succ s ih => simp [be, ih]
theorem be_succ (n s : Nat) : be n (s + 1) = be (n / 256) s ++ [UInt8.ofNat n] := rfl
theorem ofNat_toNat (n : Nat) : (UInt8.ofNat n).toNat = n % 256 := by simp
theorem pow_step (n k : Nat) : n / 256 ^ (k + 1) = n / 256 ^ k / 256 := by
  rw [Nat.pow_succ, Nat.div_div_eq_div_mul]
/-- one more byte behind those that lie already. -/
theorem be_more (n s k : Nat) (h : k < s) : be (n / 256 ^ (s - k)) k ++ [UInt8.ofNat (n / 256 ^ (s - (k + 1)))] = be (n / 256 ^ (s - (k + 1))) (k + 1) := by
  rw [be_succ, ← pow_step, show s - (k + 1) + 1 = s - k from by omega]
theorem shr_pow (n k : Nat) : n >>> (8 * k) = n / 256 ^ k := by
  rw [Nat.shiftRight_eq_div_pow, Nat.pow_mul]
theorem u8v_ofNat (n : Nat) : Value.int .u8 ((n : Int) % 256) = u8v (UInt8.ofNat n) := by
  unfold u8v
  rw [ofNat_toNat]
  simp
theorem or_byte (a : Nat) (x : UInt8) (ha : a < 72057594037927936) : bits .or .u64 ((a : Int) * 256) (x.toNat : Int) = ((256 * a + x.toNat : Nat) : Int) := by
  have hx := x.toNat_lt
  have h := u64_or_nat (a * 256) x.toNat (by omega) (by omega)
  rw [nat_join 8 (a * 256) x.toNat (by omega) (by omega)] at h
  rw [show ((a : Int) * 256) = ((a * 256 : Nat) : Int) from by simp, h, Nat.mul_comm]
theorem shr_int (n k : Nat) : (n : Int) / 2 ^ (8 * k) = ((n / 256 ^ k : Nat) : Int) := by
  rw [Int.natCast_ediv, show (256 : Nat) = 2 ^ 8 from rfl, ← Nat.pow_mul]
  simp
theorem shr_ne {n k : Nat} (h : n / 256 ^ k ≠ 0) : ((n : Int) / 2 ^ (8 * k) != 0) = true := by
  rw [shr_int, bne_iff_ne]; omega
theorem shr_eq {n k : Nat} (h : n / 256 ^ k = 0) : ((n : Int) / 2 ^ (8 * k) != 0) = false := by
  rw [shr_int, h]; rfl
theorem u8v_shr (n k : Nat) : Value.int .u8 ((n : Int) / 2 ^ (8 * k) % 256) = u8v (UInt8.ofNat (n / 256 ^ k)) := by
  rw [← u8v_ofNat]
  congr 1
  have : (n : Int) / 2 ^ (8 * k) = ((n / 256 ^ k : Nat) : Int) := by
    rw [Int.natCast_ediv, show (256 : Nat) = 2 ^ 8 from rfl, ← Nat.pow_mul]
    simp
  rw [this]
theorem be_cons (n k : Nat) : be n (k + 1) = UInt8.ofNat (n / 256 ^ k) :: be n k := by
  induction k generalizing n with
  | zero => simp [be]
  | succ k ih =>
    rw [be_succ, ih (n / 256), be_succ n k]
    simp only [List.cons_append, List.cons.injEq, and_true]
    rw [Nat.div_div_eq_div_mul, Nat.pow_succ, Nat.mul_comm]

/-- The number in bytes, highest first. -/
def val (l : List UInt8) : Nat := l.foldl (fun n x => 256 * n + x.toNat) 0
theorem val_nil : val [] = 0 := rfl
theorem val_snoc (l : List UInt8) (x : UInt8) : val (l ++ [x]) = 256 * val l + x.toNat := by simp [val]
theorem take_snoc {l : List UInt8} {k : Nat} {x : UInt8} (h : l[k]? = some x) : l.take (k + 1) = l.take k ++ [x] := by
  rw [List.take_add_one, h]; rfl
theorem val_lt (l : List UInt8) : val l < 256 ^ l.length := by
  have h : ∀ k, k ≤ l.length → val (l.take k) < 256 ^ k := by
    intro k
    induction k with
    | zero => intro _; simp [val]
    | succ k ih =>
      intro hk
      rw [take_snoc (List.getElem?_eq_getElem (show k < l.length by omega)), val_snoc, Nat.pow_succ]
      have h1 := ih (by omega)
      have h2 := (l[k]'(by omega)).toNat_lt
      omega
  simpa using h l.length (Nat.le_refl _)
theorem val_lt8 {l : List UInt8} (h : l.length ≤ 8) : val l < 18446744073709551616 := by
  have h1 := val_lt l
  have h2 : 256 ^ l.length ≤ 256 ^ 8 := Nat.pow_le_pow_right (by omega) h
  have h3 : (256 : Nat) ^ 8 = 18446744073709551616 := by decide
  omega
theorem val_lt7 {l : List UInt8} (h : l.length ≤ 7) : val l < 72057594037927936 := by
  have h1 := val_lt l
  have h2 : 256 ^ l.length ≤ 256 ^ 7 := Nat.pow_le_pow_right (by omega) h
  have h3 : (256 : Nat) ^ 7 = 72057594037927936 := by decide
  omega

/-- What TakeBytes comes to: the bytes, the index after them, the error's number. -/
def takeBytesS (l : List UInt8) (at_ m : Int) : List UInt8 × Int × Int :=
  if at_ < 0 ∨ (l.length : Int) < at_ ∨ m < 0 then ([], 0, 2)
  else if (l.length : Int) - at_ < m then ([], 0, 10)
  else ((l.drop at_.toNat).take m.toNat, at_ + m, 0)
/-- What PutUint comes to. -/
def putUintS (l : List UInt8) (n : Nat) (s : Int) : List UInt8 × Int :=
  if s < 1 ∨ 8 < s ∨ n / 256 ^ s.toNat ≠ 0 then ([], 2)
  else if 8192 - s < (l.length : Int) then ([], 4)
  else (l ++ be n s.toNat, 0)
/-- What TakeUint comes to. -/
def takeUintS (l : List UInt8) (at_ s : Int) : Nat × Int × Int :=
  if s < 1 ∨ 8 < s then (0, 0, 2)
  else (val (takeBytesS l at_ s).1, (takeBytesS l at_ s).2.1, (takeBytesS l at_ s).2.2)
theorem takeBytesS_len (l : List UInt8) (at_ m : Int) (h : 0 ≤ m) : ((takeBytesS l at_ m).1.length : Int) ≤ m := by
  unfold takeBytesS
  split
  · simpa using h
  · split
    · simpa using h
    · simp; omega
theorem takeBytesS_le (l : List UInt8) (at_ m : Int) : (takeBytesS l at_ m).1.length ≤ l.length := by
  unfold takeBytesS
  split
  · simp
  · split
    · simp
    · simp; omega
theorem takeBytesS_err (l : List UInt8) (at_ m : Int) (h : (takeBytesS l at_ m).2.2 ≠ 0) : (takeBytesS l at_ m).1 = [] ∧ (takeBytesS l at_ m).2.1 = 0 := by
  unfold takeBytesS at h ⊢
  split
  · exact ⟨rfl, rfl⟩
  · split
    · exact ⟨rfl, rfl⟩
    · rename_i h1 h2
      rw [if_neg h1, if_neg h2] at h
      exact absurd rfl h
end Go.Proofs.YtpoppfmlphkakaaDoor
