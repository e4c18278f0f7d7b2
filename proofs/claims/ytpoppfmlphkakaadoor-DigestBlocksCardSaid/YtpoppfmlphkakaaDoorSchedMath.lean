/-
  SCHEDMATH: the words of a block, on plain numbers.
-/
import Derived.Test.YtpoppfmlphkakaaDoorShaMath
namespace Go.Proofs.YtpoppfmlphkakaaDoor
set_option linter.unusedVariables false
set_option linter.unusedSimpArgs false
set_option maxRecDepth 100000
open Go.RowKit

/-- The two mixings of schedule. -/
def sig0 (x : Nat) : Nat := rotr x 7 ^^^ rotr x 18 ^^^ x / 8
def sig1 (x : Nat) : Nat := rotr x 17 ^^^ rotr x 19 ^^^ x / 1024
theorem sig0_lt {x : Nat} (h : x < 4294967296) : sig0 x < 4294967296 := xor_lt (xor_lt (rotr_lt h (by omega)) (rotr_lt h (by omega))) (by omega)
theorem sig1_lt {x : Nat} (h : x < 4294967296) : sig1 x < 4294967296 := xor_lt (xor_lt (rotr_lt h (by omega)) (rotr_lt h (by omega))) (by omega)

/-- The word number i, of the bytes l, behind the words that lie already. -/
def nextWord (l : List UInt8) (ws : List Nat) (i : Nat) : Nat :=
  if i < 16 then val ((l.drop (4 * i)).take 4)
  else (ws.getD (i - 16) 0 + sig0 (ws.getD (i - 15) 0) + ws.getD (i - 7) 0 + sig1 (ws.getD (i - 2) 0)) % 4294967296
/-- The first words of a block. -/
def words (l : List UInt8) : Nat → List Nat
  | 0 => []
  | i + 1 => words l i ++ [nextWord l (words l i) i]
theorem words_length (l : List UInt8) (i : Nat) : (words l i).length = i := by
  induction i with
  | zero => rfl
  | succ i ih => simp [words, ih]
theorem nextWord_lt (l : List UInt8) (ws : List Nat) (i : Nat) : nextWord l ws i < 4294967296 := by
  unfold nextWord
  split
  · have h := val_lt ((l.drop (4 * i)).take 4)
    have h2 : ((l.drop (4 * i)).take 4).length ≤ 4 := by simp; omega
    have h3 : 256 ^ ((l.drop (4 * i)).take 4).length ≤ 256 ^ 4 := Nat.pow_le_pow_right (by omega) h2
    have h4 : (256 : Nat) ^ 4 = 4294967296 := by decide
    omega
  · exact Nat.mod_lt _ (by omega)
theorem words_lt (l : List UInt8) (i : Nat) : ∀ x ∈ words l i, x < 4294967296 := by
  induction i with
  | zero => intro x hx; simp [words] at hx
  | succ i ih =>
    intro x hx
    simp only [words, List.mem_append, List.mem_singleton] at hx
    rcases hx with hx | rfl
    · exact ih x hx
    · exact nextWord_lt _ _ _

/-- The 64 words behind k bytes: those that are not begun are 0. -/
def partWords (l : List UInt8) (k : Nat) : List Nat := (List.range 64).map fun j => val (((l.take k).drop (4 * j)).take 4)
theorem partWords_length (l : List UInt8) (k : Nat) : (partWords l k).length = 64 := by simp [partWords]
theorem partWords_at (l : List UInt8) (k j : Nat) (hj : j < 64) : (partWords l k)[j]? = some (val (((l.take k).drop (4 * j)).take 4)) := by
  simp [partWords, hj]
theorem partWords_zero (l : List UInt8) : partWords l 0 = List.replicate 64 0 := by
  apply List.ext_getElem?
  intro j
  by_cases hj : j < 64
  · rw [partWords_at l 0 j hj, List.getElem?_replicate, if_pos hj]; simp [val]
  · simp [partWords, hj]
theorem part_lt (l : List UInt8) {k j : Nat} (h : k ≤ 4 * j + 3) : val (((l.take k).drop (4 * j)).take 4) < 16777216 := by
  have h1 := val_lt (((l.take k).drop (4 * j)).take 4)
  have h2 : (((l.take k).drop (4 * j)).take 4).length ≤ 3 := by simp; omega
  have h3 : 256 ^ (((l.take k).drop (4 * j)).take 4).length ≤ 256 ^ 3 := Nat.pow_le_pow_right (by omega) h2
  have h4 : (256 : Nat) ^ 3 = 16777216 := by decide
  omega
theorem partWords_step (l : List UInt8) {k : Nat} {x : UInt8} (hx : l[k]? = some x) (hk : k < 64) :
    partWords l (k + 1) = (partWords l k).set (k / 4) (256 * val (((l.take k).drop (4 * (k / 4))).take 4) + x.toNat) := by
  have hkl : k < l.length := (List.getElem?_eq_some_iff.1 hx).1
  apply List.ext_getElem?
  intro j
  by_cases hj : j < 64
  · rw [partWords_at l (k + 1) j hj, List.getElem?_set]
    by_cases e : k / 4 = j
    · subst e
      have hA : ((l.take k).drop (4 * (k / 4))).length ≤ 3 := by simp; omega
      rw [if_pos rfl, if_pos (by rw [partWords_length]; omega), take_snoc hx, List.drop_append_of_le_length (by simp; omega)]
      generalize (l.take k).drop (4 * (k / 4)) = A at hA
      rw [List.take_of_length_le (i := 4) (l := A ++ [x]) (by simp; omega), List.take_of_length_le (i := 4) (l := A) (by omega), val_snoc]
    · rw [if_neg e, partWords_at l k j hj, take_snoc hx]
      by_cases h1 : k < 4 * j
      · rw [List.drop_of_length_le (by simp; omega), List.drop_of_length_le (by simp; omega)]
      · rw [List.drop_append_of_le_length (by simp; omega), List.take_append_of_le_length (by simp; omega)]
  · simp [partWords, hj]
theorem partWords_full (l : List UInt8) (h : l.length = 64) : partWords l 64 = words l 16 ++ List.replicate 48 0 := by
  have hw : ∀ i, i ≤ 16 → words l i = (List.range i).map fun j => val ((l.drop (4 * j)).take 4) := by
    intro i
    induction i with
    | zero => intro _; rfl
    | succ i ih =>
      intro hi
      rw [words, ih (by omega), List.range_succ, List.map_append]
      simp only [nextWord, if_pos (show i < 16 by omega), List.map_cons, List.map_nil]
  apply List.ext_getElem?
  intro j
  rw [hw 16 (by omega)]
  by_cases hj : j < 64
  · rw [partWords_at l 64 j hj, List.take_of_length_le (i := 64) (l := l) (by omega), List.getElem?_append]
    by_cases h16 : j < 16
    · rw [if_pos (by simp; omega)]; simp [h16]
    · rw [if_neg (by simp; omega), List.getElem?_replicate, if_pos (by simp; omega), List.drop_of_length_le (by omega)]
      simp [val]
  · rw [List.getElem?_eq_none (by rw [partWords_length]; omega), List.getElem?_eq_none (by simp; omega)]
/-- The words that lie, and zeros. -/
def padded (l : List UInt8) (i : Nat) : List Nat := words l i ++ List.replicate (64 - i) 0
theorem padded_length (l : List UInt8) {i : Nat} (h : i ≤ 64) : (padded l i).length = 64 := by simp [padded, words_length]; omega
theorem padded_at (l : List UInt8) {i j : Nat} (h : j < i) : (padded l i)[j]? = some ((words l i).getD j 0) := by
  unfold padded
  rw [List.getElem?_append_left (by rw [words_length]; exact h), List.getD_eq_getElem?_getD, List.getElem?_eq_getElem (by rw [words_length]; exact h)]
  rfl
theorem padded_step (l : List UInt8) {i : Nat} (h : i < 64) : padded l (i + 1) = (padded l i).set i (nextWord l (words l i) i) := by
  unfold padded
  rw [words, List.set_append_right _ _ (by rw [words_length]; omega), words_length, Nat.sub_self, show 64 - i = (64 - (i + 1)) + 1 from by omega, List.replicate_succ, List.set_cons_zero, List.append_assoc]
  rfl
/-- All words of a block. -/
@[irreducible] def sched (l : List UInt8) : List Nat := words l 64
theorem sched_length (l : List UInt8) : (sched l).length = 64 := by unfold sched; exact words_length l 64
theorem sched_lt (l : List UInt8) : ∀ x ∈ sched l, x < 4294967296 := by unfold sched; exact words_lt l 64
theorem padded_full (l : List UInt8) : padded l 64 = sched l := by unfold sched; simp [padded]
theorem words_at_lt (l : List UInt8) (i j : Nat) : (words l i).getD j 0 < 4294967296 := by
  rw [List.getD_eq_getElem?_getD]
  by_cases h : j < (words l i).length
  · rw [List.getElem?_eq_getElem h]
    exact words_lt l i _ (List.getElem_mem h)
  · rw [List.getElem?_eq_none (by omega)]; simp
theorem or_byte32 (a : Nat) (x : UInt8) (ha : a < 16777216) : bits .or .u32 ((a : Int) * 256) (x.toNat : Int) = ((256 * a + x.toNat : Nat) : Int) := by
  have hx := x.toNat_lt
  have h := u32_or_nat (a * 256) x.toNat (by omega) (by omega)
  rw [nat_join 8 (a * 256) x.toNat (by omega) (by omega)] at h
  rw [show ((a : Int) * 256) = ((a * 256 : Nat) : Int) from by simp, h, Nat.mul_comm]
theorem nextWord_late (l : List UInt8) (ws : List Nat) {i : Nat} (h : 16 ≤ i) :
    nextWord l ws i = (ws.getD (i - 16) 0 + sig0 (ws.getD (i - 15) 0) + ws.getD (i - 7) 0 + sig1 (ws.getD (i - 2) 0)) % 4294967296 := by
  unfold nextWord
  rw [if_neg (by omega)]
theorem sum4 (a b c d : Nat) : ((a : Int) + (b : Int) + (c : Int) + (d : Int)) % 4294967296 = (((a + b + c + d) % 4294967296 : Nat) : Int) := by
  omega
end Go.Proofs.YtpoppfmlphkakaaDoor
