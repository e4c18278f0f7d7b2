/-
  ORDERSMATH: the order of numbers is that of their bytes; no program.
-/
import Derived.Test.YtpoppfmlphkakaaDoorMath
import Derived.Sort.Walk0
namespace Go.Proofs.YtpoppfmlphkakaaDoor
set_option linter.unusedVariables false
set_option linter.unusedSimpArgs false
set_option maxRecDepth 100000
open Go.RowKit

theorem split_lt {M p q r t : Nat} (hr : r < M) (ht : t < M) : (p < q ∨ p = q ∧ r < t) ↔ r + M * p < t + M * q := by
  rcases Nat.lt_trichotomy p q with h | h | h
  · have : M * p + M ≤ M * q := by
      have := Nat.mul_le_mul_left M (show p + 1 ≤ q from h)
      rwa [Nat.mul_add, Nat.mul_one] at this
    constructor
    · intro _; omega
    · intro _; exact .inl h
  · subst h
    constructor
    · rintro (h | ⟨_, h⟩)
      · omega
      · omega
    · intro h; exact .inr ⟨rfl, by omega⟩
  · have : M * q + M ≤ M * p := by
      have := Nat.mul_le_mul_left M (show q + 1 ≤ p from h)
      rwa [Nat.mul_add, Nat.mul_one] at this
    constructor
    · rintro (h' | ⟨h', _⟩) <;> omega
    · intro _; omega
theorem split_eq {M p q r t : Nat} (hr : r < M) (ht : t < M) : (p = q ∧ r = t) ↔ r + M * p = t + M * q := by
  constructor
  · rintro ⟨rfl, rfl⟩; rfl
  · intro h
    have h1 := (split_lt (p := p) (q := q) hr ht).1
    have h2 := (split_lt (p := q) (q := p) ht hr).1
    have hpq : p = q := by
      rcases Nat.lt_trichotomy p q with g | g | g
      · have := h1 (.inl g); omega
      · exact g
      · have := h2 (.inl g); omega
    subst hpq
    exact ⟨rfl, by omega⟩
theorem less_be (m n : Nat) : ∀ k, Op.bytesLess (be m k) (be n k) = decide (m % 256 ^ k < n % 256 ^ k)
  | 0 => by simp [be, Op.bytesLess, Nat.mod_one]
  | k + 1 => by
    have hM : 0 < 256 ^ k := Nat.pow_pos (by omega)
    have h1 : m % 256 ^ (k + 1) = m % 256 ^ k + 256 ^ k * (m / 256 ^ k % 256) := by rw [Nat.pow_succ, Nat.mod_mul]
    have h2 : n % 256 ^ (k + 1) = n % 256 ^ k + 256 ^ k * (n / 256 ^ k % 256) := by rw [Nat.pow_succ, Nat.mod_mul]
    rw [be_cons, be_cons, Op.bytesLess, less_be m n k, h1, h2, Bool.eq_iff_iff]
    have hs := split_lt (p := m / 256 ^ k % 256) (q := n / 256 ^ k % 256) (Nat.mod_lt m hM) (Nat.mod_lt n hM)
    rw [decide_eq_true_eq, ← hs]
    simp only [Bool.or_eq_true, Bool.and_eq_true, decide_eq_true_eq, beq_iff_eq, UInt8.lt_iff_toNat_lt, ofNat_toNat, ← UInt8.toNat_inj]
theorem eq_be (m n : Nat) : ∀ k, (be m k = be n k) ↔ m % 256 ^ k = n % 256 ^ k
  | 0 => by simp [be, Nat.mod_one]
  | k + 1 => by
    have hM : 0 < 256 ^ k := Nat.pow_pos (by omega)
    have h1 : m % 256 ^ (k + 1) = m % 256 ^ k + 256 ^ k * (m / 256 ^ k % 256) := by rw [Nat.pow_succ, Nat.mod_mul]
    have h2 : n % 256 ^ (k + 1) = n % 256 ^ k + 256 ^ k * (n / 256 ^ k % 256) := by rw [Nat.pow_succ, Nat.mod_mul]
    have hs := split_eq (p := m / 256 ^ k % 256) (q := n / 256 ^ k % 256) (Nat.mod_lt m hM) (Nat.mod_lt n hM)
    rw [be_cons, be_cons, List.cons.injEq, eq_be m n k, h1, h2, ← hs, ← UInt8.toNat_inj, ofNat_toNat, ofNat_toNat]
theorem mod_of_div {n k : Nat} (h : n / 256 ^ k = 0) : n % 256 ^ k = n := by
  have := Nat.div_add_mod n (256 ^ k)
  rw [h] at this
  simpa using this
end Go.Proofs.YtpoppfmlphkakaaDoor
