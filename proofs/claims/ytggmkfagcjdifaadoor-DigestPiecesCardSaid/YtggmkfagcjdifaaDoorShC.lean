/-
  SHA-256 in pieces: how the bytes are cut does not matter. Plain facts, no condition.
-/
import Derived.Test.YtggmkfagcjdifaaDoorShB
set_option linter.unusedVariables false
set_option linter.unusedSimpArgs false
namespace Go.Proofs.YtggmkfagcjdifaaDoor.Sh
set_option linter.unusedSimpArgs false
set_option linter.unusedVariables false
set_option linter.unnecessarySimpa false
set_option linter.unusedSectionVars false
open Go

theorem absorbed_add (s : St) (l m : List UInt8) (k j : Nat) (h : 64 * k ≤ l.length) : absorbed (absorbed s l k) (l.drop (64 * k) ++ m) j = absorbed s (l ++ m) (k + j) := by
  induction j with
  | zero =>
    show absorbed s l k = absorbed s (l ++ m) k
    induction k with
    | zero => rfl
    | succ k ih =>
      simp only [absorbed]
      rw [ih (by omega), List.drop_append_of_le_length (by omega), List.take_append_of_le_length (by simp; omega)]
  | succ j ih =>
    rw [show k + (j + 1) = (k + j) + 1 from rfl]
    simp only [absorbed]
    rw [ih]
    congr 2
    rw [show l.drop (64 * k) ++ m = (l ++ m).drop (64 * k) from (List.drop_append_of_le_length h).symm, List.drop_drop]
    congr 1; omega
theorem HS.write_write (h : HS) (a b : List UInt8) : (h.write a).write b = h.write (a ++ b) := by
  obtain ⟨s, t, n⟩ := h
  simp only [HS.write]
  obtain ⟨k, hk⟩ : ∃ k, k = (t ++ a).length / 64 := ⟨_, rfl⟩
  have hle : 64 * k ≤ (t ++ a).length := by omega
  rw [← hk]
  have hlen : (t ++ (a ++ b)).length / 64 = k + ((t ++ a).drop (64 * k) ++ b).length / 64 := by
    simp only [List.length_append, List.length_drop] at hk ⊢; omega
  have hst := absorbed_add s (t ++ a) b k (((t ++ a).drop (64 * k) ++ b).length / 64) hle
  rw [hst, ← List.append_assoc]
  have e : (t ++ a ++ b).length / 64 = k + ((t ++ a).drop (64 * k) ++ b).length / 64 := by rw [← hlen, List.append_assoc]
  rw [e]
  congr 1
  · rw [show (t ++ a).drop (64 * k) ++ b = (t ++ a ++ b).drop (64 * k) from (List.drop_append_of_le_length hle).symm, List.drop_drop]
    congr 1; omega
  · simp; omega
/-- The digest as the specification has it: all bytes and their padding at once. -/
def shaW (b : List UInt8) : List UInt8 := sumBytes (absorbed iv (b ++ padBytes b.length) ((b ++ padBytes b.length).length / 64))
theorem HS.finish_write (h : HS) (b : List UInt8) : (h.write b).finish = sumBytes (absorbed h.s ((h.t ++ b) ++ padBytes (h.n + b.length)) (((h.t ++ b) ++ padBytes (h.n + b.length)).length / 64)) := by
  obtain ⟨s, t, n⟩ := h
  simp only [HS.write, HS.finish]
  obtain ⟨k, hk⟩ : ∃ k, k = (t ++ b).length / 64 := ⟨_, rfl⟩
  have hle : 64 * k ≤ (t ++ b).length := by omega
  rw [← hk, absorbed_add s (t ++ b) _ k _ hle]
  congr 2
  simp only [List.length_append, List.length_drop] at hk ⊢; omega
theorem shaB_eq (b : List UInt8) : shaB b = shaW b := by
  unfold shaB shaW
  rw [HS.finish_write]
  simp [HS.start]
theorem keyedB_eq (X b : List UInt8) : keyedB X b = shaW (X ++ b) := by
  unfold keyedB
  rw [HS.write_write, ← shaB_eq]; rfl
theorem tagB_eq (key l : List UInt8) : tagB key l = shaW ((key64 key).map (· ^^^ 92) ++ shaW ((key64 key).map (· ^^^ 54) ++ l)) := by
  unfold tagB; rw [keyedB_eq, keyedB_eq]
theorem shaW_length (b : List UInt8) : (shaW b).length = 32 := sumBytes_length _
end Go.Proofs.YtggmkfagcjdifaaDoor.Sh
