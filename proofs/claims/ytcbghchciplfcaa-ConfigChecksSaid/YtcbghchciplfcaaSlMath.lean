/-
  SLMATH: plain lemmas on the entries of a slice table from a tick on.
-/
import Derived.Test.YtcbghchciplfcaaSlices2
namespace Go.Proofs.Ytcbghchciplfcaa
set_option linter.unusedVariables false
set_option linter.unusedSimpArgs false

/-- The entry k ticks behind a tick. -/
def atS (l : List UInt8) (tick k : Nat) : UInt8 := l.getD ((tick + k) % l.length) 0
section
variable {l : List UInt8} {tick k : Nat} {t : Int}
theorem rot_at (hk : k < l.length) : (rotS l (tick % l.length))[k]? = some (atS l tick k) := by
  simp [rotS, hk, atS, Nat.mod_add_mod]
theorem rot_get (hk : k < (rotS l (tick % l.length)).length) : (rotS l (tick % l.length))[k] = atS l tick k := by
  have h := rot_at (l := l) (tick := tick) (k := k) (by rwa [rotS_length] at hk)
  rw [List.getElem?_eq_getElem hk] at h
  injection h
theorem left_le : leftN l tick t ≤ l.length := by
  have := List.findIdx_le_length (xs := rotS l (tick % l.length)) (p := fun x => ten x != t)
  rwa [rotS_length] at this
theorem wait_le : waitN l tick t ≤ l.length := by
  have := List.findIdx_le_length (xs := rotS l (tick % l.length)) (p := fun x => ten x == t)
  rwa [rotS_length] at this
theorem left_lt (h : k < leftN l tick t) : ten (atS l tick k) = t := by
  have hl : k < (rotS l (tick % l.length)).length := by rw [rotS_length]; exact Nat.lt_of_lt_of_le h left_le
  have := List.not_of_lt_findIdx h
  rw [rot_get hl] at this
  simpa using this
theorem left_at (h : leftN l tick t < l.length) : ten (atS l tick (leftN l tick t)) ≠ t := by
  have hl : (rotS l (tick % l.length)).findIdx (fun x => ten x != t) < (rotS l (tick % l.length)).length := by rw [rotS_length]; exact h
  have := List.findIdx_getElem (w := hl)
  rw [rot_get hl] at this
  simpa [leftN] using this
theorem wait_lt (h : k < waitN l tick t) : ten (atS l tick k) ≠ t := by
  have hl : k < (rotS l (tick % l.length)).length := by rw [rotS_length]; exact Nat.lt_of_lt_of_le h wait_le
  have := List.not_of_lt_findIdx h
  rw [rot_get hl] at this
  simpa using this
theorem wait_at (h : waitN l tick t < l.length) : ten (atS l tick (waitN l tick t)) = t := by
  have hl : (rotS l (tick % l.length)).findIdx (fun x => ten x == t) < (rotS l (tick % l.length)).length := by rw [rotS_length]; exact h
  have := List.findIdx_getElem (w := hl)
  rw [rot_get hl] at this
  simpa [waitN] using this
theorem own_at (hv : slicesB l = true) : sOwnS l (tick + k) = (ten (atS l tick k), 0) := by
  unfold sOwnS; rw [hv]; rfl
theorem asked_at (hv : slicesB l = true) (ht : 0 ≤ t ∧ t < 3) : askedS l t = 0 := by unfold askedS; rw [hv, if_pos ht]; rfl
theorem left_ok (hv : slicesB l = true) (ht : 0 ≤ t ∧ t < 3) : leftS l tick t = (((leftN l tick t : Nat) : Int), 0) := by unfold leftS; rw [if_pos (asked_at hv ht)]
theorem wait_none (hv : slicesB l = true) (ht : 0 ≤ t ∧ t < 3) (h : waitN l tick t = l.length) : waitS l tick t = (0, 6) := by unfold waitS; rw [if_pos (asked_at hv ht), if_pos h]
theorem wait_some (hv : slicesB l = true) (ht : 0 ≤ t ∧ t < 3) (h : waitN l tick t ≠ l.length) : waitS l tick t = (((waitN l tick t : Nat) : Int), 0) := by unfold waitS; rw [if_pos (asked_at hv ht), if_neg h]
theorem left_pos (hl : 1 ≤ l.length) : (0 < leftN l tick t) ↔ ten (atS l tick 0) = t := by
  refine ⟨fun h => left_lt h, fun h => ?_⟩
  rcases Nat.eq_zero_or_pos (leftN l tick t) with h0 | h0
  · have := left_at (l := l) (tick := tick) (t := t) (by omega)
    rw [h0] at this
    exact absurd h this
  · exact h0
theorem wait_zero (hl : 1 ≤ l.length) : (waitN l tick t = 0) ↔ ten (atS l tick 0) = t := by
  refine ⟨fun h => ?_, fun h => ?_⟩
  · have := wait_at (l := l) (tick := tick) (t := t) (by omega)
    rwa [h] at this
  · rcases Nat.eq_zero_or_pos (waitN l tick t) with h0 | h0
    · exact h0
    · exact absurd h (wait_lt h0)
theorem at_zero {x : UInt8} (hk : k < l.length) (hx : l[k]? = some x) : atS l k 0 = x := by
  unfold atS
  rw [Nat.add_zero, Nat.mod_eq_of_lt hk]
  simp [hx]
end
end Go.Proofs.Ytcbghchciplfcaa
