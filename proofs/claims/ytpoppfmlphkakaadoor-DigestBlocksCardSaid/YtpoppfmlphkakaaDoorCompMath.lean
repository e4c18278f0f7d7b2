/-
  COMPMATH: the compression of a block, on plain numbers.
-/
import Derived.Test.YtpoppfmlphkakaaDoorSchedMath
namespace Go.Proofs.YtpoppfmlphkakaaDoor
set_option linter.unusedVariables false
set_option linter.unusedSimpArgs false
set_option maxRecDepth 100000
open Go.RowKit

/-- The constants of the rounds. -/
def rc : List Nat := [
  1116352408, 1899447441, 3049323471, 3921009573, 961987163, 1508970993, 2453635748, 2870763221, 3624381080, 310598401, 607225278, 1426881987, 1925078388, 2162078206, 2614888103, 3248222580,
  3835390401, 4022224774, 264347078, 604807628, 770255983, 1249150122, 1555081692, 1996064986, 2554220882, 2821834349, 2952996808, 3210313671, 3336571891, 3584528711, 113926993, 338241895,
  666307205, 773529912, 1294757372, 1396182291, 1695183700, 1986661051, 2177026350, 2456956037, 2730485921, 2820302411, 3259730800, 3345764771, 3516065817, 3600352804, 4094571909, 275423344,
  430227734, 506948616, 659060556, 883997877, 958139571, 1322822218, 1537002063, 1747873779, 1955562222, 2024104815, 2227730452, 2361852424, 2428436474, 2756734187, 3204031479, 3329325298]
theorem rc_length : rc.length = 64 := rfl
/-- The state behind k rounds. -/
def rounds (s : St) (ws : List Nat) : Nat → St
  | 0 => s
  | k + 1 => (rounds s ws k).step (rc.getD k 0) (ws.getD k 0)
theorem rounds_ok {s : St} (h : s.ok) (ws : List Nat) (k : Nat) : (rounds s ws k).ok := by
  induction k with
  | zero => exact h
  | succ k ih => exact ih.step _ _
/-- The sum of two states, word by word. -/
def St.add (m s : St) : St :=
  { a := (m.a + s.a) % 4294967296, b := (m.b + s.b) % 4294967296, c := (m.c + s.c) % 4294967296, d := (m.d + s.d) % 4294967296
    e := (m.e + s.e) % 4294967296, f := (m.f + s.f) % 4294967296, g := (m.g + s.g) % 4294967296, h := (m.h + s.h) % 4294967296 }
theorem St.add_ok (m s : St) : (m.add s).ok :=
  ⟨Nat.mod_lt _ (by omega), Nat.mod_lt _ (by omega), Nat.mod_lt _ (by omega), Nat.mod_lt _ (by omega), Nat.mod_lt _ (by omega), Nat.mod_lt _ (by omega), Nat.mod_lt _ (by omega), Nat.mod_lt _ (by omega)⟩
/-- The state behind a block. -/
@[irreducible] def mixed (s : St) (l : List UInt8) : St := rounds s (sched l) 64
theorem mixed_eq (s : St) (l : List UInt8) : rounds s (sched l) 64 = mixed s l := by unfold mixed; rfl
theorem mixed_ok {s : St} (h : s.ok) (l : List UInt8) : (mixed s l).ok := by unfold mixed; exact rounds_ok h _ _
def compress (s : St) (l : List UInt8) : St := (mixed s l).add s
theorem compress_ok (s : St) (l : List UInt8) : (compress s l).ok := St.add_ok _ _

/-- The words of a state. -/
def St.list (s : St) : List Nat := [s.a, s.b, s.c, s.d, s.e, s.f, s.g, s.h]
theorem vals_eq (s : St) : s.vals = wv s.list := rfl
theorem St.list_length (s : St) : s.list.length = 8 := rfl
/-- The first k words summed, the others as they are. -/
def sumTo (ms ss : List Nat) (k : Nat) : List Nat := (List.range 8).map fun j => if j < k then (ms.getD j 0 + ss.getD j 0) % 4294967296 else ms.getD j 0
theorem sumTo_length (ms ss : List Nat) (k : Nat) : (sumTo ms ss k).length = 8 := by simp [sumTo]
theorem sumTo_zero (m s : St) : sumTo m.list s.list 0 = m.list := rfl
theorem sumTo_full (m s : St) : sumTo m.list s.list 8 = (m.add s).list := rfl
theorem sumTo_at (ms ss : List Nat) (k : Nat) (h : k < 8) : (sumTo ms ss k)[k]? = some (ms.getD k 0) := by simp [sumTo, h]
theorem sumTo_step (ms ss : List Nat) (k : Nat) (h : k < 8) : sumTo ms ss (k + 1) = (sumTo ms ss k).set k ((ms.getD k 0 + ss.getD k 0) % 4294967296) := by
  apply List.ext_getElem?
  intro j
  rw [List.getElem?_set, sumTo_length]
  by_cases hj : j < 8
  · by_cases e : k = j
    · subst e; simp [sumTo, h]
    · rw [if_neg e]
      simp only [sumTo, List.getElem?_map, List.getElem?_range hj, Option.map_some]
      by_cases h2 : j < k
      · rw [if_pos (by omega), if_pos h2]
      · rw [if_neg (by omega), if_neg h2]
  · rw [List.getElem?_eq_none (by rw [sumTo_length]; omega)]
    rw [if_neg (by omega), List.getElem?_eq_none (by rw [sumTo_length]; omega)]
theorem St.list_getD (s : St) {k : Nat} (h : k < 8) : s.list[k]? = some (s.list.getD k 0) := by
  rw [List.getD_eq_getElem?_getD, List.getElem?_eq_getElem (by rw [St.list_length]; exact h)]; rfl
end Go.Proofs.YtpoppfmlphkakaaDoor
