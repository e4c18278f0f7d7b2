/-
  LAWHELP: the helpers of the laws of floor: is, are, six, four; the reference's SameInts, Same, ValidSides, On.
-/
import Derived.Test.YthehkapaipfoaaaParse2
import Derived.Test.YthehkapaipfoaaaSlices2
namespace Go.Proofs.Ythehkapaipfoaaa
set_option linter.unusedVariables false
set_option linter.unusedSimpArgs false
set_option maxRecDepth 100000
open Go.RowKit

theorem is_true (n : Int) (w : World) : Calls Try.prog 26 #[.int .i64 n, .int .i64 0, .int .i64 n] w fun e w' => e = .returned (.bool true) ∧ w = w' := by
  go_enter Try.func26, Try.ntmps26
  go_wp2
  go_ret
  exact ⟨rfl, rfl⟩

theorem validSides_any (a b : Int) (w : World) : Calls Try.prog 60 #[.int .i64 a, .int .i64 b] w fun e w' => e = .returned (.bool (gridB a b)) ∧ w = w' := by
  by_cases h1 : 2 ≤ a
  · by_cases h2 : a ≤ 8
    · by_cases h3 : 2 ≤ b
      · by_cases h4 : b ≤ 8
        · rw [show gridB a b = true from (gridB_iff _ _).2 ⟨⟨h1, h2⟩, h3, h4⟩]
          go_enter Try.func60, Try.ntmps60
          go_wp2
          go_ret
          exact ⟨rfl, rfl⟩
        · rw [show gridB a b = false from by cases h : gridB a b; rfl; exact absurd ((gridB_iff _ _).1 h).2.2 h4]
          have d : decide (b ≤ 8) = false := decide_eq_false h4
          clear h4
          go_enter Try.func60, Try.ntmps60
          go_wp2
          go_ret
          exact ⟨rfl, rfl⟩
      · rw [show gridB a b = false from by cases h : gridB a b; rfl; exact absurd ((gridB_iff _ _).1 h).2.1 h3]
        have d : decide (2 ≤ b) = false := decide_eq_false h3
        clear h3
        go_enter Try.func60, Try.ntmps60
        go_wp2
        go_ret
        exact ⟨rfl, rfl⟩
    · rw [show gridB a b = false from by cases h : gridB a b; rfl; exact absurd ((gridB_iff _ _).1 h).1.2 h2]
      have d : decide (a ≤ 8) = false := decide_eq_false h2
      clear h2
      go_enter Try.func60, Try.ntmps60
      go_wp2
      go_ret
      exact ⟨rfl, rfl⟩
  · rw [show gridB a b = false from by cases h : gridB a b; rfl; exact absurd ((gridB_iff _ _).1 h).1.1 h1]
    have d : decide (2 ≤ a) = false := decide_eq_false h1
    clear h1
    go_enter Try.func60, Try.ntmps60
    go_wp2
    go_ret
    exact ⟨rfl, rfl⟩
theorem on_any (a b p : Int) (w : World) : Calls Try.prog 61 #[.int .i64 a, .int .i64 b, .int .i64 p] w fun e w' => e = .returned (.bool (onB a b p)) ∧ w = w' := by
  have V := Lib.hid (fun W => validSides_any a b W)
  cases h : gridB a b
  · rw [show onB a b p = false from by unfold onB; rw [h]; rfl]
    rw [h] at V
    clear h
    go_enter Try.func61, Try.ntmps61
    go_wp2_with fail
    refine (V.out _).mono ?_
    rintro e w1 ⟨rfl, rfl⟩
    go_wp2
    go_ret
    exact ⟨rfl, rfl⟩
  · obtain ⟨h1, h2⟩ := (gridB_iff _ _).1 h
    obtain ⟨s1, s2⟩ := size_bd h1 h2
    rw [show onB a b p = hasB a b p from by unfold onB; rw [h]; rfl]
    rw [h] at V
    clear h h1 h2
    by_cases p1 : 0 ≤ p
    · by_cases p2 : p < a * b
      · rw [(hasB_iff _ _ _).2 ⟨p1, p2⟩]
        go_enter Try.func61, Try.ntmps61
        go_wp2_with fail
        refine (V.out _).mono ?_
        rintro e w1 ⟨rfl, rfl⟩
        go_wp2
        go_ret
        exact ⟨rfl, rfl⟩
      · rw [show hasB a b p = false from decide_eq_false (fun h => p2 h.2)]
        have d : decide (p < a * b) = false := decide_eq_false p2
        clear p2
        go_enter Try.func61, Try.ntmps61
        go_wp2_with fail
        refine (V.out _).mono ?_
        rintro e w1 ⟨rfl, rfl⟩
        go_wp2
        go_ret
        exact ⟨rfl, rfl⟩
    · rw [show hasB a b p = false from decide_eq_false (fun h => p1 h.1)]
      have d : decide (0 ≤ p) = false := decide_eq_false p1
      clear p1
      go_enter Try.func61, Try.ntmps61
      go_wp2_with fail
      refine (V.out _).mono ?_
      rintro e w1 ⟨rfl, rfl⟩
      go_wp2
      go_ret
      exact ⟨rfl, rfl⟩

theorem ints_at {w : World} {B n k : Nat} {A : Option Addr} {l : List Int} (hr : Reads w B 1 A n (iv l)) (hk : k < n) : ∃ ad x, A = some ad ∧ ad.block < B ∧ l[k]? = some x ∧ w.cell? (ad.add k) = some (.int .i64 x) := by
  obtain ⟨ad, u, e, hb, hu, hc⟩ := hr.at_ hk
  have hl : k < l.length := by have := hr.1; simp at this; omega
  have hx : l[k]? = some l[k] := List.getElem?_eq_getElem hl
  rw [iv_at hx] at hu
  injection hu with hu
  subst hu
  exact ⟨ad, l[k], e, hb, hx, hc⟩
set_option maxHeartbeats 800000 in
theorem sameInts_yes (A A' : Option Addr) (n c c' : Nat) (l : List Int) (w : World) (hr : Reads w w.heap.size 1 A n (iv l)) (hr' : Reads w w.heap.size 1 A' n (iv l)) (hn : n ≤ 140737488351232) :
    Calls Try.prog 48 #[.slice A n c, .slice A' n c'] w fun e w' => e = .returned (.bool true) ∧ ∃ k, w' = w.drewN k := by
  have HR := Lib.hid hr; have HR' := Lib.hid hr'
  clear hr hr'
  go_enter Try.func48, Try.ntmps48
  go_wp2
  go_loopw [5] (fun i wr => ∃ k d : Nat, k ≤ n ∧ i = .int .i64 (k : Int) ∧ wr = w.drewN d)
    (fun i _ => n - (intOf i).toNat)
  case atStart => exact ⟨0, 0, Nat.zero_le _, rfl, rfl⟩
  case round =>
    obtain ⟨k, d, hk, rfl, rfl⟩ := hrel
    by_cases hlt : k < n
    · obtain ⟨ad, x, rfl, had, hx, hcx⟩ := ints_at HR.out hlt
      obtain ⟨ad', x', rfl, had', hx', hcx'⟩ := ints_at HR'.out hlt
      obtain rfl : x = x' := by rw [hx] at hx'; injection hx'
      clear hx hx' had had'
      have k0 : (0 : Int) ≤ (k : Int) := by omega
      have k1 : (k : Int) < (n : Int) := by omega
      go_wp2
      go_quiet (fail)
      go_wp2
      go_roundw
      case rel => exact ⟨k + 1, _, by omega, by go_num, rfl⟩
      case measure => simp [intOf]; omega
    · obtain rfl : k = n := by omega
      go_wp2
      go_ret
      exact ⟨rfl, _, rfl⟩
theorem are_yes (A A' : Option Addr) (n c c' : Nat) (l : List Int) (w : World) (hr : Reads w w.heap.size 1 A n (iv l)) (hr' : Reads w w.heap.size 1 A' n (iv l)) (hn : n ≤ 140737488351232) :
    Calls Try.prog 32 #[.slice A n c, .int .i64 0, .slice A' n c'] w fun e w' => e = .returned (.bool true) ∧ ∃ k, w' = w.drewN k := by
  have S := Lib.hid (sameInts_yes A A' n c c' l w hr hr' hn)
  clear hr hr'
  go_enter Try.func32, Try.ntmps32
  go_wp2_with fail
  refine S.out.mono ?_
  rintro e w1 ⟨rfl, d, rfl⟩
  go_wp2
  go_ret
  exact ⟨rfl, _, rfl⟩

def sixL : List UInt8 := [1, 255, 2, 0, 255, 1]
def fourL : List UInt8 := [1, 1, 0, 2]
theorem lit_reads (w : World) (t : TypeId) (l : List UInt8) (vs : Array Value) (h : vs = (bv l).toArray) : Reads (w.alloc (.cells vs t)) (w.alloc (.cells vs t)).heap.size 1 (some ⟨w.heap.size, 0, none⟩) l.length (bv l) := by
  subst h
  have := reads_lit w t (bv l)
  rw [bv_length] at this
  exact this.more (by simp)
theorem four_any (w : World) : Calls Try.prog 36 #[] w fun e w' => ∃ A c, e = .returned (.slice A 4 c) ∧ Hid (Reads w' w'.heap.size 1 A 4 (bv fourL)) ∧ Below w.heap.size w w' := by
  have hr := lit_reads w 5 fourL #[.int .u8 1, .int .u8 1, .int .u8 0, .int .u8 2] rfl
  have HR := Lib.hid hr
  clear hr
  go_enter Try.func36, Try.ntmps36
  go_wp2
  go_ret
  exact ⟨_, _, rfl, HR, (Below.refl _ _).alloc (Nat.le_refl _) _⟩
theorem reads_far {w : World} {B n g : Nat} {xs : List Value} (h : Reads w B 1 (some ⟨g, 0, none⟩) n xs) {p : Addr} (hp : g ≠ p.block) (u : Value) : Reads (w.setCell p u) B 1 (some ⟨g, 0, none⟩) n xs :=
  ⟨h.1, fun hn => by
    obtain ⟨ad, e, hb, hc⟩ := h.2 hn
    injection e with e
    subst e
    exact ⟨_, rfl, hb, fun j v hv => (World.cell?_setCell_other w p _ u (fun e => hp (by rw [e, block_of_add]))).trans (hc j v hv)⟩⟩
set_option maxHeartbeats 800000 in
theorem same_yes (a b : Int) (A A' : Option Addr) (n c c' : Nat) (l : List UInt8) (w : World) (hr : Reads w w.heap.size 1 A n (bv l)) (hr' : Reads w w.heap.size 1 A' n (bv l)) :
    Calls Try.prog 51 #[.agg #[.int .i64 a, .int .i64 b, .slice A n c], .agg #[.int .i64 a, .int .i64 b, .slice A' n c']] w fun e w' => e = .returned (.bool true) ∧ Below w.heap.size w w' := by
  have hB : Below w.heap.size w ((w.alloc (.cells #[.int .i64 a, .int .i64 b, .slice A n c] 34)).alloc (.cells #[.int .i64 a, .int .i64 b, .slice A' n c'] 34)) := ((Below.refl _ _).alloc (Nat.le_refl _) _).alloc (by simp) _
  have q1 := run_str (P := Try.prog) 32 5 9 Try.underlying32 Try.underlying5 Try.underlying9 (c := c) (hr.below hB)
  have q2 := run_str (P := Try.prog) 32 5 9 Try.underlying32 Try.underlying5 Try.underlying9 (c := c') (hr'.below hB)
  have H := Lib.hid hB
  clear hr hr' hB
  go_enter Try.func51, Try.ntmps51
  go_wp2
  go_ret
  exact ⟨rfl, H.out⟩
end Go.Proofs.Ythehkapaipfoaaa
