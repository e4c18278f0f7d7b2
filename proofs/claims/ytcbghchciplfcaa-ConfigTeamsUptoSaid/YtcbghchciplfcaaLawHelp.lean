/-
  LAWHELP: the helpers of the laws of floor: is, are, six, four; the reference's SameInts, Same, ValidSides, On.
-/
import Derived.Test.YtcbghchciplfcaaParse2
import Derived.Test.YtcbghchciplfcaaSlices2
namespace Go.Proofs.Ytcbghchciplfcaa
set_option linter.unusedVariables false
set_option linter.unusedSimpArgs false
set_option maxRecDepth 100000
open Go.RowKit

theorem validSides_any (a b : Int) (w : World) : Calls Try.prog 121 #[.int .i64 a, .int .i64 b] w fun e w' => e = .returned (.bool (gridB a b)) ∧ w = w' := by
  by_cases h1 : 2 ≤ a
  · by_cases h2 : a ≤ 8
    · by_cases h3 : 2 ≤ b
      · by_cases h4 : b ≤ 8
        · rw [show gridB a b = true from (gridB_iff _ _).2 ⟨⟨h1, h2⟩, h3, h4⟩]
          go_enter Try.func121, Try.ntmps121
          go_wp2
          go_ret
          exact ⟨rfl, rfl⟩
        · rw [show gridB a b = false from by cases h : gridB a b; rfl; exact absurd ((gridB_iff _ _).1 h).2.2 h4]
          have d : decide (b ≤ 8) = false := decide_eq_false h4
          clear h4
          go_enter Try.func121, Try.ntmps121
          go_wp2
          go_ret
          exact ⟨rfl, rfl⟩
      · rw [show gridB a b = false from by cases h : gridB a b; rfl; exact absurd ((gridB_iff _ _).1 h).2.1 h3]
        have d : decide (2 ≤ b) = false := decide_eq_false h3
        clear h3
        go_enter Try.func121, Try.ntmps121
        go_wp2
        go_ret
        exact ⟨rfl, rfl⟩
    · rw [show gridB a b = false from by cases h : gridB a b; rfl; exact absurd ((gridB_iff _ _).1 h).1.2 h2]
      have d : decide (a ≤ 8) = false := decide_eq_false h2
      clear h2
      go_enter Try.func121, Try.ntmps121
      go_wp2
      go_ret
      exact ⟨rfl, rfl⟩
  · rw [show gridB a b = false from by cases h : gridB a b; rfl; exact absurd ((gridB_iff _ _).1 h).1.1 h1]
    have d : decide (2 ≤ a) = false := decide_eq_false h1
    clear h1
    go_enter Try.func121, Try.ntmps121
    go_wp2
    go_ret
    exact ⟨rfl, rfl⟩
theorem ints_at {w : World} {B n k : Nat} {A : Option Addr} {l : List Int} (hr : Reads w B 1 A n (iv l)) (hk : k < n) : ∃ ad x, A = some ad ∧ ad.block < B ∧ l[k]? = some x ∧ w.cell? (ad.add k) = some (.int .i64 x) := by
  obtain ⟨ad, u, e, hb, hu, hc⟩ := hr.at_ hk
  have hl : k < l.length := by have := hr.1; simp at this; omega
  have hx : l[k]? = some l[k] := List.getElem?_eq_getElem hl
  rw [iv_at hx] at hu
  injection hu with hu
  subst hu
  exact ⟨ad, l[k], e, hb, hx, hc⟩
set_option maxHeartbeats 800000 in
theorem sameInts_yes (A A' : Option Addr) (n c c' : Nat) (l : List Int) (w : World) (hr : Reads w w.heap.size 1 A n (iv l)) (hr' : Reads w w.heap.size 1 A' n (iv l)) (hn : n ≤ 140737488351232) :
    Calls Try.prog 34 #[.slice A n c, .slice A' n c'] w fun e w' => e = .returned (.bool true) ∧ ∃ k, w' = w.drewN k := by
  have HR := Lib.hid hr; have HR' := Lib.hid hr'
  clear hr hr'
  go_enter Try.func34, Try.ntmps34
  go_wp2
  go_loopw [5] (fun i wr => ∃ k d : Nat, k ≤ n ∧ i = .int .i64 (k : Int) ∧ wr = w.drewN d)
    (fun i _ => n - (intOf i).toNat)
  case atStart => exact ⟨0, 0, Nat.zero_le _, rfl, rfl⟩
  case round =>
    obtain ⟨k, d, hk, rfl, rfl⟩ := hrel
    by_cases hlt : k < n
    · obtain ⟨ad, x, rfl, had, hx, hcx⟩ := ints_at HR.out hlt
      obtain ⟨ad', x', rfl, had', hx', hcx'⟩ := ints_at HR'.out hlt
      obtain rfl : x = x' := by rw [hx] at hx'; injection hx'
      clear hx hx' had had'
      have k0 : (0 : Int) ≤ (k : Int) := by omega
      have k1 : (k : Int) < (n : Int) := by omega
      go_wp2
      go_quiet (fail)
      go_wp2
      go_roundw
      case rel => exact ⟨k + 1, _, by omega, by go_num, rfl⟩
      case measure => simp [intOf]; omega
    · obtain rfl : k = n := by omega
      go_wp2
      go_ret
      exact ⟨rfl, _, rfl⟩
def sixL : List UInt8 := [1, 255, 2, 0, 255, 1]
def fourL : List UInt8 := [1, 1, 0, 2]
theorem lit_reads (w : World) (t : TypeId) (l : List UInt8) (vs : Array Value) (h : vs = (bv l).toArray) : Reads (w.alloc (.cells vs t)) (w.alloc (.cells vs t)).heap.size 1 (some ⟨w.heap.size, 0, none⟩) l.length (bv l) := by
  subst h
  have := reads_lit w t (bv l)
  rw [bv_length] at this
  exact this.more (by simp)
theorem reads_far {w : World} {B n g : Nat} {xs : List Value} (h : Reads w B 1 (some ⟨g, 0, none⟩) n xs) {p : Addr} (hp : g ≠ p.block) (u : Value) : Reads (w.setCell p u) B 1 (some ⟨g, 0, none⟩) n xs :=
  ⟨h.1, fun hn => by
    obtain ⟨ad, e, hb, hc⟩ := h.2 hn
    injection e with e
    subst e
    exact ⟨_, rfl, hb, fun j v hv => (World.cell?_setCell_other w p _ u (fun e => hp (by rw [e, block_of_add]))).trans (hc j v hv)⟩⟩
set_option maxHeartbeats 800000 in
theorem same_yes (a b : Int) (A A' : Option Addr) (n c c' : Nat) (l : List UInt8) (w : World) (hr : Reads w w.heap.size 1 A n (bv l)) (hr' : Reads w w.heap.size 1 A' n (bv l)) :
    Calls Try.prog 85 #[.agg #[.int .i64 a, .int .i64 b, .slice A n c], .agg #[.int .i64 a, .int .i64 b, .slice A' n c']] w fun e w' => e = .returned (.bool true) ∧ Below w.heap.size w w' := by
  have hB : Below w.heap.size w ((w.alloc (.cells #[.int .i64 a, .int .i64 b, .slice A n c] 30)).alloc (.cells #[.int .i64 a, .int .i64 b, .slice A' n c'] 30)) := ((Below.refl _ _).alloc (Nat.le_refl _) _).alloc (by simp) _
  have q1 := run_str (P := Try.prog) 28 5 9 Try.underlying28 Try.underlying5 Try.underlying9 (c := c) (hr.below hB)
  have q2 := run_str (P := Try.prog) 28 5 9 Try.underlying28 Try.underlying5 Try.underlying9 (c := c') (hr'.below hB)
  have H := Lib.hid hB
  clear hr hr' hB
  go_enter Try.func85, Try.ntmps85
  go_wp2
  go_ret
  exact ⟨rfl, H.out⟩
end Go.Proofs.Ytcbghchciplfcaa
