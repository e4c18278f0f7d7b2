/-
  BOARD: contracts of floor's functions on cells and floors: isCell, ownerOf, markOf, boardOf.
-/
import Derived.Test.YtcbghchciplfcaaGridApi
import Derived.Deep.RegionWith
import Derived.Deep.RegionHeld3
import Derived.Outline
namespace Go.Proofs.Ytcbghchciplfcaa
set_option linter.unusedVariables false
set_option linter.unusedSimpArgs false
set_option maxRecDepth 100000
open Go.RowKit

theorem bk_drew {a w : World} (h : Below a.heap.size a w) : Below a.heap.size a w.drew := h.drew
theorem bk_alloc {a w : World} (h : Below a.heap.size a w) (o : Obj) : Below a.heap.size a (w.alloc o) := h.alloc h.size o

def cellB (c : UInt8) : Bool := decide (c.toNat ≤ 3 ∨ c.toNat = 255)
def ownerS (c : UInt8) : Int := if c.toNat = 0 then -1 else if c.toNat = 255 then -2 else (c.toNat : Int) - 1

theorem isCell_any (c : UInt8) (w : World) : Calls Try.prog 128 #[.int .u8 (c.toNat : Int)] w fun e w' => e = .returned (.bool (cellB c)) ∧ w = w' := by
  have hc := c.toNat_lt
  unfold cellB
  generalize c.toNat = n at *
  by_cases h0 : n = 0
  · subst h0
    go_enter Try.func128, Try.ntmps128
    go_wp2
    go_ret
    exact ⟨rfl, rfl⟩
  · have e0 : ((n : Int) == 0) = false := by simp; omega
    by_cases h1 : n = 255
    · subst h1
      go_enter Try.func128, Try.ntmps128
      go_wp2
      go_ret
      exact ⟨rfl, rfl⟩
    · have e1 : ((n : Int) == 255) = false := by simp; omega
      by_cases h2 : n ≤ 3
      · have e2 : decide (n ≤ 3) = true := decide_eq_true h2
        have ed : decide (n ≤ 3 ∨ n = 255) = true := decide_eq_true (.inl h2)
        have e3 : decide ((n : Int) ≤ 3) = true := decide_eq_true (by omega)
        rw [ed]
        clear h0 h1 h2 ed e2
        go_enter Try.func128, Try.ntmps128
        go_wp2
        go_ret
        exact ⟨rfl, rfl⟩
      · have ed : decide (n ≤ 3 ∨ n = 255) = false := decide_eq_false (by omega)
        have e3 : decide ((n : Int) ≤ 3) = false := decide_eq_false (by omega)
        rw [ed]
        clear h0 h1 h2 ed
        go_enter Try.func128, Try.ntmps128
        go_wp2
        go_ret
        exact ⟨rfl, rfl⟩

theorem ownerOf_any (c : UInt8) (w : World) : Calls Try.prog 96 #[.int .u8 (c.toNat : Int)] w fun e w' => e = .returned (.int .i64 (ownerS c)) ∧ w = w' := by
  have hc := c.toNat_lt
  unfold ownerS
  generalize c.toNat = n at *
  by_cases h0 : n = 0
  · subst h0
    go_enter Try.func96, Try.ntmps96
    go_wp2
    go_ret
    exact ⟨rfl, rfl⟩
  · have e0 : ((n : Int) == 0) = false := by simp; omega
    rw [if_neg h0]
    by_cases h1 : n = 255
    · subst h1
      go_enter Try.func96, Try.ntmps96
      go_wp2
      go_ret
      exact ⟨rfl, rfl⟩
    · have e1 : ((n : Int) == 255) = false := by simp; omega
      rw [if_neg h1]
      clear h0 h1
      go_enter Try.func96, Try.ntmps96
      go_wp2
      go_ret
      exact ⟨rfl, rfl⟩

def markB (c : UInt8) : UInt8 := if c.toNat = 0 then 35 else if c.toNat = 255 then 46 else 47 + c
theorem markOf_any (c : UInt8) (w : World) (h : cellB c = true) : Calls Try.prog 106 #[.int .u8 (c.toNat : Int)] w fun e w' => e = .returned (.int .u8 ((markB c).toNat : Int)) ∧ w = w' := by
  have hc := c.toNat_lt
  unfold markB
  unfold cellB at h
  rw [decide_eq_true_eq] at h
  by_cases h0 : c.toNat = 0
  · rw [if_pos h0, h0]
    clear h0 h hc
    go_enter Try.func106, Try.ntmps106
    go_wp2
    go_ret
    exact ⟨rfl, rfl⟩
  · have e0 : ((c.toNat : Int) == 0) = false := by simp; omega
    rw [if_neg h0]
    by_cases h1 : c.toNat = 255
    · rw [if_pos h1, h1]
      clear h1 h0 e0 h hc
      go_enter Try.func106, Try.ntmps106
      go_wp2
      go_ret
      exact ⟨rfl, rfl⟩
    · have e1 : ((c.toNat : Int) == 255) = false := by simp; omega
      rw [if_neg h1]
      have h3 : (c.toNat : Int) ≤ 3 := by omega
      have h4 : 0 < (c.toNat : Int) := by omega
      have hm : ((47 + c).toNat : Int) = 47 + (c.toNat : Int) := by
        rw [UInt8.toNat_add]; simp; omega
      rw [hm]
      clear h0 h1 h hm hc
      generalize (c.toNat : Int) = n at *
      go_enter Try.func106, Try.ntmps106
      go_wp2
      go_ret
      exact ⟨ret_int (by omega), rfl⟩
end Go.Proofs.Ytcbghchciplfcaa
