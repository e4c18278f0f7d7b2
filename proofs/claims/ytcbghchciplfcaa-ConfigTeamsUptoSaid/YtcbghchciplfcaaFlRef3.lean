/-
  FLREF3: the reference's functions on floors: Own, Aisle, Owner, Private, Aisles.
-/
import Derived.Test.YtcbghchciplfcaaFlRef
import Derived.Laws.OwnMore
namespace Go.Proofs.Ytcbghchciplfcaa
set_option linter.unusedVariables false
set_option linter.unusedSimpArgs false
set_option maxRecDepth 100000
open Go.RowKit

/-- a floor in a variable of the call's own. -/
structure FBox (w X : World) (a b : Int) (v : Value) : Prop where
  kf : Blk X w.heap.size 30 (b3 a b v)
  bel : Below w.heap.size w X
theorem FBox.next {w X X' : World} {a b : Int} {v : Value} (h : FBox w X a b v) (hb : Below X.heap.size X X') : FBox w X' a b v := ⟨h.kf.below hb h.kf.lt, h.bel.trans (hb.mono h.bel.size)⟩
theorem fbox (w : World) (a b : Int) (v : Value) : FBox w (w.alloc (.cells #[.int .i64 a, .int .i64 b, v] 30)) a b v := ⟨Blk.new w 30 (b3 a b v), (Below.refl _ _).alloc (Nat.le_refl _) _⟩

theorem ownerS_eq' (c : UInt8) : ownerS c = if (c.toNat : Int) = 255 then -2 else (c.toNat : Int) - 1 := by
  unfold ownerS
  by_cases h0 : c.toNat = 0
  · rw [if_pos h0, if_neg (by omega)]; omega
  · rw [if_neg h0]
    by_cases h1 : c.toNat = 255
    · rw [if_pos h1, if_pos (by omega)]
    · rw [if_neg h1, if_neg (by omega)]
theorem own_iff {x : UInt8} {t : Int} (h0 : 0 ≤ t) (h3 : t < 3) : ((x.toNat : Int) == t + 1) = decide (ownerS x = t) := by
  rw [ownerS_eq']
  have := x.toNat_lt
  by_cases h : (x.toNat : Int) = 255
  · rw [if_pos h, decide_eq_false (by omega)]; simp; omega
  · rw [if_neg h]
    by_cases h2 : (x.toNat : Int) - 1 = t
    · rw [decide_eq_true h2]; simp; omega
    · rw [decide_eq_false h2]; simp; omega
theorem aisle_iff {x : UInt8} : ((x.toNat : Int) == 255) = decide (ownerS x = -2) := by
  rw [ownerS_eq']
  by_cases h : (x.toNat : Int) = 255
  · rw [if_pos h, decide_eq_true rfl]; simp; omega
  · rw [if_neg h, decide_eq_false (by omega)]; simp; omega

theorem refOwn_any (a b : Int) (A : Option Addr) (n c : Nat) (l : List UInt8) (t : Int) (k : Nat) (y : UInt8) (w : World) (hr : Reads w w.heap.size 1 A n (bv l)) (hn : n ≤ 140737488351232) (hy : l[k]? = some y) (t0 : 0 ≤ t) (t3 : t < 3) :
    Calls Try.prog 101 #[.agg #[.int .i64 a, .int .i64 b, .slice A n c], .int .i64 t, .int .i64 (k : Int)] w fun e w' => e = .returned (.bool (decide (ownerS y = t))) ∧ Below w.heap.size w w' := by
  have hlen : l.length = n := by have := hr.1; simpa using this
  have hk : k < n := by
    rcases Nat.lt_or_ge k l.length with h | h
    · omega
    · rw [List.getElem?_eq_none h] at hy; cases hy
  have B := Lib.hid (fbox w a b (.slice A n c))
  obtain ⟨ad, x, rfl, had, hx, hcx⟩ := cells_at (hr.below B.out.bel) hk
  obtain rfl : x = y := by rw [hx] at hy; injection hy
  rw [← own_iff t0 t3]
  have k0 : (0 : Int) ≤ (k : Int) := by omega
  have k1 : (k : Int) < (n : Int) := by omega
  have d1 : decide (0 ≤ t) = true := decide_eq_true t0
  have d2 : decide (t < 3) = true := decide_eq_true t3
  obtain ⟨m, hm⟩ : ∃ m : Int, m = (x.toNat : Int) := ⟨_, rfl⟩
  have m1 : m ≤ 255 := by have := x.toNat_lt; omega
  have m0 : 0 ≤ m := by omega
  rw [← hm] at hcx ⊢
  clear hm hr hy hx hlen
  go_enter Try.func101, Try.ntmps101
  go_wp2
  go_ret
  exact ⟨rfl, B.out.bel⟩
theorem refAisle_any (a b : Int) (A : Option Addr) (n c : Nat) (l : List UInt8) (k : Nat) (y : UInt8) (w : World) (hr : Reads w w.heap.size 1 A n (bv l)) (hn : n ≤ 140737488351232) (hy : l[k]? = some y) :
    Calls Try.prog 102 #[.agg #[.int .i64 a, .int .i64 b, .slice A n c], .int .i64 (k : Int)] w fun e w' => e = .returned (.bool (decide (ownerS y = -2))) ∧ Below w.heap.size w w' := by
  have hlen : l.length = n := by have := hr.1; simpa using this
  have hk : k < n := by
    rcases Nat.lt_or_ge k l.length with h | h
    · omega
    · rw [List.getElem?_eq_none h] at hy; cases hy
  have B := Lib.hid (fbox w a b (.slice A n c))
  obtain ⟨ad, x, rfl, had, hx, hcx⟩ := cells_at (hr.below B.out.bel) hk
  obtain rfl : x = y := by rw [hx] at hy; injection hy
  rw [← aisle_iff]
  have k0 : (0 : Int) ≤ (k : Int) := by omega
  have k1 : (k : Int) < (n : Int) := by omega
  obtain ⟨m, hm⟩ : ∃ m : Int, m = (x.toNat : Int) := ⟨_, rfl⟩
  have m1 : m ≤ 255 := by have := x.toNat_lt; omega
  have m0 : 0 ≤ m := by omega
  rw [← hm] at hcx ⊢
  clear hm hr hy hx hlen
  go_enter Try.func102, Try.ntmps102
  go_wp2
  go_ret
  exact ⟨rfl, B.out.bel⟩

theorem fbox_of {w X : World} {a b : Int} {v : Value} (h : Below (w.heap.size + 1) (w.alloc (.cells #[.int .i64 a, .int .i64 b, v] 30)) X) : FBox w X a b v :=
  ⟨(Blk.new w 30 (b3 a b v)).below h (by omega), ((Below.refl _ _).alloc (Nat.le_refl _) _).trans (h.mono (by omega))⟩

end Go.Proofs.Ytcbghchciplfcaa
