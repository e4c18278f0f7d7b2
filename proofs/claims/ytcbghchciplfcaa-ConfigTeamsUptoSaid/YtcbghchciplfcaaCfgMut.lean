/-
  CFGMUT: rows that are written, number by number.
-/
import Derived.Test.YtcbghchciplfcaaCfgTwin2
namespace Go.Proofs.Ytcbghchciplfcaa
set_option linter.unusedVariables false
set_option linter.unusedSimpArgs false
set_option maxRecDepth 100000
open Go.RowKit

/-- block g of X holds n numbers. -/
def MRow (X : World) (g n : Nat) (t : TypeId) (k : IntKind) : Prop := ∃ cur : Array Value, X.heap[g]? = some (.cells cur t (0, 0)) ∧ ∀ j, j < n → ∃ z : Int, cur[j]? = some (.int k z)
theorem addr_add (g j : Nat) : (⟨g, 0, none⟩ : Addr).add j = ⟨g, j, none⟩ := by unfold Addr.add; split <;> simp_all
theorem own_open {w : World} {base n c : Nat} {e : TypeId} {A : Option Addr} {xs : List Value} (h : w.ownsRow base e 1 (.slice A n c) n xs) (hn : 0 < n) :
    ∃ (g : Nat) (cur : Array Value), A = some ⟨g, 0, none⟩ ∧ base ≤ g ∧ g < w.heap.size ∧ w.heap[g]? = some (.cells cur e (0, 0)) ∧ ∀ (j : Nat) (v : Value), xs[j]? = some v → cur[j]? = some v := by
  rcases h.2 with ⟨h1, h2⟩ | ⟨g, cap, cur, h1, hb, hh, hnc, hm, hs, ht⟩
  · omega
  · injection h1 with h1 _ h3
    refine ⟨g, cur, h1, hb, (Array.getElem?_eq_some_iff.1 hh).1, hh, fun j v hv => ?_⟩
    rw [← ht, List.getElem?_take] at hv
    split at hv
    · simpa using hv
    · cases hv
theorem MRow.ofInts {w : World} {base n c : Nat} {A : Option Addr} {l : List Int} (h : w.ownsRow base 3 1 (.slice A n c) n (iv l)) (hn : 0 < n) : ∃ g, A = some ⟨g, 0, none⟩ ∧ base ≤ g ∧ g < w.heap.size ∧ MRow w g n 3 .i64 := by
  obtain ⟨g, cur, h1, h2, h3, h4, h5⟩ := own_open h hn
  refine ⟨g, h1, h2, h3, cur, h4, fun j hj => ?_⟩
  have hl : l.length = n := by have := h.1; simpa [iv_length] using this
  have hj' : j < l.length := by omega
  exact ⟨l[j], h5 j _ (by simp [iv, hj'])⟩
theorem MRow.ofBytes {w : World} {base n c : Nat} {A : Option Addr} {l : List UInt8} (h : w.ownsRow base 5 1 (.slice A n c) n (bv l)) (hn : 0 < n) : ∃ g, A = some ⟨g, 0, none⟩ ∧ base ≤ g ∧ g < w.heap.size ∧ MRow w g n 5 .u8 := by
  obtain ⟨g, cur, h1, h2, h3, h4, h5⟩ := own_open h hn
  refine ⟨g, h1, h2, h3, cur, h4, fun j hj => ?_⟩
  have hl : l.length = n := by have := h.1; simpa using this
  have hj' : j < l.length := by omega
  exact ⟨_, h5 j _ (by simp [bv, hj', u8v]; rfl)⟩
theorem MRow.get {X : World} {g n j : Nat} {t : TypeId} {k : IntKind} (h : MRow X g n t k) (hj : j < n) : ∃ z : Int, X.cell? ((⟨g, 0, none⟩ : Addr).add j) = some (.int k z) ∧ X.frozen? ((⟨g, 0, none⟩ : Addr).add j) = false := by
  obtain ⟨cur, h1, h2⟩ := h
  obtain ⟨z, hz⟩ := h2 j hj
  have hB : Blk X g t cur := h1
  rw [addr_add]
  exact ⟨z, (hB.cell j).trans hz, hB.frozen j⟩
theorem MRow.set {X : World} {g n j : Nat} {t : TypeId} {k : IntKind} (h : MRow X g n t k) (z : Int) : MRow (X.setCell ((⟨g, 0, none⟩ : Addr).add j) (.int k z)) g n t k := by
  obtain ⟨cur, h1, h2⟩ := h
  rw [addr_add]
  have hB : Blk X g t cur := h1
  refine ⟨_, hB.set_ j _, fun i hi => ?_⟩
  obtain ⟨y, hy⟩ := h2 i hi
  by_cases hij : j = i
  · subst hij
    refine ⟨z, ?_⟩
    rw [Array.getElem?_setIfInBounds_self_of_lt (Array.getElem?_eq_some_iff.1 hy).1]
  · exact ⟨y, by rw [Array.getElem?_setIfInBounds_ne hij]; exact hy⟩
theorem MRow.block {X X' : World} {g n : Nat} {t : TypeId} {k : IntKind} (h : MRow X g n t k) (hb : X'.heap[g]? = X.heap[g]?) : MRow X' g n t k := by
  obtain ⟨cur, h1, h2⟩ := h
  exact ⟨cur, hb.trans h1, h2⟩
theorem below_set {B : Nat} {w w' : World} {g j : Nat} (h : Below B w w') (hg : B ≤ g) (v : Value) : Below B w (w'.setCell ((⟨g, 0, none⟩ : Addr).add j) v) := by
  rw [addr_add]
  exact h.setCell hg _
end Go.Proofs.Ytcbghchciplfcaa
