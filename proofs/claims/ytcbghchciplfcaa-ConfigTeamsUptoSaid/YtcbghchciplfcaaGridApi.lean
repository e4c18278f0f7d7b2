/-
  GRIDAPI: contracts of floor's exported functions on places: Cells, Locate, Place, Step, Distance, Adjacent.
-/
import Derived.Test.YtcbghchciplfcaaGridOf
namespace Go.Proofs.Ytcbghchciplfcaa
set_option linter.unusedVariables false
set_option linter.unusedSimpArgs false
set_option maxRecDepth 100000
open Go.RowKit

theorem iv_lit (w : World) (t : TypeId) (l : List Int) (vs : Array Value) (h : vs = (iv l).toArray) : Reads (w.alloc (.cells vs t)) (w.alloc (.cells vs t)).heap.size 1 (some ⟨w.heap.size, 0, none⟩) l.length (iv l) := by
  subst h
  have := reads_lit w t (iv l)
  rw [iv_length] at this
  exact this.more (by simp)
end Go.Proofs.Ytcbghchciplfcaa
