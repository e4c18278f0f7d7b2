/-
  GRIDOF: the contract of floor's gridOf.
-/
import Derived.Test.YtcbghchciplfcaaGrid3
import Derived.Test.YtcbghchciplfcaaArr
import Derived.Outline
namespace Go.Proofs.Ytcbghchciplfcaa
set_option linter.unusedVariables false
set_option linter.unusedSimpArgs false
set_option maxRecDepth 100000
open Go.RowKit

/-- numbers as values. -/
def iv (l : List Int) : List Value := l.map (Value.int .i64)
@[simp] theorem iv_length (l : List Int) : (iv l).length = l.length := by simp [iv]
theorem iv_at {l : List Int} {k : Nat} {p : Int} (h : l[k]? = some p) : (iv l)[k]? = some (.int .i64 p) := by simp [iv, h]
def g2 (a b : Int) : Array Value := #[.int .i64 a, .int .i64 b]
theorem g2_info (a b : Int) : (Try.prog.info? 121).map (·.size) = some (g2 a b).size := by
  show _ = some 2
  kernel_rfl
theorem g2_two {w : World} {g : Nat} {a b c d : Int} (h : Blk w g 121 (g2 a b)) : Blk ((w.setCell ⟨g, 0, none⟩ (.int .i64 c)).setCell ⟨g, 1, none⟩ (.int .i64 d)) g 121 (g2 c d) :=
  (h.set_ 0 _).set_ 1 _
theorem below_two {B g : Nat} {w w' : World} (h : Below B w w') (hg : B ≤ g) (c d : Value) : Below B w ((w'.setCell ⟨g, 0, none⟩ c).setCell ⟨g, 1, none⟩ d) := (h.setCell hg _).setCell hg _

theorem all_take {l : List Int} {f : Int → Bool} {k : Nat} {p : Int} (h : (l.take k).all f = true) (hp : l[k]? = some p) (hf : f p = true) : (l.take (k + 1)).all f = true := by
  rw [List.take_add_one, hp]
  simp only [Option.toList_some, List.all_append, h, List.all_cons, hf, List.all_nil, Bool.and_self]
theorem all_not {l : List Int} {f : Int → Bool} {k : Nat} {p : Int} (hp : l[k]? = some p) (hf : f p = false) : l.all f = false := by
  have hm := List.mem_of_getElem? hp
  cases h : l.all f
  · rfl
  · rw [List.all_eq_true] at h
    have := h p hm
    rw [hf] at this
    cases this

/-- what gridOf of valid sides comes to. -/
def gridE (a b : Int) (t : Bool) : Value := match t with
  | true => .tuple #[.agg #[.int .i64 a, .int .i64 b], .int .i64 0]
  | false => .tuple #[.agg #[.int .i64 0, .int .i64 0], .int .i64 2]
end Go.Proofs.Ytcbghchciplfcaa
