/-
  FRAME2: a floor among the arguments, opened.
-/
import Derived.Test.YtcbghchciplfcaaFrame
import Derived.Lib.SmallJoins
namespace Go.Proofs.Ytcbghchciplfcaa
set_option linter.unusedVariables false
set_option linter.unusedSimpArgs false
set_option maxRecDepth 100000
open Go.ChangeShapes Go.WideShapes Go.ChangeAt Go.RowKit Go.Deep Go.WideElems Go.Maps

section
variable {H : Type} {enc : TypeId × Value → H} {P : Program} {W : World}
theorem open_floor {base : Nat} {t e : TypeId} {f0 f1 f2 : Field} {v : Value} {d : DataW H} {p : List MemPlace} (hs : P.underlying t = some (.struct #[f0, f1, f2])) (hone : oneCellFields P #[f0, f1, f2] = true) (hC : P.cellsOf t = 3)
    (h0t : P.underlying f0.type = some (.int .i64)) (h1t : P.underlying f1.type = some (.int .i64)) (h2t : P.underlying f2.type = some (.slice e)) (he : P.underlying e = some (.int .u8)) (hc : P.cellsOf e = 1) (hb : P.bytesOf e = 1)
    (hv : Value.okWide P W .any base t v) (h : DataW.Trod enc P W 0 (fun _ => true) true t v d p) (lt : ∀ x ∈ p, x.block < W.heap.size) {ts : List TypeId} {ds : List (DataW H)}
    (hsz : (DataW.weightsEach P ts ds).all (· ≤ reachBytes) = true) {j : Nat} (htj : ts[j]? = some t) (hdj : ds[j]? = some d) :
    ∃ (a b : Int) (A : Option Addr) (n c : Nat) (l : List UInt8), v = .agg #[.int .i64 a, .int .i64 b, .slice A n c] ∧ (Lit.int .i64 a).wf = true ∧ (Lit.int .i64 b).wf = true ∧ Reads W W.heap.size 1 A n (bv l) ∧ n ≤ c ∧ c ≤ 140737488351232 := by
  obtain ⟨c0, c1, c2, y0, y1, y2, m, rfl, rfl, rfl, hy0, hy1, hy2⟩ := Go.Joins.open_agg3 hs hone hC hv h
  obtain ⟨x, e0, hx0, wx⟩ := DataW.trod_int h0t hy0
  obtain ⟨y, e1, hx1, wy⟩ := DataW.trod_int h1t hy1
  simp at e0 e1
  subst e0 e1
  obtain ⟨A, n, c, e2⟩ := Go.Joins.slice_form h2t hy2
  simp at e2
  subst e2
  have hsz' : (DataW.weightsEach P [f0.type, f1.type, f2.type] [y0.1, y1.1, y2.1]).all (· ≤ reachBytes) = true :=
    List.all_eq_true.2 fun k hk => List.all_eq_true.1 hsz k (DataW.weights_mem_each htj hdj k (by simpa [DataW.weights, hs] using hk))
  obtain ⟨l, hr, hnc, hcc⟩ := open_bytes (W := W) (enc := enc) h2t he hc hb (d := y2.1) (p := y2.2) ⟨m, by simpa [Value.cells] using hy2⟩ (fun z hz => lt z (by simp [hz])) hsz' (j := 2) rfl rfl
  exact ⟨x, y, A, n, c, l, rfl, wx, wy, hr, hnc, hcc⟩
end
end Go.Proofs.Ytcbghchciplfcaa
