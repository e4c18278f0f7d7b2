/-
  CFGUPTO: what the bound on the arguments' bulk says of a team.
-/
import Derived.Test.YtcbghchciplfcaaCfgFrame
import Derived.Test.YtcbghchciplfcaaRows
import Derived.Deep.CondSized
namespace Go.Proofs.Ytcbghchciplfcaa
set_option linter.unusedVariables false
set_option linter.unusedSimpArgs false
set_option maxRecDepth 100000
open Go.ChangeShapes Go.WideShapes Go.ChangeAt Go.RowKit Go.Deep Go.WideElems Go.Maps

section
variable {H : Type} {enc : TypeId × Value → H} {W : World}
theorem bulk_pos (d : DataW H) : 1 ≤ Rows.uptoBulk d := by
  cases d with
  | lit l => cases l <;> simp [Rows.uptoBulk]
  | _ => simp [Rows.uptoBulk]
theorem bulk_len (l : List (DataW H)) : l.length ≤ Rows.uptoBulkAll l := by
  induction l with
  | nil => simp [Rows.uptoBulkAll]
  | cons x r ih => have := bulk_pos x; simp only [Rows.uptoBulkAll, List.length_cons]; omega
theorem bulk_part {l : List (DataW H)} {j : Nat} {d : DataW H} (h : l[j]? = some d) : Rows.uptoBulk d ≤ Rows.uptoBulkAll l := by
  induction l generalizing j with
  | nil => simp at h
  | cons x r ih =>
    simp only [Rows.uptoBulkAll]
    cases j with
    | zero => simp at h; subst h; omega
    | succ j => simp at h; have := ih h; omega
theorem bulk_small {ds : List (DataW H)} (h : Rows.uptoSmall H ds = true) {j : Nat} {d : DataW H} (hd : ds[j]? = some d) : Rows.uptoBulk d ≤ 1048576 := by
  have h1 := of_decide_eq_true h
  exact Nat.le_trans (bulk_part hd) h1
theorem bulk_row {P : Program} {t e : TypeId} (ht : P.underlying t = some (.slice e)) {fuel : Nat} {A : Option Addr} {n c : Nat} {x : DataW H × List MemPlace} (hf : DataW.trod enc P W 0 (fun _ => true) true fuel t [.slice A n c] = some x) : n ≤ Rows.uptoBulk x.1 := by
  rcases open_slice ht hf with ⟨h, hx⟩ | ⟨a, n', c', m, q, D, Pl, h, _, hl, hm, hmm, rfl, hx⟩
  · injection h with h
    injection h with _ h _
    omega
  · injection h with h
    injection h with _ h _
    subst h
    simp only [Rows.uptoBulk]
    have := bulk_len ((List.range n).map D)
    simp at this
    omega
theorem team_bulk {m : Tm} {d : DataW H} {p : List MemPlace} (h : DataW.Trod enc Try.prog W 0 (fun _ => true) true 24 m.val d p) : m.hn + m.pn + m.dn ≤ Rows.uptoBulk d := by
  have hs := Try.underlying24
  obtain ⟨fuel, hf⟩ := h
  have hf' : DataW.trod enc Try.prog W 0 (fun _ => true) true fuel 24 m.cells = some (d, p) := hf
  obtain ⟨xs, n, rfl, hx0, hl, hxl, hx⟩ := DataW.trod_struct hs hf'
  simp only [Prod.mk.injEq] at hx0
  obtain ⟨rfl, rfl⟩ := hx0
  obtain ⟨x0, x1, x2, x3, x4, x5, x6, x7, rfl⟩ := eight hxl
  have h0 := hx 0 _ rfl; have h1 := hx 1 _ rfl; have h2 := hx 2 _ rfl
  clear hx hf hf'
  simp [cI', Tm.cells] at h0 h1 h2
  have b0 := bulk_row Try.underlying22 h0
  have b1 := bulk_row Try.underlying22 h1
  have b2 := bulk_row Try.underlying22 h2
  simp only [Rows.uptoBulk, List.map, Rows.uptoBulkAll]
  omega
end
end Go.Proofs.Ytcbghchciplfcaa
