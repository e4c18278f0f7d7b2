/-
  ARR: laws on arrays as values and as variables.
-/
import Derived.Test.YtcbghchciplfcaaWords
import Derived.Laws.Tables
import Derived.Laws.Rows
import Derived.Laws.CopyOwn
import Derived.Laws.PanicsMore
import Derived.Laws.IdiomCopy
import Derived.Laws.ResultCell
namespace Go.Proofs.Ytcbghchciplfcaa
set_option linter.unusedVariables false
set_option linter.unusedSimpArgs false
set_option maxRecDepth 100000
open Go.RowKit

section
variable {P : Program}
/-- A new variable of an array type, its zeros behind a name. -/
theorem wpList_alloc_named {w : World} {ops : Array Oper} {rest : List Oper} {o : Oper} {a : Act} {Q : Exit → Act → World → Prop} (hgd : o.guard = none) (ty : TypeId) (ho : o.op = .alloc ty) (zs : Array Value)
    (hz : ∀ w : World, (Instr.alloc ty true (.tuple #[])).run P w = .ok (.pointer (some ⟨w.heap.size, 0, none⟩)) (w.alloc (.cells zs ty)))
    (h : wpList P ops Q rest (a.put o.dst (.pointer (some ⟨w.heap.size, 0, none⟩))) (w.alloc (.cells zs ty))) : wpList P ops Q (o :: rest) a w :=
  wpList_plain hgd fun K hK => by
    unfold Oper.wp execOp
    simp only [ho, Sem.run_bind, hz, Result.andThen_ok, Sem.run_pure]
    exact hK _ _ h
/-- An array value, read at an index. -/
theorem run_index_agg (w : World) (t e : TypeId) (n : Nat) (cs : Array Value) (k kk : IntKind) (j : Nat) (v : Value) (i0 : TypeInfo) (ht : P.underlying t = some (.array n e)) (he : P.underlying e = some (.int kk)) (hi : P.info? e = some i0) (hs : i0.size = 1) (hv : cs[j]? = some v) (hj : j < n) :
    (Instr.index t (.agg cs) (.int k (j : Int))).run P w = .ok v w := by
  have hb : 0 ≤ (j : Int) ∧ (j : Int) < (n : Int) := by omega
  have hj2 : ((j : Int)).toNat = j := by omega
  simp [Instr.index, asIntOf, run_underlying ht, hb, sizeOf, typeInfo, hi, hs, part, isAgg, run_underlying he, hv]
  omega
end
theorem Blk.row {w : World} {g : Nat} {t : TypeId} {cs : Array Value} (h : Blk w g t cs) (cs' : Array Value) : Blk (w.setRow g cs') g t cs' := setRow_heap w g cs cs' t (0, 0) h
theorem Blk.rowFar {w : World} {g g' : Nat} {t : TypeId} {cs : Array Value} (h : Blk w g t cs) (hne : g ≠ g') (cs' : Array Value) : Blk (w.setRow g' cs') g t cs := (setRow_other w g' g cs' hne).trans h
theorem only_setRow {a w : World} {g : Nat} (h : a.grownBy w (some g)) (cs : Array Value) : a.grownBy (w.setRow g cs) (some g) :=
  ⟨h.os, h.tape, h.output, by simpa using h.size, fun i hi hne => (setRow_other w g i cs (fun e => hne (by rw [e]))).trans (h.block i hi hne)⟩

/-- 'copy(arr[:], xs)': a whole array variable, the source whatever. -/
theorem wpList_copy_arr {P : Program} {w : World} {ops : Array Oper} {rest : List Oper} {o : Oper} {a : Act} {Q : Exit → Act → World → Prop} (hgd : o.guard = none) (d s : Operand) (dT sT : TypeId)
    (ho : o.op = .call { callee := .builtin .copy, args := #[d, s], argTypes := #[dT, sT] }) (elem : TypeId) (hu : P.underlying dT = some (.slice elem)) (hsz : (P.info? elem).map (·.size) = some 1)
    (g dLen dCap : Nat) (A : Option Addr) (m c : Nat) (hd : a.eval d = .slice (some ⟨g, 0, none⟩) dLen dCap) (hs : a.eval s = .slice A m c)
    (t : TypeId) (cur : Array Value) (hB : Blk w g t cur) (hcur : cur.size = dLen) (B : Nat) (xs : List Value) (hr : Reads w B 1 A m xs) (h1 : ∀ v ∈ xs, v.oneCell' = true)
    (h : ∀ w', Blk w' g t (xs.take dLen ++ cur.toList.drop (min m dLen)).toArray → w.grownBy w' (some g) → wpList P ops Q rest (a.put o.dst (goInt (min m dLen : Nat))) w') : wpList P ops Q (o :: rest) a w := by
  have hxl : xs.length = m := by have := hr.1; simpa using this
  have hcl : (xs.take dLen).length = Nat.min m dLen := by rw [List.length_take, hxl, Nat.min_comm]
  by_cases h0 : Nat.min m dLen = 0
  · refine wpList_copy_nothing hgd d s dT sT ho elem hu hsz _ _ dLen dCap m c hd hs h0 ?_
    have h0' : min m dLen = 0 := h0
    have hn : xs.take dLen = [] := List.eq_nil_of_length_eq_zero (by rw [hcl, h0])
    have := h w (by rw [hn, h0']; simpa using hB) (World.grownBy.refl w _)
    rw [h0'] at this
    exact this
  · have hm : 0 < m := by
      rcases Nat.eq_zero_or_pos m with e | e
      · subst e; exact absurd (Nat.zero_min _) h0
      · exact e
    obtain ⟨ad, rfl, _, hc⟩ := hr.2 hm
    have hmd : Nat.min m dLen ≤ dLen := Nat.min_le_right _ _
    refine wpList_copy_own hgd d s dT sT ho elem hu hsz g 0 dLen dCap ad m c hd hs cur t hB (xs.take dLen) hcl (fun j v hj => ?_) (by omega) (fun v hv => h1 v (List.mem_of_mem_take hv)) ?_
    · rw [List.getElem?_take] at hj
      split at hj
      · exact hc j v hj
      · cases hj
    · have e : (List.take 0 cur.toList ++ (xs.take dLen ++ List.drop (0 + (xs.take dLen).length) cur.toList)).toArray = (xs.take dLen ++ cur.toList.drop (min m dLen)).toArray := by
        rw [hcl, List.take_zero, List.nil_append, Nat.zero_add]
      rw [e, hcl]
      exact h _ (hB.row _) (only_setRow (World.grownBy.refl w _) _)

/-- Two results, the first an array or struct that lies in a variable. -/
theorem results_row_tmp {P : Program} {fn : Func} {p u : Tmp} {ty : TypeId} (h : fn.results = #[.cell p ty, .tmp u]) (tmps : Array Value) (w : World) (g : Nat) (t : TypeId) (cs : Array Value) (fr : Nat × Nat) (d : TypeDesc)
    (hp : tmps.getD p undef = .pointer (some ⟨g, 0, none⟩)) (hg : w.heap[g]? = some (.cells cs t fr))
    (hu : P.underlying ty = some d) (hd : (match d with | .struct _ | .array _ _ => true | _ => false) = true) (hi : (P.info? ty).map (·.size) = some cs.size) :
    (results fn tmps).run P w = .ok (.tuple #[.agg cs, tmps.getD u undef]) w := by
  rw [results_cell_tmp h, hp]
  have ha : (asAddr (.pointer (some ⟨g, 0, none⟩))).run P w = .ok ⟨g, 0, none⟩ w := rfl
  rw [ha]
  simp only [Result.andThen_ok, run_loadVar_row w g t ty cs fr d hg hu hd hi]
end Go.Proofs.Ytcbghchciplfcaa
