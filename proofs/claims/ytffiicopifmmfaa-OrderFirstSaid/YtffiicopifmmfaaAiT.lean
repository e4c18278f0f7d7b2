/-
  From a call over abstract values to a row's walk: what is given is opened, what stays is told. Plain facts, no condition.
-/
import Derived.Test.YtffiicopifmmfaaAiS
namespace Go.Proofs.Ytffiicopifmmfaa.Ai
set_option linter.unusedSimpArgs false
set_option linter.unusedVariables false
set_option linter.unnecessarySimpa false
set_option linter.unusedSectionVars false
set_option linter.unusedVariables false
open Go.ChangeShapes Go.WideShapes Go.ChangeAt Go.RowKit Go.Deep

section
variable {P : Program} {W : World} {H : Type} {enc : TypeId × Value → H}

theorem PCall.calls {f : FuncId} {xs : List AV} {args : Array Value} (h : PCall P f xs (.bool true)) (hc : CArgs (InF W) W xs args) :
    Calls P f args W fun e W' => e = .returned (.bool true) ∧ Below W.heap.size W W' := by
  refine Calls.mono (h.run (InF W) W args (fun _ h => h) hc) ?_
  rintro e w' ⟨u, rfl, F', hg, _, _, hv⟩
  cases hv
  exact ⟨rfl, ⟨hg.os, hg.tape, hg.output, hg.size, fun k hk => hg.same k hk⟩⟩

theorem cargs_nil : CArgs (InF W) W [] #[] := ⟨rfl, by simp⟩
theorem cargs_of {xs : List AV} {l : List Value} (h : Vs W xs l) (hl : xs.length = l.length) : CArgs (InF W) W xs l.toArray := by
  refine ⟨by simp [hl], fun j x hj => ?_⟩
  have := h j x hj
  rwa [Array.getD_eq_getD_getElem?, List.getElem?_toArray, ← List.getD_eq_getElem?_getD]
theorem vs_nil : Vs W [] [] := fun j v hj => by simp at hj
theorem vs_cons {x : AV} {v : Value} {xs : List AV} {l : List Value} (h : VR (InF W) W (fun _ => (0, 0)) (fun _ => False) x v) (hs : Vs W xs l) : Vs W (x :: xs) (v :: l) := fun j y hj => by
  cases j with
  | zero => simp at hj; subst hj; exact h
  | succ j => exact hs j y (by simpa using hj)

theorem weights_of {t : TypeId} {d : DataW H} {ts : List TypeId} {ds : List (DataW H)} (hsz : (DataW.weightsEach P ts ds).all (· ≤ reachBytes) = true) {j : Nat} (htj : ts[j]? = some t) (hdj : ds[j]? = some d) : ∀ k ∈ d.weights P t, k ≤ reachBytes :=
  fun k hk => by have := List.all_eq_true.1 hsz k (DataW.weights_mem_each htj hdj k hk); simpa using this

theorem open_struct_arg {n base : Nat} {t : TypeId} {fs : Array Field} {v : Value} {d : DataW H} {p : List MemPlace} (hs : P.underlying t = some (.struct fs)) (hp : plainT P n t = true) (hv : Value.okWide P W .any base t v)
    (h : DataW.Trod enc P W 0 (fun _ => true) true t v d p) {ts : List TypeId} {ds : List (DataW H)} (hsz : (DataW.weightsEach P ts ds).all (· ≤ reachBytes) = true) {j : Nat} (htj : ts[j]? = some t) (hdj : ds[j]? = some d) :
    ∃ xs, Dat P t xs ∧ VR (InF W) W (fun _ => (0, 0)) (fun _ => False) (.agg xs) v := by
  obtain ⟨cs, rfl, hcs⟩ := okWide_struct hs hv
  obtain ⟨m, hm⟩ := h
  obtain ⟨xs, h1, h2, h3⟩ := open_dat n t m cs.toList _ hp (by simpa [Value.cells] using hm) (weights_of hsz htj hdj)
  refine ⟨xs, h1, .agg xs cs (by simpa using h2.symm) fun j v hj => ?_⟩
  have := h3 j v hj
  rw [List.getD_eq_getElem?_getD] at this
  rw [Array.getD_eq_getD_getElem?]
  simpa using this

theorem open_slice_arg {n base : Nat} {t e : TypeId} {v : Value} {d : DataW H} {p : List MemPlace} (hs : P.underlying t = some (.slice e)) (hp : plainT P n t = true) (hv : Value.okWide P W .any base t v)
    (h : DataW.Trod enc P W 0 (fun _ => true) true t v d p) {ts : List TypeId} {ds : List (DataW H)} (hsz : (DataW.weightsEach P ts ds).all (· ≤ reachBytes) = true) {j : Nat} (htj : ts[j]? = some t) (hdj : ds[j]? = some d) :
    ∃ x, Dat P t [x] ∧ VR (InF W) W (fun _ => (0, 0)) (fun _ => False) x v := by
  obtain ⟨a, len, cap, rfl⟩ := okWide_slice hs hv
  obtain ⟨m, hm⟩ := h
  obtain ⟨xs, h1, h2, h3⟩ := open_dat n t m [_] _ hp (by simpa [Value.cells] using hm) (weights_of hsz htj hdj)
  match xs, h2 with
  | [x], _ => exact ⟨x, h1, h3 0 x rfl⟩

theorem Dat.int_inv {t : TypeId} {k : IntKind} {xs : List AV} (hu : P.underlying t = some (.int k)) (h : Dat P t xs) : ∃ n, xs = [.int k n] ∧ (Lit.int k n).wf = true := by
  cases h with
  | int h hw => rw [hu] at h; cases h; exact ⟨_, rfl, hw⟩
  | bool h => rw [hu] at h; cases h
  | str h _ => rw [hu] at h; cases h
  | slice h _ _ _ => rw [hu] at h; cases h
  | agg h _ _ => simp [parts, hu] at h
theorem Dat.bool_inv {t : TypeId} {xs : List AV} (hu : P.underlying t = some .bool) (h : Dat P t xs) : ∃ b, xs = [.bool b] := by
  cases h with
  | int h hw => rw [hu] at h; cases h
  | bool h => exact ⟨_, rfl⟩
  | str h _ => rw [hu] at h; cases h
  | slice h _ _ _ => rw [hu] at h; cases h
  | agg h _ _ => simp [parts, hu] at h
theorem Dat.str_inv {t : TypeId} {xs : List AV} (hu : P.underlying t = some .string) (h : Dat P t xs) : ∃ s, xs = [.str s] ∧ s.size ≤ maxLen := by
  cases h with
  | int h hw => rw [hu] at h; cases h
  | bool h => rw [hu] at h; cases h
  | str h hw => exact ⟨_, rfl, hw⟩
  | slice h _ _ _ => rw [hu] at h; cases h
  | agg h _ _ => simp [parts, hu] at h
theorem Dat.slice_inv {t e : TypeId} {xs : List AV} (hu : P.underlying t = some (.slice e)) (h : Dat P t xs) :
    ∃ es, xs = [.ros (P.cellsOf e) es] ∧ es.length * P.bytesOf e ≤ reachBytes ∧ es.length ≤ maxLen ∧ ∀ x ∈ es, Dat P e x := by
  cases h with
  | int h hw => rw [hu] at h; cases h
  | bool h => rw [hu] at h; cases h
  | str h hw => rw [hu] at h; cases h
  | slice h h1 h2 h3 => rw [hu] at h; cases h; exact ⟨_, rfl, h1, h2, h3⟩
  | agg h _ _ => simp [parts, hu] at h
theorem Dat.parts_inv {t : TypeId} {l : List (Nat × TypeId)} {xs : List AV} (hu : parts P t = some l) (h : Dat P t xs) :
    xs.length = P.cellsOf t ∧ ∀ (i o : Nat) (u : TypeId), l[i]? = some (o, u) → Dat P u ((xs.drop o).take (P.cellsOf u)) := by
  cases h with
  | int h hw => simp [parts, h] at hu
  | bool h => simp [parts, h] at hu
  | str h hw => simp [parts, h] at hu
  | slice h h1 h2 h3 => simp [parts, h] at hu
  | agg h hl hx => rw [hu] at h; cases h; exact ⟨hl, hx⟩
end
end Go.Proofs.Ytffiicopifmmfaa.Ai
