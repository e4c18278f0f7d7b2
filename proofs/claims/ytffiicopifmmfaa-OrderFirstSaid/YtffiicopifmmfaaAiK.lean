/-
  What the operations give, the model gives: all pure operations in one. Plain facts, no condition.
-/
import Derived.Test.YtffiicopifmmfaaAiJ
namespace Go.Proofs.Ytffiicopifmmfaa.Ai
set_option linter.unusedSimpArgs false
set_option linter.unusedVariables false
set_option linter.unnecessarySimpa false
set_option linter.unusedSectionVars false
set_option linter.unusedVariables false
set_option linter.unusedSimpArgs false

section
variable {F : Nat → Prop} {w : World} {p : Place} {D : Nat → Prop} {e : Env} {rows : Rows} {P : Program} {k : Nat}

theorem run_v {s : Sem Value} {u : Value} {w' : World} (h : s.run P w = .ok u w') : (do pure (Next.value (← s)) : Sem Next).run P w = .ok (.value u) w' := by
  simp [h]

theorem boolIs {v : AV} {u : Value} (h : VR F w p D v u) (hc : boolC v) : ∃ b, v = .bool b ∧ u = .bool b := by
  cases h <;> first | exact ⟨_, rfl, rfl⟩ | exact hc.elim
theorem intOf' {v : AV} {u : Value} (h : VR F w p D v u) (hc : intIs v) : ∃ k n, v = .int k n ∧ u = .int k n := by
  cases h <;> first | exact ⟨_, _, rfl, rfl⟩ | exact hc.elim
theorem strOf {v : AV} {u : Value} (h : VR F w p D v u) (hc : strIs v) : ∃ s, v = .str s ∧ u = .string s := by
  cases h <;> first | exact ⟨_, rfl, rfl⟩ | exact hc.elim
theorem aggOf {cs : List AV} {u : Value} (h : VR F w p D (.agg cs) u) : ∃ us, u = .agg us ∧ CellsOK F w p D cs us := by
  cases h with | agg _ us hs h => exact ⟨us, rfl, hs, h⟩
theorem tupOf {cs : List AV} {u : Value} (h : VR F w p D (.tup cs) u) : ∃ us, u = .tuple us ∧ CellsOK F w p D cs us := by
  cases h with | tup _ us hs h => exact ⟨us, rfl, hs, h⟩

theorem list_ok {ρ : Operand → Value} {xs : Array Operand} {ys : List Opd} (h : mapO opd xs.toList = some ys) (ho : ∀ x ∈ xs, ∀ y, opd x = some y → VR F w p D (ev e y) (ρ x)) (hl : allLv e ys) :
    CellsOK F w p D (ys.map (sv e)) (xs.map ρ) := by
  obtain ⟨h1, h2⟩ := mapO_some h
  have hall : ∀ {ys : List Opd}, allLv e ys → ∀ y ∈ ys, lv e y := by
    intro ys
    induction ys with
    | nil => intro _ y hy; cases hy
    | cons a l ih => intro hl y hy; rcases List.mem_cons.1 hy with rfl | hy; exact hl.1; exact ih hl.2 y hy
  refine ⟨by simp [h1], fun j v hj => ?_⟩
  rw [List.getElem?_map] at hj
  cases hy : ys[j]? with
  | none => rw [hy] at hj; cases hj
  | some y =>
    rw [hy] at hj; cases hj
    have hlt : j < xs.size := by have := (List.getElem?_eq_some_iff.1 hy).1; simp at h1; omega
    obtain ⟨z, h3, h4⟩ := h2 j xs[j] (by simp [hlt])
    rw [hy] at h4; cases h4
    have : (xs.map ρ).getD j undef = ρ xs[j] := by simp [hlt]
    rw [this]
    exact (ho _ (by simp) y h3).sv (hall hl y (List.mem_of_getElem? hy))

theorem bnd_ok {ρ : Operand → Value} {lo : Option Operand} {lo' : Option Opd} {d : Nat} (h : optOpd lo = some lo') (ho : ∀ x, lo = some x → ∀ y, opd x = some y → VR F w p D (ev e y) (ρ x)) (hl : boundL e lo') :
    (lo.map ρ = none ∧ bound e d lo' = .int .i64 d) ∨ ∃ x, lo.map ρ = some x ∧ VR F w p D (bound e d lo') x := by
  cases lo with
  | none => simp only [optOpd, Option.some.injEq] at h; subst h; exact .inl ⟨rfl, rfl⟩
  | some x =>
    simp only [optOpd] at h
    cases hx : opd x with
    | none => rw [hx] at h; cases h
    | some y => rw [hx] at h; cases h; exact .inr ⟨ρ x, rfl, (ho x rfl y hx).sv hl⟩

theorem VR.sel {t : Bool} {a b : AV} {ua ub : Value} (ha : t = true → VR F w p D a ua) (hb : t = false → VR F w p D b ub) : VR F w p D (sel t a b) (if t then ua else ub) := by
  cases t with
  | true =>
    have ha := ha rfl
    simp only [if_true]
    cases a <;> cases b <;> first | exact ha | skip
    all_goals simpa [Ai.sel] using ha
  | false =>
    have hb := hb rfl
    simp only [Bool.false_eq_true, if_false]
    cases a <;> cases b <;> first | exact hb | skip
    all_goals simpa [Ai.sel] using hb
end
end Go.Proofs.Ytffiicopifmmfaa.Ai
