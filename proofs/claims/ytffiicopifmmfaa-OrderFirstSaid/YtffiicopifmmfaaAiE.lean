/-
  What the operations give, the model gives: the pure ones, first part. Plain facts, no condition.
-/
import Derived.Test.YtffiicopifmmfaaAiD
import Derived.Laws.Cells
import Derived.Laws.Entries
import Derived.ChangeKeysEq
namespace Go.Proofs.Ytffiicopifmmfaa.Ai
set_option linter.unusedSimpArgs false
set_option linter.unusedVariables false
set_option linter.unnecessarySimpa false
set_option linter.unusedSectionVars false
set_option linter.unusedVariables false

section
variable {F : Nat → Prop} {w : World} {p : Place} {D : Nat → Prop} {e : Env} {rows : Rows} {P : Program}

theorem vr_ofVal0 {v : Value} {a : AV} (h : ofVal0 v = some a) : VR F w p D a v := by
  unfold ofVal0 at h
  split at h <;> simp only [Option.some.injEq, reduceCtorEq] at h <;> subst h
  · exact .bool _
  · exact .int _ _
  · exact .str _
  · exact .nilp
  · exact .nils
  · exact .nilf
  · exact .nili
  · exact .nilm

theorem vr_list {cs : List AV} {us : Array Value} (h : mapO ofVal0 us.toList = some cs) : us.size = cs.length ∧ ∀ j v, cs[j]? = some v → VR F w p D v (us.getD j undef) := by
  obtain ⟨h1, h2⟩ := mapO_some h
  refine ⟨by simp [h1], fun j v hj => ?_⟩
  have hlt : j < us.size := by
    have := (List.getElem?_eq_some_iff.1 hj).1
    rw [h1] at this; simpa using this
  obtain ⟨y, h3, h4⟩ := h2 j us[j] (by simp [hlt])
  rw [hj] at h4; cases h4
  have : us.getD j undef = us[j] := by simp [hlt]
  rw [this]
  exact vr_ofVal0 h3

theorem vr_ofVal {v : Value} {a : AV} (h : ofVal v = some a) : VR F w p D a v := by
  unfold ofVal at h
  split at h
  · rename_i cs
    cases hm : mapO ofVal0 cs.toList with
    | none => rw [hm] at h; cases h
    | some r =>
      rw [hm] at h; cases h
      obtain ⟨h1, h2⟩ := vr_list (F := F) (w := w) (p := p) (D := D) hm
      exact .agg _ _ h1 h2
  · exact vr_ofVal0 h

theorem vr_opd {N : Nat} {a : Act} (he : ERel N F w p D e a.tmps) {x : Operand} {y : Opd} (h : opd x = some y) : VR F w p D (ev e y) (a.eval x) := by
  cases x with
  | tmp t => simp only [opd, Option.some.injEq] at h; subst h; exact he.val t
  | const v =>
    simp only [opd] at h
    cases hv : ofVal v with
    | none => rw [hv] at h; cases h
    | some z => rw [hv] at h; cases h; exact vr_ofVal hv
  | func f => simp only [opd, Option.some.injEq] at h; subst h; exact .fn _ _ _ _ _ rfl rfl (by simp) (by simp)
  | global g => cases h

theorem vr_strip : ∀ {v : AV} {u : Value}, VR F w p D v u → v.live → VR F w p D v.strip u := by
  intro v u h
  induction h with
  | opt t v u h1 h2 ih =>
    intro hl
    exact ih hl.1 hl.2
  | _ =>
    intro hl
    constructor <;> assumption

theorem strip_live : ∀ v : AV, v.strip.live := by
  intro v
  induction v using AV.strip.induct with
  | case1 t v ih => simpa [AV.strip] using ih
  | case2 v h => cases v <;> first | trivial | exact absurd rfl (h _ _)

/-- The block behind an immutable or a row's pointer, as far as is asked. -/
theorem rd_sound (hs : SRel F w p D rows) {v : AV} {u : Value} {sz : Nat} (hv : VR F w p D v u) (h : rdc rows v sz) :
    ∃ (b o : Nat) (c : Array Value) (t : TypeId) (fz : Nat × Nat), u = .pointer (some ⟨b, o, none⟩) ∧ w.heap[b]? = some (.cells c t fz) ∧ o + sz ≤ c.size ∧ (rdv rows v sz).length = sz ∧
      ∀ j x, (rdv rows v sz)[j]? = some x → VR F w p D x (c.getD (o + j) undef) := by
  cases hv with
  | rop cs b o c t fz hb hF hr hh =>
    simp only [rdc] at h
    refine ⟨b, o, c, t, fz, rfl, hb, by omega, by simp [rdv]; omega, fun j x hj => hh j x ?_⟩
    simp only [rdv, List.getElem?_take] at hj
    split at hj
    · exact hj
    · cases hj
  | pt id q i off hid =>
    simp only [rdc] at h
    cases hl : look rows id with
    | none => rw [hl] at h; exact h.elim
    | some r =>
      rw [hl] at h
      obtain ⟨rfl, hi, ho⟩ := h
      obtain ⟨_, hnF, hok⟩ := hs.row id r hl
      obtain ⟨c, t, fz, hb, hf, hr, hh⟩ := hok.ex
      have hlen : (r.es.getD i []).length = r.sz := by
        simp only [List.getD, List.getElem?_eq_getElem hi, Option.getD_some]
        exact hok.sz _ (List.getElem_mem hi)
      have hmul : (i + 1) * r.sz ≤ r.es.length * r.sz := Nat.mul_le_mul_right _ hi
      have hmul' : (i + 1) * r.sz = i * r.sz + r.sz := by rw [Nat.add_mul, Nat.one_mul]
      refine ⟨_, _, c, t, fz, rfl, hb, by omega, by simp [rdv, hl]; rw [List.getD_eq_getElem?_getD] at hlen; omega, fun j x hj => ?_⟩
      simp only [rdv, hl, List.getElem?_take, List.getElem?_drop] at hj
      split at hj
      · have hx : r.es[i]? = some (r.es.getD i []) := by simp [List.getD, List.getElem?_eq_getElem hi]
        have := hh i _ (off + j) x hx hj
        rwa [show (p id).2 + i * r.sz + (off + j) = (p id).2 + i * r.sz + off + j by omega] at this
      · cases hj
  | _ => exact h.elim

theorem cell_of {b o : Nat} {c : Array Value} {t : TypeId} {fz : Nat × Nat} (hb : w.heap[b]? = some (.cells c t fz)) (h : o < c.size) : w.cell? ⟨b, o, none⟩ = some (c.getD o undef) := by
  simp [World.cell?, hb, h]

theorem add_none (b o n : Nat) : (Addr.add ⟨b, o, none⟩ n) = ⟨b, o + n, none⟩ := by
  unfold Addr.add; split
  · subst_vars; rfl
  · rfl

theorem run_loadCells_of {b o sz : Nat} {c : Array Value} {t : TypeId} {fz : Nat × Nat} (hb : w.heap[b]? = some (.cells c t fz)) (h : o + sz ≤ c.size) :
    (loadCells ⟨b, o, none⟩ sz).run P w = .ok ((List.range sz).map fun j => c.getD (o + j) undef).toArray w :=
  run_loadCells w _ _ _ fun j hj => by rw [add_none]; exact cell_of hb (by omega)

theorem getD_mapRange (f : Nat → Value) (n j : Nat) (h : j < n) : (((List.range n).map f).toArray).getD j undef = f j := by
  simp [h]

theorem run_typeInfo {t : TypeId} {i : TypeInfo} (h : P.info? t = some i) (w : World) : (typeInfo t).run P w = .ok i w := by
  simp [typeInfo, program, Sem.run, h]
theorem run_sizeAt {t : TypeId} {n : Nat} (h : sizeAt P t = some n) (w : World) : (sizeOf t).run P w = .ok n w := by
  unfold sizeAt at h
  cases hi : P.info? t with
  | none => rw [hi] at h; cases h
  | some i => rw [hi] at h; cases h; simp [sizeOf, run_typeInfo hi]
theorem run_isAgg {t : TypeId} {g : Bool} (h : isAggT P t = some g) (w : World) : (isAgg t).run P w = .ok g w := by
  unfold isAggT at h
  cases hd : P.underlying t with
  | none => rw [hd] at h; cases h
  | some d =>
    rw [hd] at h; simp only [Option.map_some, Option.some.injEq] at h
    simp only [isAgg, Sem.run_bind, run_underlying hd, Result.andThen_ok]
    subst h
    cases d <;> rfl
theorem run_zero {t : TypeId} {z : List AV} (h : zeroOf P t = some z) (w : World) : ∃ v, (zeroValue t).run P w = .ok v w ∧ mapO ofVal0 v.cells.toList = some z := by
  unfold zeroOf at h
  cases hi : P.info? t with
  | none => rw [hi] at h; cases h
  | some i =>
    rw [hi] at h
    cases hz : i.zero with
    | none => rw [Option.bind_some, hz] at h; cases h
    | some v =>
      rw [Option.bind_some, hz] at h
      exact ⟨v, by simp [zeroValue, run_typeInfo hi, hz], h⟩

/-- A load, done. -/
theorem ld_sound (hs : SRel F w p D rows) {v : AV} {u : Value} {sz : Nat} {g : Bool} {t : TypeId} (hv : VR F w p D v u) (hc : rdc rows v sz) (hg : isAggT P t = some g) (hz : sizeAt P t = some sz)
    (h1 : g = true ∨ sz = 1) : ∃ u', (Instr.loadAt t u).run P w = .ok u' w ∧ VR F w p D (bif g then .agg (rdv rows v sz) else (rdv rows v sz).headD .any) u' := by
  obtain ⟨b, o, c, ty, fz, rfl, hb, hr, hlen, hh⟩ := rd_sound hs hv hc
  simp only [Instr.loadAt, Instr.sureAddr, Sem.run_bind, Sem.run_pure, Result.andThen_ok, loadVar, run_isAgg hg]
  cases g with
  | true =>
    simp only [if_true, Sem.run_bind, run_sizeAt hz, Result.andThen_ok, run_loadCells_of hb hr, Sem.run_pure, cond_true]
    refine ⟨_, rfl, .agg _ _ (by simp [hlen]) fun j x hj => ?_⟩
    have hj' : j < sz := by have := (List.getElem?_eq_some_iff.1 hj).1; omega
    rw [getD_mapRange _ _ _ hj']
    exact hh j x hj
  | false =>
    have h1 : sz = 1 := h1.resolve_left (by simp)
    subst h1
    simp only [Bool.false_eq_true, if_false, run_load, cell_of hb (show o < c.size by omega), cond_false]
    refine ⟨_, rfl, ?_⟩
    match hm : rdv rows v 1, hlen with
    | [x], _ => exact hh 0 x (by rw [hm]; rfl)
end
end Go.Proofs.Ytffiicopifmmfaa.Ai
