/-
  What the operations give, the model gives: the pure ones, fourth part. Plain facts, no condition.
-/
import Derived.Test.YtffiicopifmmfaaAiG
namespace Go.Proofs.Ytffiicopifmmfaa.Ai
set_option linter.unusedSimpArgs false
set_option linter.unusedVariables false
set_option linter.unnecessarySimpa false
set_option linter.unusedSectionVars false
set_option linter.unusedVariables false

section
variable {F : Nat → Prop} {w : World} {p : Place} {D : Nat → Prop} {e : Env} {rows : Rows} {P : Program} {k : Nat}

theorem splice_length {cs part : List AV} {off : Nat} (h : off + part.length ≤ cs.length) : (splice cs off part).length = cs.length := by
  simp [splice]; omega

/-- The parts of a literal, filled in one by one. -/
theorem fill_sound {ρ : Operand → Value} (place : Nat → Option (Nat × Nat)) : ∀ (ps : List (Nat × Operand)) (qs : List (Nat × Nat × Opd)) (cs : List AV) (us : Array Value),
    CellsOK F w p D cs us → (∀ x ∈ ps, ∀ y, opd x.2 = some y → VR F w p D (ev e y) (ρ x.2)) →
    qs.length = ps.length → (∀ (j : Nat) (x : Nat × Operand), ps[j]? = some x → ∃ off sz y, qs[j]? = some (off, sz, y) ∧ place x.1 = some (off, sz) ∧ opd x.2 = some y) →
    partsC e cs.length qs → ∃ us', Instr.fill place us (ps.map fun x => (x.1, ρ x.2)) = some us' ∧ CellsOK F w p D (partsV e cs qs) us' := by
  intro ps
  induction ps with
  | nil =>
    intro qs cs us h _ hl _ _
    cases qs with
    | nil => exact ⟨us, rfl, h⟩
    | cons => simp at hl
  | cons x ps ih =>
    intro qs cs us h hx hl hq hc
    cases qs with
    | nil => simp at hl
    | cons q qs =>
      obtain ⟨off, sz, y, h1, h2, h3⟩ := hq 0 x (by simp)
      simp only [List.getElem?_cons_zero, Option.some.injEq] at h1
      subst h1
      obtain ⟨⟨c1, c2, c3, c4⟩, hc'⟩ := hc
      have hv := (hx x (by simp) y h3).sv c1
      obtain ⟨k1, k2⟩ := known_cells hv c2
      have hf := CellsOK.fill h ⟨k1, k2⟩ (off := off) (by omega)
      simp only [List.map_cons, Instr.fill, h2]
      rw [if_neg (by have := h.1; simp; omega)]
      refine ih qs _ _ hf (fun x hm => hx x (by simp [hm])) (by simpa using hl) (fun j x hj => ?_) (by rwa [splice_length (by omega)])
      simpa using hq (j + 1) x (by simpa using hj)

theorem mapO_map {α β : Type} {f : α → Option β} {l : List α} {r : List β} (h : mapO f l = some r) : r.length = l.length ∧ ∀ (j : Nat) (x : α), l[j]? = some x → ∃ y, r[j]? = some y ∧ f x = some y := by
  obtain ⟨h1, h2⟩ := mapO_some h
  exact ⟨h1, fun j x hj => let ⟨y, a, b⟩ := h2 j x hj; ⟨y, b, a⟩⟩

theorem run_places : ∀ (fs : List Field) (ns : List Nat), mapO (fun f => sizeAt P f.type) fs = some ns →
    (fs.mapM fun f => do pure (f.offset, ← sizeOf f.type) : Sem (List (Nat × Nat))).run P w = .ok (fs.map fun f => (f.offset, (sizeAt P f.type).getD 0)) w
  | [], _, _ => by simp
  | f :: fs, ns, h => by
    simp only [mapO] at h
    split at h
    · rename_i a b ha hb
      have ih := run_places fs b hb
      simp only [List.mapM_cons, Sem.run_bind, run_sizeAt ha, Result.andThen_ok, Sem.run_pure, ih, List.map_cons, ha, Option.getD_some]
    · cases h
theorem run_placesA {fs : Array Field} {ns : List Nat} (h : mapO (fun f => sizeAt P f.type) fs.toList = some ns) :
    (fs.mapM fun f => do pure (f.offset, ← sizeOf f.type) : Sem (Array (Nat × Nat))).run P w = .ok (fs.map fun f => (f.offset, (sizeAt P f.type).getD 0)) w := by
  rw [Array.mapM_eq_mapM_toList, Sem.run_map, run_places fs.toList ns h]
  simp only [Result.andThen_ok]
  congr 1
  apply Array.ext'; simp

/-- Rows of equal elements, flat. -/
theorem flat_get {sz : Nat} : ∀ {es : List (List AV)}, (∀ x ∈ es, x.length = sz) → es.flatten.length = es.length * sz ∧ ∀ i x j v, es[i]? = some x → x[j]? = some v → es.flatten[i * sz + j]? = some v
  | [], _ => ⟨by simp, fun i x j v h => by simp at h⟩
  | y :: es, h => by
    have hy := h y (by simp)
    obtain ⟨h1, h2⟩ := flat_get (es := es) (fun x hx => h x (by simp [hx]))
    refine ⟨by simp [h1, hy, Nat.add_mul, Nat.add_comm], fun i x j v hx hj => ?_⟩
    simp only [List.flatten_cons]
    cases i with
    | zero =>
      simp only [List.getElem?_cons_zero, Option.some.injEq] at hx
      subst hx
      have := (List.getElem?_eq_some_iff.1 hj).1
      rw [List.getElem?_append_left (by omega)]
      simpa using hj
    | succ i =>
      have hx' : es[i]? = some x := by simpa using hx
      rw [List.getElem?_append_right (by rw [Nat.add_mul]; omega), show (i + 1) * sz + j - y.length = i * sz + j by rw [Nat.add_mul]; omega]
      exact h2 i x j v hx' hj

/-- A new row, whole. -/
theorem PRes.row (hs : SRel F w p D rows) (hk : ¬ D k) {sz : Nat} {es : List (List AV)} {us : Array Value} (t : TypeId) (hz : ∀ x ∈ es, x.length = sz) (hlen : es.length * sz ≤ us.size)
    (h : ∀ i x j v, es[i]? = some x → x[j]? = some v → VR F w p D v (us.getD (i * sz + j) undef)) {w' : World} (hg : Grow w w')
    {fz : Nat × Nat} (hw : w'.heap[w.heap.size]? = some (.cells us t fz)) (hfz : fz.2 ≤ fz.1 ∨ us.size ≤ fz.1) {n cap : Nat} {kc : Option Nat} (hn : n ≤ cap) (hcap : cap * sz ≤ us.size) (hkc : ∀ m, kc = some m → cap = m) :
    PRes F w p D k w' (.slice (some ⟨w.heap.size, 0, none⟩) n cap) (some ⟨sz, es⟩) (.sl k sz 0 n kc) := by
  refine ⟨hg, ?_, ?_⟩
  · rintro r ⟨⟩
    refine ⟨⟨⟨us, t, fz, hw, hfz, by simpa using hlen, ?_⟩, hz⟩, lt_of_heap hw⟩
    intro i x j v hx hj
    rw [Nat.zero_add]
    exact (h i x j v hx hj).grow hg hs.old (upd_of hk) (fun i hi => .inl hi)
  · refine .sl k sz 0 n kc _ cap (.inr ⟨rfl, by simp⟩) hn hkc (.inr ⟨us, t, fz, ?_, ?_, ?_⟩)
    · simp [upd]
    · simpa [upd] using hw
    · simpa [upd] using hcap

theorem elems_fill (z : List AV) (sz n : Nat) {ρ : Operand → Value} : ∀ (ps : List (Nat × Operand)) (qs : List (Nat × Opd)) (es : List (List AV)) (us : Array Value),
    es.length = n → (∀ x ∈ es, x.length = sz) → CellsOK F w p D es.flatten us → (∀ x ∈ ps, ∀ y, opd x.2 = some y → VR F w p D (ev e y) (ρ x.2)) →
    qs.length = ps.length → (∀ (j : Nat) (x : Nat × Operand), ps[j]? = some x → ∃ y, qs[j]? = some (x.1, y) ∧ opd x.2 = some y) →
    elemsC e sz n qs → ∃ us', Instr.fill (fun i => some (i * sz, sz)) us (ps.map fun x => (x.1, ρ x.2)) = some us' ∧ (elemsV e es qs).length = n ∧ (∀ x ∈ elemsV e es qs, x.length = sz) ∧ CellsOK F w p D (elemsV e es qs).flatten us' := by
  intro ps
  induction ps with
  | nil =>
    intro qs es us hn hz h _ hl _ _
    cases qs with
    | nil => exact ⟨us, rfl, hn, hz, h⟩
    | cons => simp at hl
  | cons x ps ih =>
    intro qs es us hn hz h hx hl hq hc
    cases qs with
    | nil => simp at hl
    | cons q qs =>
      obtain ⟨y, h1, h3⟩ := hq 0 x (by simp)
      simp only [List.getElem?_cons_zero, Option.some.injEq] at h1
      subst h1
      obtain ⟨⟨c1, c2, c3, c4⟩, hc'⟩ := hc
      have hv := (hx x (by simp) y h3).sv c1
      obtain ⟨k1, k2⟩ := known_cells hv c2
      obtain ⟨f1, f2⟩ := flat_get hz
      have hmul : (x.1 + 1) * sz ≤ es.length * sz := Nat.mul_le_mul_right _ (by omega)
      have hmul' : (x.1 + 1) * sz = x.1 * sz + sz := by rw [Nat.add_mul, Nat.one_mul]
      have hf := CellsOK.fill h ⟨k1, k2⟩ (off := x.1 * sz) (by rw [f1, c3]; omega)
      have hset : splice es.flatten (x.1 * sz) (sv e y).cells = (es.set x.1 (sv e y).cells).flatten := by
        have hi : x.1 < es.length := by omega
        clear hf hmul hmul' f2 h hc' hq hl ih
        generalize x.1 = i at *
        clear c4
        induction es generalizing i n with
        | nil => simp at hi
        | cons a es ih =>
          have ha := hz a (by simp)
          cases i with
          | zero =>
            simp only [splice, Nat.zero_mul, List.take_zero, List.nil_append, Nat.zero_add, List.set_cons_zero, List.flatten_cons]
            rw [c3, List.drop_append_of_le_length (by omega), List.drop_of_length_le (by omega)]; simp
          | succ i =>
            obtain ⟨g1, _⟩ := flat_get (es := es) (sz := sz) (fun x hx => hz x (by simp [hx]))
            have := ih es.length rfl (fun x hx => hz x (by simp [hx])) g1 i (by simpa using hi)
            simp only [List.set_cons_succ, List.flatten_cons]
            rw [← this]
            simp only [splice]
            rw [show (i + 1) * sz = a.length + i * sz by rw [Nat.add_mul]; omega, List.take_length_add_append, show a.length + i * sz + (sv e y).cells.length = a.length + (i * sz + (sv e y).cells.length) by omega, List.drop_length_add_append]
            simp
      simp only [List.map_cons, Instr.fill]
      rw [if_neg (by have := h.1; simp; omega)]
      rw [hset] at hf
      refine ih qs (es.set x.1 (sv e y).cells) _ (by simp [hn]) (fun z hm => ?_) hf (fun x hm => hx x (by simp [hm])) (by simpa using hl) (fun j x hj => ?_) hc'
      · rcases List.mem_or_eq_of_mem_set hm with h | rfl
        · exact hz z h
        · exact c3
      · simpa using hq (j + 1) x (by simpa using hj)
end
end Go.Proofs.Ytffiicopifmmfaa.Ai
