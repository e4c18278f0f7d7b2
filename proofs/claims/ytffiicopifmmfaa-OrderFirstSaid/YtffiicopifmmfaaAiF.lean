/-
  What the operations give, the model gives: the pure ones, second part. Plain facts, no condition.
-/
import Derived.Test.YtffiicopifmmfaaAiE
namespace Go.Proofs.Ytffiicopifmmfaa.Ai
set_option linter.unusedSimpArgs false
set_option linter.unusedVariables false
set_option linter.unnecessarySimpa false
set_option linter.unusedSectionVars false
set_option linter.unusedVariables false

def upd (p : Place) (k : Nat) (x : Nat × Nat) : Place := fun i => if i = k then x else p i

structure PRes (F : Nat → Prop) (w : World) (p : Place) (D : Nat → Prop) (k : Nat) (w' : World) (u : Value) (row : Option Row) (v : AV) : Prop where
  grow : Grow w w'
  nrow : ∀ r, row = some r → RowOK F w' (upd p k (w.heap.size, 0)) (fun i => D i ∨ i = k) r w.heap.size 0 ∧ w.heap.size < w'.heap.size
  val : VR F w' (upd p k (w.heap.size, 0)) (fun i => D i ∨ (i = k ∧ row ≠ none)) v u

section
variable {F : Nat → Prop} {w : World} {p : Place} {D : Nat → Prop} {e : Env} {rows : Rows} {P : Program} {k : Nat}

theorem upd_of {x : Nat × Nat} (hk : ¬ D k) : ∀ i, D i → upd p k x i = p i := fun i hi => by
  unfold upd; rw [if_neg]; rintro rfl; exact hk hi

theorem PRes.same (hs : SRel F w p D rows) (hk : ¬ D k) {v : AV} {u : Value} (h : VR F w p D v u) : PRes F w p D k w u none v :=
  ⟨.refl w, fun _ h => by (cases h), h.grow (.refl w) hs.old (upd_of hk) (fun i hi => .inl hi)⟩

theorem VR.sv {y : Opd} {u : Value} (h : VR F w p D (ev e y) u) (hl : lv e y) : VR F w p D (sv e y) u := vr_strip h hl

theorem Grow.alloc (w : World) (o : Obj) : Grow w (w.alloc o) :=
  ⟨rfl, rfl, rfl, by show _ ≤ (w.heap.push o).size; simp, fun b hb => by show (w.heap.push o)[b]? = _; simp [Array.getElem?_push, Nat.ne_of_lt hb]⟩
theorem heap_alloc (w : World) (o : Obj) : (w.alloc o).heap[w.heap.size]? = some o := by show (w.heap.push o)[w.heap.size]? = _; simp
theorem Grow.drew (w : World) : Grow w w.drew := ⟨rfl, rfl, rfl, Nat.le_refl _, fun _ _ => rfl⟩

/-- A new row of one element. -/
theorem PRes.one (hs : SRel F w p D rows) (hk : ¬ D k) {cs : List AV} {us : Array Value} (t : TypeId) (hu : us.size = cs.length) (h : ∀ j v, cs[j]? = some v → VR F w p D v (us.getD j undef)) :
    PRes F w p D k (w.alloc (.cells us t)) (.pointer (some ⟨w.heap.size, 0, none⟩)) (some ⟨cs.length, [cs]⟩) (.pt k cs.length 0 0) := by
  have hg := Grow.alloc w (.cells us t)
  refine ⟨hg, ?_, ?_⟩
  · rintro r ⟨⟩
    refine ⟨⟨⟨us, t, (0, 0), heap_alloc w _, .inl (Nat.le_refl _), by simp [hu], ?_⟩, by simp⟩, by show _ < (w.heap.push _).size; simp⟩
    intro i x j v hx hj
    cases i with
    | zero =>
      simp at hx; subst hx
      simpa using (h j v hj).grow hg hs.old (upd_of hk) (fun i hi => .inl hi)
    | succ i => simp at hx
  · have := VR.pt (F := F) (w := w.alloc (.cells us t)) (p := upd p k (w.heap.size, 0)) (D := fun i => D i ∨ (i = k ∧ (some (Row.mk cs.length [cs])) ≠ none)) k cs.length 0 0 (.inr ⟨rfl, by simp⟩)
    simpa [upd] using this

theorem known_cells {v : AV} {u : Value} (h : VR F w p D v u) (hk : v.known) : u.cells.size = v.cells.length ∧ ∀ j x, v.cells[j]? = some x → VR F w p D x (u.cells.getD j undef) := by
  have one : ∀ {v : AV} {u : Value}, VR F w p D v u → u.cells = #[u] → v.cells = [v] → u.cells.size = v.cells.length ∧ ∀ j x, v.cells[j]? = some x → VR F w p D x (u.cells.getD j undef) := by
    intro v u h h1 h2
    rw [h1, h2]
    refine ⟨rfl, fun j x hj => ?_⟩
    cases j with
    | zero => simp at hj; subst hj; simpa using h
    | succ j => simp at hj
  cases h with
  | any => exact hk.elim
  | opt => exact hk.elim
  | agg cs us hs h => exact ⟨hs, h⟩
  | bool b => exact one (.bool b) rfl rfl
  | int kk n => exact one (.int kk n) rfl rfl
  | str s => exact one (.str s) rfl rfl
  | nilp => exact one .nilp rfl rfl
  | nils => exact one .nils rfl rfl
  | nilf => exact one .nilf rfl rfl
  | nili => exact one .nili rfl rfl
  | tup cs us hs h => exact one (.tup cs us hs h) rfl rfl
  | rosNil sz => exact one (.rosNil sz) rfl rfl
  | rosEmp sz a cap => exact one (.rosEmp sz a cap) rfl rfl
  | ros sz es b o cap c t fz a1 a2 a3 a4 a5 a6 => exact one (.ros sz es b o cap c t fz a1 a2 a3 a4 a5 a6) rfl rfl
  | rop cs b o c t fz a1 a2 a3 a4 => exact one (.rop cs b o c t fz a1 a2 a3 a4) rfl rfl
  | sl id sz i n kk a cap a1 a2 a3 a4 => exact one (.sl id sz i n kk a cap a1 a2 a3 a4) rfl rfl
  | pt id sz i off a1 => exact one (.pt id sz i off a1) rfl rfl
  | fn f xs ys us vs a1 a2 a3 a4 => exact one (.fn f xs ys us vs a1 a2 a3 a4) rfl rfl
  | ifc t v u h => exact one (.ifc t v u h) rfl rfl
  | nilm => exact one .nilm rfl rfl
  | roe sz a cap => exact one (.roe sz a cap) rfl rfl

theorem alloc_sound (hs : SRel F w p D rows) (hk : ¬ D k) {t : TypeId} {z : List AV} (h : zeroOf P t = some z) (old : Value) :
    ∃ u w', (Instr.alloc t true old).run P w = .ok u w' ∧ PRes F w p D k w' u (some ⟨z.length, [z]⟩) (.pt k z.length 0 0) := by
  obtain ⟨v, h1, h2⟩ := run_zero h w
  obtain ⟨h3, h4⟩ := vr_list (F := F) (w := w) (p := p) (D := D) h2
  exact ⟨_, _, by simp [Instr.alloc, h1, newVar, newRow], PRes.one hs hk t h3 h4⟩

theorem box_sound (hs : SRel F w p D rows) (hk : ¬ D k) (t : TypeId) {v : AV} {x : Value} (h : VR F w p D v x) (hn : v.known) :
    ∃ u w', (Instr.box t x).run P w = .ok u w' ∧ PRes F w p D k w' u (some ⟨v.cells.length, [v.cells]⟩) (.pt k v.cells.length 0 0) := by
  obtain ⟨h3, h4⟩ := known_cells h hn
  exact ⟨_, _, by simp [Instr.box, newVar, newRow], PRes.one hs hk t h3 h4⟩

theorem fill_get (part : Array Value) (off : Nat) : ∀ (l : List Value) (i : Nat) (cells : Array Value), off + i + l.length ≤ cells.size →
    ((l.zipIdx i).foldl (fun cs (c, j) => cs.setIfInBounds (off + j) c) cells).size = cells.size ∧
    ∀ m, ((l.zipIdx i).foldl (fun cs (c, j) => cs.setIfInBounds (off + j) c) cells).getD m undef = if off + i ≤ m ∧ m < off + i + l.length then l.getD (m - off - i) undef else cells.getD m undef
  | [], i, cells, h => by
    refine ⟨rfl, fun m => ?_⟩
    rw [if_neg (by simp only [List.length_nil]; omega)]; rfl
  | c :: l, i, cells, h => by
    simp only [List.length_cons] at h
    obtain ⟨h1, h2⟩ := fill_get part off l (i + 1) (cells.setIfInBounds (off + i) c) (by simp; omega)
    simp only [List.zipIdx_cons, List.foldl_cons]
    refine ⟨by rw [h1]; simp, fun m => ?_⟩
    rw [h2 m]
    by_cases hm : m = off + i
    · subst hm
      rw [if_neg (by omega), if_pos (by simp only [List.length_cons]; omega)]
      have : off + i < cells.size := by omega
      simp [this]
    · by_cases hin : off + (i + 1) ≤ m ∧ m < off + (i + 1) + l.length
      · rw [if_pos hin, if_pos (by simp only [List.length_cons]; omega), show m - off - i = (m - off - (i + 1)) + 1 by omega, List.getD_cons_succ]
      · rw [if_neg hin, if_neg (by simp only [List.length_cons]; omega)]
        simp [show off + i ≠ m by omega]

/-- The cells of an aggregate, each as the list says. -/
def CellsOK (F : Nat → Prop) (w : World) (p : Place) (D : Nat → Prop) (cs : List AV) (us : Array Value) : Prop :=
  us.size = cs.length ∧ ∀ j v, cs[j]? = some v → VR F w p D v (us.getD j undef)

theorem CellsOK.fill {cs part : List AV} {us vs : Array Value} {off : Nat} (h : CellsOK F w p D cs us) (hp : CellsOK F w p D part vs) (ho : off + part.length ≤ cs.length) :
    CellsOK F w p D (splice cs off part) (vs.zipIdx.foldl (fun cs (c, j) => cs.setIfInBounds (off + j) c) us) := by
  have hz : (vs.zipIdx.foldl (fun cs (c, j) => cs.setIfInBounds (off + j) c) us) = ((vs.toList.zipIdx 0).foldl (fun cs (c, j) => cs.setIfInBounds (off + j) c) us) := by
    rw [← Array.foldl_toList, Array.toList_zipIdx]
  have hvl : vs.toList.length = part.length := by simpa using hp.1
  obtain ⟨h1, h2⟩ := fill_get vs off vs.toList 0 us (by rw [hvl, h.1]; omega)
  rw [hz]
  refine ⟨by rw [h1, h.1]; simp [splice]; omega, fun j v hj => ?_⟩
  rw [h2 j]
  unfold splice at hj
  by_cases hin : off + 0 ≤ j ∧ j < off + 0 + vs.toList.length
  · rw [if_pos hin]
    rw [hvl] at hin
    rw [List.append_assoc, List.getElem?_append_right (by simp; omega), List.getElem?_append_left (by simp; omega)] at hj
    simp only [List.length_take] at hj
    rw [show min off cs.length = off by omega] at hj
    have := hp.2 _ v hj
    rw [show j - off - 0 = j - off by omega]
    simpa [List.getD] using this
  · rw [if_neg hin]
    rw [hvl] at hin
    refine h.2 j v ?_
    by_cases hlt : j < off
    · rw [List.append_assoc, List.getElem?_append_left (by simp; omega), List.getElem?_take, if_pos hlt] at hj
      exact hj
    · rw [List.getElem?_append_right (by simp; omega), List.getElem?_drop] at hj
      simp only [List.length_append, List.length_take] at hj
      rw [show min off cs.length = off by omega] at hj
      rwa [show off + part.length + (j - (off + part.length)) = j by omega] at hj
end
end Go.Proofs.Ytffiicopifmmfaa.Ai
