/-
  Operations that write: store and append. Plain facts, no condition.
-/
import Derived.Test.YtggmkfagcjdifaaDoorAiL
import Derived.Laws.AppendOwn
import Derived.Lib.FrozenHead
namespace Go.Proofs.YtggmkfagcjdifaaDoor.Ai
set_option linter.unusedSimpArgs false
set_option linter.unusedVariables false
set_option linter.unnecessarySimpa false
set_option linter.unusedSectionVars false
set_option linter.unusedVariables false

def AV.one : AV → Prop
  | .any | .agg _ | .tup _ | .opt _ _ => False
  | _ => True

theorem one_cell {F : Nat → Prop} {w : World} {p : Place} {D : Nat → Prop} {v : AV} {u : Value} (h : VR F w p D v u) (ho : v.one) : u.oneCell' = true := by
  cases h <;> first | rfl | exact ho.elim

/-- What an operation leaves. -/
structure Eff (F : Nat → Prop) (w : World) (p : Place) (D : Nat → Prop) (rows : Rows) (k : Nat) (w' : World) (u : Value) (rows' : Rows) (v : AV) : Prop where
  os : w'.os = w.os
  tape : w'.tape = w.tape
  output : w'.output = w.output
  size : w.heap.size ≤ w'.heap.size
  same : ∀ b, b < w.heap.size → ¬ (∃ id r, look rows id = some r ∧ (p id).1 = b) → w'.heap[b]? = w.heap[b]?
  cells : ∀ (b : Nat) (c : Array Value) (t : TypeId) (fz : Nat × Nat), w.heap[b]? = some (Obj.cells c t fz) → ∃ (c' : Array Value) (t' : TypeId) (fz' : Nat × Nat), w'.heap[b]? = some (Obj.cells c' t' fz') ∧ c'.size = c.size
  st : ∃ p', (∀ i, D i → p' i = p i) ∧ SRel F w' p' (fun i => D i ∨ i = k) rows' ∧ VR F w' p' (fun i => D i ∨ i = k) v u ∧
    (∀ id r, look rows' id = some r → w.heap.size ≤ (p' id).1 ∨ ∃ id0 r0, look rows id0 = some r0 ∧ (p id0).1 = (p' id).1)

section
variable {F : Nat → Prop} {w : World} {p : Place} {D : Nat → Prop} {e : Env} {rows : Rows} {P : Program} {k : Nat}

def push (rows : Rows) (k : Nat) : Option Row → Rows
  | none => rows
  | some r => (k, r) :: rows

theorem look_cons (k : Nat) (r : Row) (rows : Rows) (id : Nat) : look ((k, r) :: rows) id = if id = k then some r else look rows id := by
  by_cases h : k = id
  · subst h; simp [look]
  · rw [if_neg (fun e => h e.symm)]; simp [look, beq_false_of_ne h]

theorem look_drop (rows : Rows) (a id : Nat) : look (drop rows a) id = if id = a then none else look rows id := by
  induction rows with
  | nil => simp [drop, look]
  | cons x l ih =>
    obtain ⟨j, q⟩ := x
    simp only [drop]
    by_cases h : j = a
    · subst h
      simp only [beq_self_eq_true, cond_true, ih, look_cons]
      by_cases hid : id = j <;> simp [hid]
    · simp only [beq_false_of_ne h, cond_false, look_cons, ih]
      by_cases hid : id = j
      · subst hid; simp [h]
      · simp [hid]

theorem look_over (rows : Rows) (a id : Nat) (q : Row) : look (over rows a q) id = if id = a then (look rows a).map (fun _ => q) else look rows id := by
  induction rows with
  | nil => simp [over, look]
  | cons x l ih =>
    obtain ⟨j, r⟩ := x
    simp only [over]
    by_cases h : j = a
    · subst h
      simp only [beq_self_eq_true, cond_true, look_cons]
      by_cases hid : id = j <;> simp [hid]
    · simp only [beq_false_of_ne h, cond_false, look_cons, ih]
      by_cases hid : id = a
      · subst hid; simp [Ne.symm h]
      · simp [hid]

theorem Eff.pure {w' : World} {u : Value} {row : Option Row} {v : AV} (hs : SRel F w p D rows) (hk : ¬ D k) (h : PRes F w p D k w' u row v) : Eff F w p D rows k w' u (push rows k row) v := by
  refine ⟨h.grow.os, h.grow.tape, h.grow.output, h.grow.size, fun b hb _ => h.grow.same b hb, fun b c t fz hb => ⟨c, t, fz, h.grow.cells hb, rfl⟩, upd p k (w.heap.size, 0), upd_of hk, ?_, ?_, ?_⟩
  · have h0 : SRel F w' (upd p k (w.heap.size, 0)) (fun i => D i ∨ i = k) rows := hs.grow h.grow (upd_of hk) (fun i hi => .inl hi)
    cases row with
    | none => exact h0
    | some r =>
      obtain ⟨h1, h2⟩ := h.nrow r rfl
      have hkk : (upd p k (w.heap.size, 0)) k = (w.heap.size, 0) := by simp [upd]
      refine ⟨fun id r' hl => ?_, fun id id' r1 r2 hl hl' hne => ?_, h0.old⟩
      · simp only [push, look_cons] at hl
        split at hl
        · rename_i hid; subst hid
          cases hl
          rw [hkk]
          exact ⟨.inr rfl, fun hF => absurd (hs.old _ hF) (Nat.lt_irrefl _), h1⟩
        · exact h0.row id r' hl
      · have lt : ∀ id r, id ≠ k → look rows id = some r → (upd p k (w.heap.size, 0) id).1 < w.heap.size := by
          intro id r hid hl
          simp only [upd, if_neg hid]
          obtain ⟨_, _, ⟨c, t, fz, hb, _⟩, _⟩ := hs.row id r hl
          exact lt_of_heap hb
        simp only [push, look_cons] at hl hl'
        split at hl <;> split at hl'
        · omega
        · rename_i h3 h4; subst h3; rw [hkk]; exact fun e => by have := lt _ _ h4 hl'; omega
        · rename_i h3 h4; subst h4; rw [hkk]; exact fun e => by have := lt _ _ h3 hl; omega
        · exact h0.apart id id' r1 r2 hl hl' hne
  · exact h.val.mono (fun _ h => h) (fun _ _ => rfl) (fun b c t fz hb => ⟨c, t, fz, hb, rfl⟩) (fun _ _ => rfl) (fun i hi => hi.imp id (fun h => h.1))
  · intro id r hl
    have old : look rows id = some r → w.heap.size ≤ (upd p k (w.heap.size, 0) id).1 ∨ ∃ id0 r0, look rows id0 = some r0 ∧ (p id0).1 = (upd p k (w.heap.size, 0) id).1 := fun hl =>
      .inr ⟨id, r, hl, by rw [upd_of hk id (hs.row id r hl).1]⟩
    cases row with
    | none => exact old hl
    | some r1 =>
      simp only [push, look_cons] at hl
      split at hl
      · rename_i hid; subst hid; left; simp [upd]
      · exact old hl

/-- The environment stands. -/
theorem Eff.env {w' : World} {u u0 : Value} {rows' : Rows} {v v0 : AV} {p' : Place} {D' : Nat → Prop} (hs : SRel F w p D rows) (h : Eff F w p D rows k w' u rows' v) (hp : ∀ i, D i → p' i = p i) (hD : ∀ i, D i → D' i)
    (h0 : VR F w p D v0 u0) : VR F w' p' D' v0 u0 :=
  h0.mono (fun _ h => h) (fun b hb => h.same b (hs.old b hb) (fun ⟨id, r, hl, he⟩ => (hs.row id r hl).2.1 (he ▸ hb))) h.cells hp hD

theorem getD_put (c : Array Value) (us : List Value) (o m : Nat) (h : o + us.length ≤ c.size) :
    ((c.toList.take o ++ us ++ c.toList.drop (o + us.length)).toArray).getD m undef = if o ≤ m ∧ m < o + us.length then us.getD (m - o) undef else c.getD m undef := by
  have hl : (c.toList.take o).length = o := by simp; omega
  rw [Array.getD_eq_getD_getElem?, List.getElem?_toArray, List.append_assoc]
  by_cases h1 : m < o
  · rw [List.getElem?_append_left (by omega), List.getElem?_take, if_pos h1, if_neg (by omega)]
    simp [Array.getD_eq_getD_getElem?]
  · rw [List.getElem?_append_right (by omega), hl]
    by_cases h2 : m < o + us.length
    · rw [List.getElem?_append_left (by omega), if_pos ⟨by omega, h2⟩]; rfl
    · rw [List.getElem?_append_right (by omega), List.getElem?_drop, if_neg (by omega), show o + us.length + (m - o - us.length) = m by omega]
      simp [Array.getD_eq_getD_getElem?]

theorem run_storeCells_free (P : Program) (g o : Nat) (t : TypeId) (fz : Nat × Nat) : ∀ (vs : List Value) (i : Nat) (cur : Array Value) (w : World), w.heap[g]? = some (.cells cur t fz) → (fz.2 ≤ fz.1 ∨ cur.size ≤ fz.1) → o + i + vs.length ≤ cur.size → (∀ v ∈ vs, v.oneCell' = true) →
    (storeCells ⟨g, o, none⟩ vs i).run P w = .ok () (w.setRow g (cur.toList.take (o + i) ++ vs ++ cur.toList.drop (o + i + vs.length)).toArray)
  | [], i, cur, w, hg, _, _, _ => by
    simp only [storeCells, List.append_nil, List.length_nil, Nat.add_zero, List.take_append_drop, Array.toArray_toList]
    rw [setRow_self w g cur t fz hg]
    rfl
  | v :: rest, i, cur, w, hg, hfz, hl, h1 => by
    have hi : o + i < cur.size := by simp at hl; omega
    have hadd : (⟨g, o, none⟩ : Addr).add i = ⟨g, o + i, none⟩ := by unfold Addr.add; split <;> simp_all
    have hcell : w.cell? ⟨g, o + i, none⟩ = some cur[o + i] := by simp [World.cell?, hg, hi]
    have hfro : w.frozen? ⟨g, o + i, none⟩ = false := by
      obtain ⟨lo, hi'⟩ := fz
      simp only [World.frozen?, hg, Bool.and_eq_false_iff, decide_eq_false_iff_not]
      simp only at hfz
      omega
    have hst : (store ((⟨g, o, none⟩ : Addr).add i) v).run P w = .ok () (w.setRow g (cur.setIfInBounds (o + i) v)) := by
      rw [hadd, run_store P w _ v _ (h1 v (by simp)), hcell]
      simp [hfro, setCell_eq_setRow w g (o + i) cur t fz v hg]
    have ih := run_storeCells_free P g o t fz rest (i + 1) (cur.setIfInBounds (o + i) v) (w.setRow g (cur.setIfInBounds (o + i) v)) (setRow_heap w g cur _ t _ hg) (by simpa using hfz) (by simp at hl ⊢; omega) (fun x hx => h1 x (by simp [hx]))
    simp only [storeCells, Sem.run_bind, hst, Result.andThen_ok, ih, setRow_setRow]
    congr 3
    have e := list_seg_step cur.toList (o + i) v rest (by simp at hl ⊢; omega)
    simpa [Array.toList_setIfInBounds, Nat.add_assoc] using e

def stC (rows : Rows) (sz : Nat) (a x : AV) : Prop :=
  (match a with
  | .pt id q i off => match look rows id with
    | some r => r.sz = q ∧ i < r.es.length ∧ off + sz ≤ q
    | none => False
  | _ => False) ∧ x.known ∧ x.cells.length = sz ∧ ∀ c ∈ x.cells, c.one
def stR (rows : Rows) (a x : AV) : Rows :=
  match a with
  | .pt id q i off => match look rows id with
    | some r => over rows id ⟨r.sz, r.es.set i (splice (r.es.getD i []) off x.cells)⟩
    | none => rows
  | _ => rows

theorem Eff.write {b : Nat} {c c' : Array Value} {t : TypeId} {fz : Nat × Nat} {rows' : Rows} {p' : Place} {u : Value} {v : AV} (hs : SRel F w p D rows) (hb : w.heap[b]? = some (.cells c t fz)) (hz : c'.size = c.size)
    (hrow : ∃ id r, look rows id = some r ∧ (p id).1 = b) (hp : ∀ i, D i → p' i = p i)
    (hr : (∀ (v0 : AV) (u0 : Value), VR F w p D v0 u0 → VR F (w.setRow b c') p' (fun i => D i ∨ i = k) v0 u0) → Old F (w.setRow b c') →
      SRel F (w.setRow b c') p' (fun i => D i ∨ i = k) rows' ∧ VR F (w.setRow b c') p' (fun i => D i ∨ i = k) v u ∧
      (∀ id r, look rows' id = some r → w.heap.size ≤ (p' id).1 ∨ ∃ id0 r0, look rows id0 = some r0 ∧ (p id0).1 = (p' id).1)) : Eff F w p D rows k (w.setRow b c') u rows' v := by
  have same : ∀ b', b' < w.heap.size → ¬ (∃ id r, look rows id = some r ∧ (p id).1 = b') → (w.setRow b c').heap[b']? = w.heap[b']? := fun b' _ hn => setRow_other w b b' c' (fun e => hn (e ▸ hrow))
  have cells : ∀ (b1 : Nat) (c1 : Array Value) (t1 : TypeId) (fz1 : Nat × Nat), w.heap[b1]? = some (Obj.cells c1 t1 fz1) → ∃ (c2 : Array Value) (t' : TypeId) (fz' : Nat × Nat), (w.setRow b c').heap[b1]? = some (Obj.cells c2 t' fz') ∧ c2.size = c1.size := by
    intro b1 c1 t1 fz1 h1
    by_cases hbb : b1 = b
    · subst hbb
      rw [hb] at h1
      injection h1 with h1; injection h1 with h1 h2 h3
      subst h1
      exact ⟨c', t, fz, setRow_heap w b1 c c' t fz hb, hz⟩
    · exact ⟨c1, t1, fz1, (setRow_other w b b1 c' hbb).trans h1, rfl⟩
  have hnr : ∀ b, F b → ¬ (∃ id r, look rows id = some r ∧ (p id).1 = b) := fun b hb ⟨id, r, hl, he⟩ => (hs.row id r hl).2.1 (he ▸ hb)
  refine ⟨rfl, rfl, rfl, by simp, same, cells, p', hp, hr (fun v0 u0 h0 => ?_) (hs.old.to (fun b hb => by simpa using hs.old b hb) (fun _ h => h) (fun b hb => same b (hs.old b hb) (hnr b hb)) cells)⟩
  exact h0.mono (fun _ h => h) (fun b hb => same b (hs.old b hb) (fun ⟨id, r, hl, he⟩ => (hs.row id r hl).2.1 (he ▸ hb))) cells hp (fun i hi => .inl hi)

theorem stc_sound (hs : SRel F w p D rows) {id i off : Nat} {r : Row} (hl : look rows id = some r) (hid : D id) (hi : i < r.es.length) {cs : List AV} {us : Array Value} (hu : CellsOK F w p D cs us) (h4 : ∀ c ∈ cs, c.one) (ho : off + cs.length ≤ r.sz) :
    ∃ w', (storeCells ⟨(p id).1, (p id).2 + i * r.sz + off, none⟩ us.toList).run P w = .ok () w' ∧ Eff F w p D rows k w' undef (stR rows (.pt id r.sz i off) (.agg cs)) .any := by
  obtain ⟨hcs, hcv⟩ := hu
  obtain ⟨sz, h3⟩ : ∃ sz, cs.length = sz := ⟨_, rfl⟩
  rw [h3] at ho
  obtain ⟨_, hnF, hok⟩ := hs.row id r hl
  obtain ⟨c, ty, fz, hb, hf, hr, hh⟩ := hok.ex
  have hmul : (i + 1) * r.sz ≤ r.es.length * r.sz := Nat.mul_le_mul_right _ hi
  have hmul' : (i + 1) * r.sz = i * r.sz + r.sz := by rw [Nat.add_mul, Nat.one_mul]
  have hone : ∀ v ∈ us.toList, v.oneCell' = true := by
    intro v hv
    obtain ⟨j, hj, hjv⟩ := List.getElem_of_mem hv
    have hj' : j < cs.length := by rw [← hcs]; simpa using hj
    have := hcv j _ (List.getElem?_eq_getElem hj')
    have hv2 : us.getD j undef = v := by
      rw [← hjv]; simp only [Array.length_toList] at hj; simp [Array.getD, hj]
    rw [hv2] at this
    exact one_cell this (h4 _ (List.getElem_mem hj'))
  have hlen : us.toList.length = sz := by simp [hcs, h3]
  have hfit : (p id).2 + i * r.sz + off + 0 + us.toList.length ≤ c.size := by rw [hlen]; omega
  have hst := run_storeCells_free P (p id).1 ((p id).2 + i * r.sz + off) ty fz us.toList 0 c w hb hf hfit hone
  simp only [Nat.add_zero] at hst hfit
  refine ⟨w.setRow (p id).1 (c.toList.take ((p id).2 + i * r.sz + off) ++ us.toList ++ c.toList.drop ((p id).2 + i * r.sz + off + us.toList.length)).toArray, ?_, Eff.write (p' := p) hs hb ?_ ⟨id, r, hl, rfl⟩ (fun _ _ => rfl) fun keep hold => ⟨⟨?_, ?_, hold⟩, .any _, ?_⟩⟩
  · exact hst
  · simp only [List.size_toArray, List.length_append, List.length_take, List.length_drop, Array.length_toList] at hfit ⊢
    omega
  · intro id' r' hl'
    simp only [stR, AV.cells, hl, look_over] at hl'
    split at hl'
    · rename_i hid'; subst hid'
      simp only [hl, Option.map_some, Option.some.injEq] at hl'
      subst hl'
      have hspl : (splice (r.es.getD i []) off cs).length = r.sz := by
        have hlen : (r.es.getD i []).length = r.sz := by
          simp only [List.getD, List.getElem?_eq_getElem hi, Option.getD_some]
          exact hok.sz _ (List.getElem_mem hi)
        simp only [splice, List.length_append, List.length_take, List.length_drop, hlen, h3]
        omega
      refine ⟨.inl ‹_›, hnF, ⟨_, ty, fz, setRow_heap w _ c _ ty fz hb, ?_, ?_, ?_⟩, ?_⟩
      · refine hf.imp id fun h => ?_
        simp only [List.size_toArray, List.length_append, List.length_take, List.length_drop, Array.length_toList] at hfit ⊢
        omega
      · simp only [List.length_set, List.size_toArray, List.length_append, List.length_take, List.length_drop, Array.length_toList] at hfit ⊢
        omega
      · intro i' x' j v hx' hj
        dsimp only at hx' ⊢
        rw [getD_put c us.toList _ _ hfit]
        by_cases hii : i' = i
        · subst hii
          rw [List.getElem?_set_self (by omega)] at hx'
          cases hx'
          have hlen2 : (r.es.getD i' []).length = r.sz := by
            simp only [List.getD, List.getElem?_eq_getElem hi, Option.getD_some]
            exact hok.sz _ (List.getElem_mem hi)
          have hlt : ((r.es.getD i' []).take off).length = off := by rw [List.length_take, hlen2]; omega
          simp only [splice] at hj
          by_cases h5 : j < off
          · rw [if_neg (by omega)]
            rw [List.append_assoc, List.getElem?_append_left (by omega), List.getElem?_take, if_pos h5] at hj
            exact keep _ _ (hh i' _ j v (by simp [List.getD, List.getElem?_eq_getElem hi]) hj)
          · by_cases h6 : j < off + sz
            · rw [if_pos ⟨by omega, by omega⟩]
              rw [List.append_assoc, List.getElem?_append_right (by omega), hlt, List.getElem?_append_left (by omega)] at hj
              have := hcv _ _ hj
              rw [show (p id').2 + i' * r.sz + j - ((p id').2 + i' * r.sz + off) = j - off by omega]
              have hg : us.toList.getD (j - off) undef = us.getD (j - off) undef := by
                rw [List.getD_eq_getElem?_getD, Array.getD_eq_getD_getElem?, Array.getElem?_toList]
              rw [hg]
              exact keep _ _ this
            · rw [if_neg (by omega)]
              rw [List.getElem?_append_right (by simp only [List.length_append]; omega), List.getElem?_drop] at hj
              simp only [List.length_append, hlt, h3] at hj
              rw [show off + sz + (j - (off + sz)) = j by omega] at hj
              exact keep _ _ (hh i' _ j v (by simp [List.getD, List.getElem?_eq_getElem hi]) hj)
        · rw [List.getElem?_set_ne (fun e => hii e.symm)] at hx'
          have hi' : i' < r.es.length := (List.getElem?_eq_some_iff.1 hx').1
          have hjs : j < r.sz := by
            have h7 := (List.getElem?_eq_some_iff.1 hj).1
            rwa [hok.sz x' (List.mem_of_getElem? hx')] at h7
          rw [if_neg]
          · exact keep _ _ (hh i' x' j v hx' hj)
          · rcases Nat.lt_or_gt_of_ne hii with h8 | h8
            · have : (i' + 1) * r.sz ≤ i * r.sz := Nat.mul_le_mul_right _ h8
              rw [Nat.add_mul, Nat.one_mul] at this
              omega
            · have : (i + 1) * r.sz ≤ i' * r.sz := Nat.mul_le_mul_right _ h8
              omega
      · intro x' hx'
        rcases List.mem_or_eq_of_mem_set hx' with h9 | h9
        · exact hok.sz x' h9
        · rw [h9]; exact hspl
    · rename_i hne
      obtain ⟨g1, g2, g3⟩ := hs.row id' r' hl'
      obtain ⟨c2, t2, fz2, hb2, hf2, hr2, hh2⟩ := g3.ex
      have hap := hs.apart id' id r' r hl' hl hne
      exact ⟨.inl g1, g2, ⟨c2, t2, fz2, (setRow_other w _ _ _ hap).trans hb2, hf2, hr2, fun i x j v hx hj => keep _ _ (hh2 i x j v hx hj)⟩, g3.sz⟩
  · intro id1 id2 r1 r2 hl1 hl2 hne
    simp only [stR, AV.cells, hl, look_over] at hl1 hl2
    have get1 : ∀ {id1 r1}, (if id1 = id then Option.map (fun _ => (⟨r.sz, r.es.set i (splice (r.es.getD i []) off cs)⟩ : Row)) (some r) else look rows id1) = some r1 → ∃ r1', look rows id1 = some r1' := by
      intro id1 r1 h
      split at h
      · rename_i h9; subst h9; exact ⟨r, hl⟩
      · exact ⟨r1, h⟩
    obtain ⟨a1, b1⟩ := get1 hl1
    obtain ⟨a2, b2⟩ := get1 hl2
    exact hs.apart id1 id2 a1 a2 b1 b2 hne
  · intro id1 r1 hl1
    simp only [stR, AV.cells, hl, look_over] at hl1
    split at hl1
    · rename_i h9; subst h9; exact .inr ⟨id1, r, hl, rfl⟩
    · exact .inr ⟨id1, r1, hl1, rfl⟩

theorem st_sound (hs : SRel F w p D rows) {t : TypeId} {sz : Nat} (hz : sizeAt P t = some sz) {a x : AV} {ua ux : Value} (ha : VR F w p D a ua) (hx : VR F w p D x ux) (hc : stC rows sz a x) :
    ∃ w', (Instr.storeAt t ua ux).run P w = .ok () w' ∧ Eff F w p D rows k w' undef (stR rows a x) .any := by
  obtain ⟨h1, h2, h3, h4⟩ := hc
  have hu := known_cells hx h2
  cases ha with
  | pt id q i off hid =>
    simp only at h1
    cases hl : look rows id with
    | none => rw [hl] at h1; exact h1.elim
    | some r =>
      rw [hl] at h1
      obtain ⟨rfl, hi, ho⟩ := h1
      obtain ⟨w', g1, g2⟩ := stc_sound (P := P) (k := k) hs hl hid hi hu h4 (by rw [h3]; exact ho)
      refine ⟨w', ?_, by simpa only [stR, AV.cells] using g2⟩
      have : ux.cells.size = sz := by rw [hu.1, h3]
      simp [Instr.storeAt, Instr.sureAddr, storeVar, run_sizeAt hz, this, g1]
  | _ => exact h1.elim

/-- Bytes (cells, one by one) that are copied into an array in a variable. -/
def cpyC (rows : Rows) (x y : AV) : Prop :=
  (match x with
  | .sl id q i n _ => q = 1 ∧ 0 < n ∧ (match look rows id with
    | some r => r.es.length = 1 ∧ i + n ≤ r.sz
    | none => False)
  | _ => False) ∧ elsC rows 1 y ∧ ∀ c ∈ elsV rows y, ∀ v ∈ c, v.one
def cpyN (rows : Rows) (x y : AV) : Nat := min (elsV rows y).length (lenV x).toNat
def cpyR (rows : Rows) (x y : AV) : Rows :=
  match x with
  | .sl id _ i _ _ => match look rows id with
    | some r => stR rows (.pt id r.sz 0 i) (.agg ((elsV rows y).take (cpyN rows x y)).flatten)
    | none => rows
  | _ => rows

def appC (rows : Rows) (sz bytes : Nat) (z : List AV) (x y : AV) : Prop :=
  elsC rows sz y ∧ (∀ c ∈ elsV rows y, ∀ v ∈ c, v.one) ∧ z.length = sz ∧
  (match x with
  | .nils => True
  | .sl id q i n c => match look rows id with
    | some r => r.sz = q ∧ q = sz ∧ i + n ≤ r.es.length ∧ (c = none → i + n = r.es.length)
    | none => False
  | _ => False) ∧ ((lenV x).toNat + (elsV rows y).length) * bytes ≤ 140737488355328 ∧ (lenV x).toNat + (elsV rows y).length ≤ 9223372036854775807
def appV (rows : Rows) (sz k : Nat) (x y : AV) : AV :=
  match x with
  | .nils => if (elsV rows y).length = 0 then .nils else .sl k sz 0 (elsV rows y).length none
  | .sl _ q _ n c => .sl k q 0 (n + (elsV rows y).length) (match c with
    | some cap => if n + (elsV rows y).length ≤ cap then some cap else none
    | none => none)
  | _ => .any
def appT (es : List (List AV)) (n m i : Nat) : Option Nat → List (List AV)
  | some cap => if n + m ≤ cap then es.drop (i + n + m) else []
  | none => []
def appR (rows : Rows) (sz k : Nat) (x y : AV) : Rows :=
  match x with
  | .nils => if (elsV rows y).length = 0 then rows else (k, ⟨sz, elsV rows y⟩) :: rows
  | .sl id q i n c => match look rows id with
    | some r => (k, ⟨q, (r.es.drop i).take n ++ elsV rows y ++ appT r.es n (elsV rows y).length i c⟩) :: drop rows id
    | none => rows
  | _ => rows

/-- The cells that are appended. -/
theorem first_sound (hs : SRel F w p D rows) {y : AV} {u : Value} {sz : Nat} (hv : VR F w p D y u) (h : elsC rows sz y) (h1 : ∀ c ∈ elsV rows y, ∀ v ∈ c, v.one) :
    ∃ a cap, u = .slice a (elsV rows y).length cap ∧ ∃ news : List Value, news.length = (elsV rows y).length * sz ∧
      (∀ w' : World, w'.heap = w.heap → (Builtin.firstCells sz (elsV rows y).length u).run P w' = .ok news.toArray w') ∧ (∀ u ∈ news, u.oneCell' = true) ∧
      (∀ x ∈ elsV rows y, x.length = sz) ∧ ∀ i x j v, (elsV rows y)[i]? = some x → x[j]? = some v → VR F w p D v (news.getD (i * sz + j) undef) := by
  obtain ⟨a, n, cap, rfl, hn, hh⟩ := els_sound hs hv h
  subst hn
  refine ⟨a, cap, rfl, ?_⟩
  rcases hh with hh | ⟨b, o, c, t, fz, rfl, hb, hr, hsz, hv⟩
  · have he : elsV rows y = [] := List.eq_nil_of_length_eq_zero hh
    refine ⟨[], by simp [he], fun w' _ => ?_, by simp, by simp [he], by simp [he]⟩
    cases a <;> simp [Builtin.firstCells, he, loadCells, loadCellsFrom]
  · refine ⟨(List.range ((elsV rows y).length * sz)).map fun j => c.getD (o + j) undef, by simp, fun w' hw => ?_, ?_, hsz, ?_⟩
    · refine run_firstCells_some w' sz _ _ _ _ _ (by simp) fun j v hj => ?_
      have hjl : j < (elsV rows y).length * sz := by have := (List.getElem?_eq_some_iff.1 hj).1; simpa using this
      rw [add_none, cell_of (t := t) (fz := fz) (c := c) (by rw [hw]; exact hb) (by omega)]
      simp [hjl] at hj
      rw [← hj]; simp [Array.getD_eq_getD_getElem?]
    · intro u hu
      obtain ⟨j, hj, rfl⟩ := List.mem_map.1 hu
      have hj : j < (elsV rows y).length * sz := List.mem_range.1 hj
      have hsz0 : 0 < sz := Nat.pos_of_ne_zero fun h => by subst h; simp at hj
      have hq : j / sz < (elsV rows y).length := Nat.div_lt_of_lt_mul (by rwa [Nat.mul_comm])
      have hx := List.getElem?_eq_getElem hq
      have hxs := hsz _ (List.getElem_mem hq)
      have hjm : j % sz < ((elsV rows y)[j / sz]).length := by rw [hxs]; exact Nat.mod_lt _ hsz0
      have := hv _ _ _ _ hx (List.getElem?_eq_getElem hjm)
      rw [Nat.add_assoc, Nat.div_add_mod' j sz] at this
      exact one_cell this (h1 _ (List.getElem_mem hq) _ (List.getElem_mem hjm))
    · intro i x j v hx hj
      have hi : i < (elsV rows y).length := (List.getElem?_eq_some_iff.1 hx).1
      have hjs : j < sz := by
        have h7 := (List.getElem?_eq_some_iff.1 hj).1
        rwa [hsz x (List.mem_of_getElem? hx)] at h7
      have hlt : i * sz + j < (elsV rows y).length * sz := by
        have : (i + 1) * sz ≤ (elsV rows y).length * sz := Nat.mul_le_mul_right _ hi
        rw [Nat.add_mul, Nat.one_mul] at this
        omega
      have := hv i x j v hx hj
      rw [List.getD_eq_getElem?_getD, List.getElem?_map, List.getElem?_range hlt]
      simpa [Nat.add_assoc] using this

/-- The first m cells of a slice of single cells. -/
theorem first_pre (hs : SRel F w p D rows) {y : AV} {u : Value} (hv : VR F w p D y u) (h : elsC rows 1 y) {m : Nat} (hm : m ≤ (elsV rows y).length) :
    ∃ a cap, u = .slice a (elsV rows y).length cap ∧ ∃ news : Array Value, CellsOK F w p D ((elsV rows y).take m).flatten news ∧ (Builtin.firstCells 1 m u).run P w = .ok news w := by
  obtain ⟨a, n, cap, rfl, hn, hh⟩ := els_sound hs hv h
  subst hn
  refine ⟨a, cap, rfl, ?_⟩
  rcases hh with hh | ⟨b, o, c, t, fz, rfl, hb, hr, hsz, hv⟩
  · have he : elsV rows y = [] := List.eq_nil_of_length_eq_zero hh
    obtain rfl : m = 0 := by omega
    refine ⟨#[], ⟨by simp, by simp⟩, ?_⟩
    cases a <;> simp [Builtin.firstCells, loadCells, loadCellsFrom]
  · have hsz' : ∀ x ∈ (elsV rows y).take m, x.length = 1 := fun x hx => hsz x (List.mem_of_mem_take hx)
    have hfl := (flat_get hsz').1
    have hml : ((elsV rows y).take m).flatten.length = m := by rw [hfl]; simp; omega
    refine ⟨((List.range (m * 1)).map fun j => c.getD (o + j) undef).toArray, ⟨by simp [hml], fun j v hj => ?_⟩, ?_⟩
    · have hjm : j < m := by rw [← hml]; exact (List.getElem?_eq_some_iff.1 hj).1
      rw [getD_mapRange _ _ _ (by omega)]
      obtain ⟨i, x, j', hx, hj', he⟩ := flat_inv hsz' hj
      rw [List.getElem?_take] at hx
      split at hx
      · have := hv i x j' v hx hj'
        rwa [Nat.add_assoc, ← he] at this
      · cases hx
    · simp only [Builtin.firstCells]
      exact run_loadCells_of hb (by omega)

theorem cpy_sound (hs : SRel F w p D rows) {ats : Array TypeId} {t0 el ty : TypeId} (h0 : ats[0]? = some t0) (ht : P.underlying t0 = some (.slice el)) (hz : sizeAt P el = some 1) {x y : AV} {ux uy : Value} (hx : VR F w p D x ux) (hy : VR F w p D y uy) (hc : cpyC rows x y) :
    ∃ w', (Builtin.copy_ ats ty #[ux, uy]).run P w = .ok (.int .i64 (cpyN rows x y)) w' ∧ Eff F w p D rows k w' (.int .i64 (cpyN rows x y)) (cpyR rows x y) (.int .i64 (cpyN rows x y)) := by
  obtain ⟨c1, c2, c3⟩ := hc
  have hm : cpyN rows x y ≤ (elsV rows y).length := Nat.min_le_left _ _
  obtain ⟨a, cap, rfl, news, g1, g2⟩ := first_pre (P := P) hs hy c2 hm
  cases hx with
  | sl id q i n kc ad cp hid hn hk ha =>
    obtain ⟨rfl, hn0, c4⟩ := c1
    cases hl : look rows id with
    | none => rw [hl] at c4; exact c4.elim
    | some r =>
      rw [hl] at c4
      obtain ⟨c5, c6⟩ := c4
      obtain ⟨c', t', fz', rfl, hb, hsize⟩ := ha.resolve_left (by omega)
      have hnn : cpyN rows (.sl id 1 i n kc) y = min (elsV rows y).length n := by simp [cpyN, lenV]
      have hsz1 : ∀ x ∈ (elsV rows y).take (cpyN rows (.sl id 1 i n kc) y), x.length = 1 := by
        obtain ⟨_, _, _, _, e1, hh⟩ := els_sound hs hy c2
        intro x hx
        rcases hh with hh | ⟨_, _, _, _, _, _, _, _, hh, _⟩
        · have he : elsV rows y = [] := List.eq_nil_of_length_eq_zero (by omega)
          rw [he] at hx; simp at hx
        · exact hh x (List.mem_of_mem_take hx)
      have hfl : ((elsV rows y).take (cpyN rows (.sl id 1 i n kc) y)).flatten.length = cpyN rows (.sl id 1 i n kc) y := by rw [(flat_get hsz1).1]; simp; omega
      obtain ⟨w', g3, g4⟩ := stc_sound (P := P) (k := k) hs (i := 0) (off := i) hl hid (by omega) g1 (fun c hc => by
        obtain ⟨x, hx, hc⟩ := List.mem_flatten.1 hc
        exact c3 x (List.mem_of_mem_take hx) c hc) (by rw [hfl]; omega)
      have e1 : (p id).2 + 0 * r.sz + i = (p id).2 + i * 1 := by omega
      rw [e1] at g3
      refine ⟨w', ?_, ?_⟩
      · simp only [Builtin.copy_, h0, List.getElem?_toArray, List.getElem?_cons_zero, List.getElem?_cons_succ, Sem.run_bind, run_underlying ht, Result.andThen_ok, Builtin.lenOf, Sem.run_pure, run_sizeAt hz]
        rw [show Nat.min (elsV rows y).length n = cpyN rows (.sl id 1 i n kc) y from hnn.symm, g2]
        simp only [Result.andThen_ok, Sem.run_bind, g3, Sem.run_pure]
        rfl
      · have hR : cpyR rows (.sl id 1 i n kc) y = stR rows (.pt id r.sz 0 i) (.agg ((elsV rows y).take (cpyN rows (.sl id 1 i n kc) y)).flatten) := by simp only [cpyR, hl]
        rw [hR]
        obtain ⟨p', q1, q2, _, q3⟩ := g4.st
        exact ⟨g4.os, g4.tape, g4.output, g4.size, g4.same, g4.cells, p', q1, q2, .int _ _, q3⟩
  | _ => exact c1.elim

section run
variable {ats : Array TypeId} {t0 t1 ty el el' : TypeId} {ti : TypeInfo} (w)
theorem run_app_room (h0 : ats[0]? = some t0) (h1 : ats[1]? = some t1) (ht : P.underlying t0 = some (.slice el)) (ht1 : P.underlying t1 = some (.slice el')) (hi : P.info? el = some ti)
    {b o n cap m c1 : Nat} {a1 : Option Addr} {cur : Array Value} {tt : TypeId} {fz : Nat × Nat} {news : List Value} (hb : w.heap[b]? = some (.cells cur tt fz)) (hfz : fz.2 ≤ fz.1 ∨ cur.size ≤ fz.1)
    (hf : (Builtin.firstCells ti.size m (.slice a1 m c1)).run P w = .ok news.toArray w) (hone : ∀ u ∈ news, u.oneCell' = true) (hroom : n + m ≤ cap) (hfit : o + n * ti.size + news.length ≤ cur.size) :
    (Builtin.append_ ats ty #[.slice (some ⟨b, o, none⟩) n cap, .slice a1 m c1]).run P w =
      .ok (.slice (some ⟨b, o, none⟩) (n + m) cap) (w.setRow b (cur.toList.take (o + n * ti.size) ++ news ++ cur.toList.drop (o + n * ti.size + news.length)).toArray) := by
  have hst := run_storeCells_free P b (o + n * ti.size) tt fz news 0 cur w hb hfz (by simpa using hfit) hone
  simp only [Nat.add_zero] at hst
  simp [Builtin.append_, h0, h1, run_underlying ht, run_underlying ht1, sizeOf, typeInfo, hi, Builtin.lenOf, hroom, hf, add_none, hst]

theorem run_app_none (h0 : ats[0]? = some t0) (h1 : ats[1]? = some t1) (ht : P.underlying t0 = some (.slice el)) (ht1 : P.underlying t1 = some (.slice el')) (hi : P.info? el = some ti)
    {n cap m c1 : Nat} {a1 : Option Addr} {news : List Value}
    (hf : (Builtin.firstCells ti.size m (.slice a1 m c1)).run P w = .ok news.toArray w) (hroom : n + m ≤ cap) :
    (Builtin.append_ ats ty #[.slice none n cap, .slice a1 m c1]).run P w = .ok (.slice none (n + m) cap) w := by
  simp [Builtin.append_, h0, h1, run_underlying ht, run_underlying ht1, sizeOf, typeInfo, hi, Builtin.lenOf, hroom, hf]

theorem run_app_grow (h0 : ats[0]? = some t0) (h1 : ats[1]? = some t1) (ht : P.underlying t0 = some (.slice el)) (ht1 : P.underlying t1 = some (.slice el')) (hi : P.info? el = some ti) {z : Value} (hz' : (zeroValue el).run P w.drew = .ok z w.drew)
    {n cap m c1 : Nat} {a0 a1 : Option Addr} {olds news : List Value}
    (hf : (Builtin.firstCells ti.size m (.slice a1 m c1)).run P w.drew = .ok news.toArray w.drew) (hfo : (Builtin.firstCells ti.size n (.slice a0 n cap)).run P w.drew = .ok olds.toArray w.drew)
    (hg : cap < n + m) (h63 : n + m ≤ 9223372036854775807) (hfit : (n + m) * ti.bytes ≤ 140737488355328) :
    (Builtin.append_ ats ty #[.slice a0 n cap, .slice a1 m c1]).run P w =
      .ok (.slice (some ⟨w.heap.size, 0, none⟩) (n + m) (grownCap w (n + m) cap el))
        (w.drew.alloc (.cells (olds.toArray ++ news.toArray ++ Builtin.zeroCells z.cells (grownCap w (n + m) cap el - (n + m))) el)) := by
  have hn : ¬ (n + m ≤ cap) := by omega
  have h63' : ¬ (9223372036854775807 < ((n : Int) + (m : Int))) := by omega
  have h48' : ¬ (281474976710656 < Builtin.nextslicecap (n + m) cap * ti.bytes) := by have := growslice_fits hg hfit; omega
  simp [Builtin.append_, h0, h1, run_underlying ht, run_underlying ht1, sizeOf, typeInfo, hi, Builtin.lenOf, hn, h63', h48', Question.forced, hf, hfo, newRow, grownCap, hz']
  congr 2
  apply Array.ext'
  simp [List.append_assoc]
end run

/-- A part of a row, as a list of cells. -/
theorem seg_sound {r : Row} {b o : Nat} (hok : RowOK F w p D r b o) {i n : Nat} (hin : i + n ≤ r.es.length) :
    ∃ olds : List Value, olds.length = n * r.sz ∧ (∀ (w' : World) (a : Option Addr) (cap : Nat), w'.heap = w.heap → (n = 0 ∨ a = some ⟨b, o + i * r.sz, none⟩) → (Builtin.firstCells r.sz n (.slice a n cap)).run P w' = .ok olds.toArray w') ∧
      ∀ i' x j v, ((r.es.drop i).take n)[i']? = some x → x[j]? = some v → VR F w p D v (olds.getD (i' * r.sz + j) undef) := by
  obtain ⟨c, t, fz, hb, hf, hr, hh⟩ := hok.ex
  have hm1 : (i + n) * r.sz ≤ r.es.length * r.sz := Nat.mul_le_mul_right _ hin
  rw [Nat.add_mul] at hm1
  refine ⟨(List.range (n * r.sz)).map fun j => c.getD (o + i * r.sz + j) undef, by simp, fun w' a cap hw ha => ?_, fun i' x j v hx hj => ?_⟩
  · rcases ha with rfl | rfl
    · cases a <;> simp [Builtin.firstCells, loadCells, loadCellsFrom]
    · refine run_firstCells_some w' r.sz _ _ _ _ _ (by simp) fun j v hj => ?_
      have hjl : j < n * r.sz := by have := (List.getElem?_eq_some_iff.1 hj).1; simpa using this
      rw [add_none, cell_of (t := t) (fz := fz) (c := c) (by rw [hw]; exact hb) (by omega)]
      simp [hjl] at hj
      rw [← hj]; simp [Array.getD_eq_getD_getElem?]
  · rw [List.getElem?_take] at hx
    split at hx
    · rename_i hi
      rw [List.getElem?_drop] at hx
      have hjs : j < r.sz := by
        have h7 := (List.getElem?_eq_some_iff.1 hj).1
        rwa [hok.sz x (List.mem_of_getElem? hx)] at h7
      have hlt : i' * r.sz + j < n * r.sz := by
        have : (i' + 1) * r.sz ≤ n * r.sz := Nat.mul_le_mul_right _ hi
        rw [Nat.add_mul, Nat.one_mul] at this
        omega
      have := hh _ x j v hx hj
      rw [List.getD_eq_getElem?_getD, List.getElem?_map, List.getElem?_range hlt]
      rw [Nat.add_mul] at this
      simpa [Nat.add_assoc] using this
    · cases hx

/-- A new row in a new block, in place of another or of none. -/
theorem Eff.fresh {c : Array Value} {el : TypeId} {rest : Rows} {r : Row} {n cap : Nat} {kc : Option Nat} (hs : SRel F w p D rows) (hk : ¬ D k) (hrest : ∀ id r', look rest id = some r' → look rows id = some r')
    (hn : n ≤ cap) (hkc : ∀ m, kc = some m → cap = m) (hc : cap * r.sz ≤ c.size) (he : r.es.length * r.sz ≤ c.size) (hz : ∀ x ∈ r.es, x.length = r.sz)
    (hv : ∀ i x j v, r.es[i]? = some x → x[j]? = some v → VR F w p D v (c.getD (i * r.sz + j) undef)) :
    Eff F w p D rows k (w.drew.alloc (.cells c el)) (.slice (some ⟨w.heap.size, 0, none⟩) n cap) ((k, r) :: rest) (.sl k r.sz 0 n kc) := by
  have hg : Grow w (w.drew.alloc (.cells c el)) := (Grow.drew w).trans (Grow.alloc w.drew _)
  have hheap : (w.drew.alloc (.cells c el)).heap[w.heap.size]? = some (.cells c el) := heap_alloc w.drew _
  have hs' : SRel F w p D rest := ⟨fun id r h => hs.row id r (hrest id r h), fun id id' r r' h h' => hs.apart id id' r r' (hrest _ _ h) (hrest _ _ h'), hs.old⟩
  have hkk : (upd p k (w.heap.size, 0)) k = (w.heap.size, 0) := by simp [upd]
  have hres : PRes F w p D k (w.drew.alloc (.cells c el)) (.slice (some ⟨w.heap.size, 0, none⟩) n cap) (some r) (.sl k r.sz 0 n kc) := by
    refine ⟨hg, ?_, .sl k r.sz 0 n kc _ cap (.inr ⟨rfl, by simp⟩) hn hkc (.inr ⟨c, el, (0, 0), by simp [hkk], by rw [hkk]; exact hheap, by rw [hkk]; simpa using hc⟩)⟩
    rintro r' ⟨⟩
    refine ⟨⟨⟨c, el, (0, 0), hheap, .inl (Nat.le_refl _), by simpa using he, fun i x j v hx hj => ?_⟩, hz⟩, by show w.heap.size < (w.heap.push _).size; simp⟩
    have := (hv i x j v hx hj).grow hg hs.old (upd_of (x := (w.heap.size, 0)) hk) (D' := fun i => D i ∨ i = k) (fun i hi => .inl hi)
    simpa using this
  have h := Eff.pure hs' hk hres
  refine { h with same := fun b hb hn => h.same b hb fun ⟨id, r, hl, hb⟩ => hn ⟨id, r, hrest _ _ hl, hb⟩, st := ?_ }
  obtain ⟨p', h1, h2, h3, h4⟩ := h.st
  refine ⟨p', h1, h2, h3, fun id r hl => (h4 id r hl).imp (fun h => h) fun ⟨id0, r0, hl0, hb0⟩ => ⟨id0, r0, hrest _ _ hl0, hb0⟩⟩

theorem app_sound (hs : SRel F w p D rows) (hk : ¬ D k) {ats : Array TypeId} {t0 t1 ty el el' : TypeId} {ti : TypeInfo} {z : List AV} (h0 : ats[0]? = some t0) (h1 : ats[1]? = some t1) (ht : P.underlying t0 = some (.slice el)) (ht1 : P.underlying t1 = some (.slice el'))
    (hi : P.info? el = some ti) (hzo : zeroOf P el = some z) {x y : AV} {ux uy : Value} (hx : VR F w p D x ux) (hy : VR F w p D y uy) (hc : appC rows ti.size ti.bytes z x y) :
    ∃ u w', (Builtin.append_ ats ty #[ux, uy]).run P w = .ok u w' ∧ Eff F w p D rows k w' u (appR rows ti.size k x y) (appV rows ti.size k x y) := by
  obtain ⟨hc1, hc2, hz, hcx, hby, h63⟩ := hc
  obtain ⟨a1, c1, rfl, news, hnl, hfirst, hone, hysz, hnv⟩ := first_sound (P := P) hs hy hc1 hc2
  obtain ⟨zv, hzr, hzm⟩ := run_zero hzo w.drew
  have hzs : zv.cells.size = ti.size := by have := (mapO_some hzm).1; simp only [Array.length_toList] at this; omega
  cases hx with
  | nils =>
    simp only [appV, appR, lenV, Int.toNat_zero, Nat.zero_add] at *
    by_cases hm : (elsV rows y).length = 0
    · rw [if_pos hm, if_pos hm]
      have hf := hfirst w rfl
      rw [hm] at hf
      refine ⟨_, _, ?_, Eff.pure (row := none) hs hk (.same hs hk .nils)⟩
      rw [hm]
      exact run_app_none (ty := ty) w h0 h1 ht ht1 hi hf (Nat.le_refl _)
    · rw [if_neg hm, if_neg hm]
      have hr := run_app_grow (ty := ty) w h0 h1 ht ht1 hi hzr (n := 0) (cap := 0) (a0 := none) (olds := []) (hfirst w.drew rfl) (by simp [Builtin.firstCells]) (by omega) (by omega) (by simpa using hby)
      simp only [Nat.zero_add] at hr
      have hge := grownCap_ge w (elsV rows y).length 0 el
      refine ⟨_, _, hr, Eff.fresh (r := ⟨ti.size, elsV rows y⟩) hs hk (fun _ _ h => h) hge (by simp) ?_ ?_ hysz ?_⟩
      · simp only [Array.size_append, List.size_toArray, size_zeroCells, hzs, hnl, ← Nat.add_mul]
        simp only [List.length_nil, Nat.zero_add, ← Nat.add_mul]
        exact Nat.mul_le_mul_right _ (by omega)
      · simp only [Array.size_append, List.size_toArray, size_zeroCells, hzs, hnl]; simp
      · intro i x j v hx hj
        have := hnv i x j v hx hj
        have hi' : i < (elsV rows y).length := (List.getElem?_eq_some_iff.1 hx).1
        have hjs : j < ti.size := by
          have h7 := (List.getElem?_eq_some_iff.1 hj).1
          rwa [hysz x (List.mem_of_getElem? hx)] at h7
        have hlt : i * ti.size + j < news.length := by
          have : (i + 1) * ti.size ≤ (elsV rows y).length * ti.size := Nat.mul_le_mul_right _ hi'
          rw [Nat.add_mul, Nat.one_mul] at this
          omega
        have e : (#[] ++ news.toArray ++ Builtin.zeroCells zv.cells (grownCap w (elsV rows y).length 0 el - (elsV rows y).length)).getD (i * ti.size + j) undef = news.getD (i * ti.size + j) undef := by
          rw [Array.getD_eq_getD_getElem?, List.getD_eq_getElem?_getD, Array.getElem?_append_left (by simpa using hlt)]
          simp
        first | exact e ▸ this | (rw [← e] at this; simpa using this)
  | sl id q i n c a cap hid hn hkc ha =>
    simp only [appV, appR, lenV, Int.toNat_natCast] at *
    cases hl : look rows id with
    | none => rw [hl] at hcx; exact hcx.elim
    | some r =>
      rw [hl] at hcx
      obtain ⟨rfl, hqs, hin, hend⟩ := hcx
      simp only
      obtain ⟨_, hnF, hok⟩ := hs.row id r hl
      obtain ⟨olds, hol, hofirst, hov⟩ := seg_sound (P := P) hok hin
      have hdrop : ∀ id' r', look (drop rows id) id' = some r' → id' ≠ id ∧ look rows id' = some r' := by
        intro id' r' h
        rw [look_drop] at h
        split at h
        · cases h
        · exact ⟨‹_›, h⟩
      have ha' : n = 0 ∨ a = some ⟨(p id).1, (p id).2 + i * r.sz, none⟩ := ha.imp (fun h => by omega) fun ⟨_, _, _, h, _⟩ => h
      have hlen1 : ((r.es.drop i).take n).length = n := by simp; omega
      have hsz1 : ∀ x ∈ (r.es.drop i).take n, x.length = r.sz := fun x hx => hok.sz x (List.mem_of_mem_drop (List.mem_of_mem_take hx))
      have hysz' : ∀ x ∈ elsV rows y, x.length = r.sz := fun x hx => (hysz x hx).trans hqs.symm
      by_cases hroom : n + (elsV rows y).length ≤ cap
      · obtain ⟨cur, ct, fz, hb, hfz, hr, hh⟩ := hok.ex
        have hm1 : (i + n) * r.sz ≤ r.es.length * r.sz := Nat.mul_le_mul_right _ hin
        rw [Nat.add_mul] at hm1
        have hnl' : news.length = (elsV rows y).length * r.sz := by rw [hnl, hqs]
        have hfit : (p id).2 + i * r.sz + n * r.sz + news.length ≤ cur.size := by
          rcases ha with h0 | ⟨c', t', fz', _, hb', hr'⟩
          · have hm0 : (elsV rows y).length = 0 := by omega
            rw [hnl', hm0]; omega
          · rw [hb] at hb'
            injection hb' with hb'; injection hb' with hb' _ _
            subst hb'
            have : (n + (elsV rows y).length) * r.sz ≤ cap * r.sz := Nat.mul_le_mul_right _ hroom
            rw [Nat.add_mul] at this hr'
            rw [hnl']; omega
        let p' : Place := upd p k ((p id).1, (p id).2 + i * r.sz)
        have hkk : p' k = ((p id).1, (p id).2 + i * r.sz) := by simp [p', upd]
        have hpo : ∀ i, D i → p' i = p i := upd_of hk
        refine ⟨.slice a (n + (elsV rows y).length) cap, w.setRow (p id).1 (cur.toList.take ((p id).2 + i * r.sz + n * r.sz) ++ news ++ cur.toList.drop ((p id).2 + i * r.sz + n * r.sz + news.length)).toArray, ?_,
          Eff.write (p' := p') hs hb ?_ ⟨id, r, hl, rfl⟩ hpo fun keep hold => ⟨⟨?_, ?_, hold⟩, ?_, ?_⟩⟩
        · have hf := hfirst w rfl
          rcases ha with hz0 | ⟨c', t', fz', rfl, hb', hr'⟩
          · have hm0 : (elsV rows y).length = 0 := by omega
            have hn0 : news = [] := List.eq_nil_of_length_eq_zero (by rw [hnl, hm0, Nat.zero_mul])
            subst hn0
            simp only [List.append_nil, List.length_nil, Nat.add_zero, List.take_append_drop, Array.toArray_toList]
            rw [setRow_self w _ cur ct fz hb]
            cases a with
            | none => exact run_app_none (ty := ty) w h0 h1 ht ht1 hi hf hroom
            | some a' => simp [Builtin.append_, h0, h1, hf, hroom, run_underlying ht, run_underlying ht1, sizeOf, typeInfo, hi, Builtin.lenOf, storeCells]
          · rw [hqs] at hfit ⊢
            exact run_app_room (ty := ty) w h0 h1 ht ht1 hi hb hfz hf hone hroom hfit
        · simp only [List.size_toArray, List.length_append, List.length_take, List.length_drop, Array.length_toList] at hfit ⊢
          omega
        · intro id' r' hl'
          rw [look_cons] at hl'
          split at hl'
          · rename_i hid'; subst hid'
            cases hl'
            rw [hkk]
            have hes : ∀ (i' : Nat) (x : List AV), (List.take n (List.drop i r.es) ++ elsV rows y ++ (appT r.es n (elsV rows y).length i c))[i']? = some x →
                (i' < n ∧ r.es[i + i']? = some x) ∨ (n ≤ i' ∧ i' < n + (elsV rows y).length ∧ (elsV rows y)[i' - n]? = some x) ∨ (n + (elsV rows y).length ≤ i' ∧ r.es[i + i']? = some x) := by
              intro i' x hx
              by_cases h5 : i' < n
              · left
                rw [List.append_assoc, List.getElem?_append_left (by omega), List.getElem?_take, if_pos h5, List.getElem?_drop] at hx
                exact ⟨h5, hx⟩
              · by_cases h6 : i' < n + (elsV rows y).length
                · right; left
                  rw [List.append_assoc, List.getElem?_append_right (by omega), hlen1, List.getElem?_append_left (by omega)] at hx
                  exact ⟨by omega, h6, hx⟩
                · right; right
                  rw [List.getElem?_append_right (by simp only [List.length_append]; omega)] at hx
                  simp only [List.length_append, hlen1] at hx
                  refine ⟨by omega, ?_⟩
                  cases c with
                  | none => simp [appT] at hx
                  | some cap0 =>
                    simp only [appT] at hx
                    split at hx
                    · rw [List.getElem?_drop] at hx
                      rwa [show i + n + (elsV rows y).length + (i' - (n + (elsV rows y).length)) = i + i' by omega] at hx
                    · simp at hx
            have hxs : ∀ (i' : Nat) (x : List AV), (List.take n (List.drop i r.es) ++ elsV rows y ++ (appT r.es n (elsV rows y).length i c))[i']? = some x → x.length = r.sz := by
              intro i' x hx
              rcases hes i' x hx with ⟨_, h⟩ | ⟨_, _, h⟩ | ⟨_, h⟩
              · exact hok.sz x (List.mem_of_getElem? h)
              · exact hysz' x (List.mem_of_getElem? h)
              · exact hok.sz x (List.mem_of_getElem? h)
            refine ⟨.inr rfl, hnF, ⟨_, ct, fz, setRow_heap w _ cur _ ct fz hb, ?_, ?_, ?_⟩, ?_⟩
            · refine hfz.imp (fun h => h) fun h => ?_
              simp only [List.size_toArray, List.length_append, List.length_take, List.length_drop, Array.length_toList] at hfit ⊢
              omega
            · simp only [List.size_toArray, List.length_append, List.length_take, List.length_drop, Array.length_toList] at hfit ⊢
              have hle : (appT r.es n (elsV rows y).length i c).length ≤ r.es.length - (i + n + (elsV rows y).length) := by
                cases c with
                | none => simp [appT]
                | some cap0 => simp only [appT]; split <;> simp
              have hmin : min n (r.es.length - i) = n := by omega
              rw [hmin]
              generalize (appT r.es n (elsV rows y).length i c).length = tl at hle ⊢
              by_cases h0 : tl = 0
              · subst h0
                rw [hnl'] at hfit
                rw [Nat.add_zero, Nat.add_mul]
                omega
              · have : (i + (n + (elsV rows y).length + tl)) * r.sz ≤ r.es.length * r.sz := Nat.mul_le_mul_right _ (by omega)
                rw [Nat.add_mul] at this
                rw [hnl'] at hfit
                omega
            · intro i' x j v hx hj
              dsimp only at hx hj ⊢
              have hjs : j < r.sz := by
                have h7 := (List.getElem?_eq_some_iff.1 hj).1
                rwa [hxs i' x hx] at h7
              rw [getD_put cur news _ _ (by omega)]
              rcases hes i' x hx with ⟨h5, h⟩ | ⟨h5, h6, h⟩ | ⟨h5, h⟩
              · have hle : (i' + 1) * r.sz ≤ n * r.sz := Nat.mul_le_mul_right _ h5
                rw [Nat.add_mul, Nat.one_mul] at hle
                rw [if_neg (by omega)]
                have := hh _ x j v h hj
                rw [Nat.add_mul] at this
                exact keep _ _ (by simpa [Nat.add_assoc] using this)
              · have hle : n * r.sz ≤ i' * r.sz := Nat.mul_le_mul_right _ h5
                have hlt : (i' + 1) * r.sz ≤ (n + (elsV rows y).length) * r.sz := Nat.mul_le_mul_right _ h6
                rw [Nat.add_mul, Nat.one_mul, Nat.add_mul] at hlt
                rw [if_pos (by omega)]
                have := hnv (i' - n) x j v h hj
                have e : (p id).2 + i * r.sz + i' * r.sz + j - ((p id).2 + i * r.sz + n * r.sz) = (i' - n) * ti.size + j := by
                  rw [← hqs, Nat.sub_mul]; omega
                rw [e]
                exact keep _ _ this
              · have hle : (n + (elsV rows y).length) * r.sz ≤ i' * r.sz := Nat.mul_le_mul_right _ h5
                rw [Nat.add_mul] at hle
                rw [if_neg (by omega)]
                have := hh _ x j v h hj
                rw [Nat.add_mul] at this
                exact keep _ _ (by simpa [Nat.add_assoc] using this)
            · intro x hx
              obtain ⟨i', _, hi'⟩ := List.getElem_of_mem hx
              exact hxs i' x (by rw [← hi']; exact List.getElem?_eq_getElem _)
          · rename_i hne
            obtain ⟨hne2, hl2⟩ := hdrop id' r' hl'
            obtain ⟨g1, g2, g3⟩ := hs.row id' r' hl2
            obtain ⟨c2, t2, fz2, hb2, hf2, hr2, hh2⟩ := g3.ex
            have hap := hs.apart id' id r' r hl2 hl hne2
            rw [hpo _ g1]
            exact ⟨.inl g1, g2, ⟨c2, t2, fz2, (setRow_other w _ _ _ hap).trans hb2, hf2, hr2, fun i x j v hx hj => keep _ _ (hh2 i x j v hx hj)⟩, g3.sz⟩
        · intro id1 id2 r1 r2 hl1 hl2 hne
          rw [look_cons] at hl1 hl2
          split at hl1 <;> split at hl2
          · omega
          · rename_i g1 g2
            subst g1
            obtain ⟨g3, g4⟩ := hdrop _ _ hl2
            rw [hkk, hpo _ (hs.row _ _ g4).1]
            exact hs.apart id id2 r r2 hl g4 (Ne.symm g3)
          · rename_i g1 g2
            subst g2
            obtain ⟨g3, g4⟩ := hdrop _ _ hl1
            rw [hkk, hpo _ (hs.row _ _ g4).1]
            exact hs.apart id1 id r1 r g4 hl g3
          · obtain ⟨g3, g4⟩ := hdrop _ _ hl1
            obtain ⟨g5, g6⟩ := hdrop _ _ hl2
            rw [hpo _ (hs.row _ _ g4).1, hpo _ (hs.row _ _ g6).1]
            exact hs.apart id1 id2 r1 r2 g4 g6 hne
        · refine .sl k r.sz 0 _ _ a cap (.inr rfl) hroom ?_ ?_
          · intro m hm
            cases c with
            | none => cases hm
            | some m0 =>
              simp only at hm
              split at hm
              · cases hm; exact hkc _ rfl
              · cases hm
          · refine ha.imp (fun h => h) ?_
            rintro ⟨c', t', fz', rfl, hb', hr'⟩
            rw [hkk]
            rw [hb] at hb'
            injection hb' with hb'; injection hb' with hb' _ _
            subst hb'
            refine ⟨_, ct, fz, by simp, setRow_heap w _ cur _ ct fz hb, ?_⟩
            rw [Nat.add_mul] at hr'
            simp only [List.size_toArray, List.length_append, List.length_take, List.length_drop, Array.length_toList, Nat.zero_add] at hfit ⊢
            omega
        · intro id1 r1 hl1
          right
          rw [look_cons] at hl1
          split at hl1
          · rename_i g1; subst g1; exact ⟨id, r, hl, by rw [hkk]⟩
          · obtain ⟨g3, g4⟩ := hdrop _ _ hl1
            exact ⟨id1, r1, g4, by rw [hpo _ (hs.row _ _ g4).1]⟩
      · have hr := run_app_grow (ty := ty) w h0 h1 ht ht1 hi hzr (a0 := a) (n := n) (cap := cap) (olds := olds) (hfirst w.drew rfl) (hqs ▸ hofirst w.drew a cap rfl ha') (by omega) (by omega) hby
        have hge := grownCap_ge w (n + (elsV rows y).length) cap el
        have e1 : (match c with
            | some cap => if n + (elsV rows y).length ≤ cap then some cap else none
            | none => none) = none := by
          cases c with
          | none => rfl
          | some m => simp only; rw [if_neg (by have := hkc m rfl; omega)]
        have e2 : (appT r.es n (elsV rows y).length i c) = [] := by
          cases c with
          | none => rfl
          | some m => simp only [appT]; rw [if_neg (by have := hkc m rfl; omega)]
        rw [e1, e2, List.append_nil]
        refine ⟨_, _, hr, Eff.fresh (r := ⟨r.sz, (r.es.drop i).take n ++ elsV rows y⟩) hs hk (fun id' r' h => (hdrop id' r' h).2) hge (by simp) ?_ ?_ ?_ ?_⟩
        · simp only [Array.size_append, List.size_toArray, size_zeroCells, hzs, hnl, hol, hqs, ← Nat.add_mul]
          exact Nat.mul_le_mul_right _ (by omega)
        · simp only [Array.size_append, List.size_toArray, size_zeroCells, hzs, hnl, hol, hqs, List.length_append, hlen1, ← Nat.add_mul]
          exact Nat.mul_le_mul_right _ (by omega)
        · intro x hx
          rcases List.mem_append.1 hx with hx | hx
          · exact hsz1 x hx
          · exact hysz' x hx
        · intro i' x j v hx hj
          dsimp only at hx ⊢
          have hjs : j < r.sz := by
            have h7 := (List.getElem?_eq_some_iff.1 hj).1
            have : x.length = r.sz := by
              rcases List.mem_append.1 (List.mem_of_getElem? hx) with hx | hx
              · exact hsz1 x hx
              · exact hysz' x hx
            omega
          by_cases h5 : i' < n
          · rw [List.getElem?_append_left (by omega)] at hx
            have := hov i' x j v hx hj
            have hlt : i' * r.sz + j < olds.length := by
              have : (i' + 1) * r.sz ≤ n * r.sz := Nat.mul_le_mul_right _ h5
              rw [Nat.add_mul, Nat.one_mul] at this
              omega
            rw [Array.getD_eq_getD_getElem?, Array.getElem?_append_left (by simp; omega), Array.getElem?_append_left (by simpa using hlt)]
            simpa [List.getD_eq_getElem?_getD] using this
          · rw [List.getElem?_append_right (by omega), hlen1] at hx
            have := hnv (i' - n) x j v hx hj
            have hi' : i' - n < (elsV rows y).length := (List.getElem?_eq_some_iff.1 hx).1
            have hlt : (i' - n) * r.sz + j < news.length := by
              have : (i' - n + 1) * r.sz ≤ (elsV rows y).length * r.sz := Nat.mul_le_mul_right _ hi'
              rw [Nat.add_mul, Nat.one_mul] at this
              rw [hnl, ← hqs]
              omega
            have hsub : i' * r.sz + j - olds.length = (i' - n) * r.sz + j := by
              rw [hol, Nat.sub_mul]
              have : n * r.sz ≤ i' * r.sz := Nat.mul_le_mul_right _ (by omega)
              omega
            have hge2 : olds.length ≤ i' * r.sz + j := by
              rw [hol]
              have : n * r.sz ≤ i' * r.sz := Nat.mul_le_mul_right _ (by omega)
              omega
            rw [Array.getD_eq_getD_getElem?, Array.getElem?_append_left (by simp; omega), Array.getElem?_append_right (by simpa using hge2)]
            simp only [List.size_toArray, hsub]
            rw [← hqs] at this
            simpa [List.getD_eq_getElem?_getD] using this
  | _ => exact hcx.elim
end
end Go.Proofs.YtggmkfagcjdifaaDoor.Ai
