/-
  What a function is given, opened: plain data of any type as abstract values. Plain facts, no condition.
-/
import Derived.Test.YtffiicopifmmfaaAiR
import Derived.Deep.Slices
import Derived.Lib.SmallJoins
namespace Go.Proofs.Ytffiicopifmmfaa.Ai
set_option linter.unusedSimpArgs false
set_option linter.unusedVariables false
set_option linter.unnecessarySimpa false
set_option linter.unusedSectionVars false
set_option linter.unusedVariables false
open Go.ChangeShapes Go.WideShapes Go.ChangeAt Go.RowKit Go.Deep

def parts (P : Program) (t : TypeId) : Option (List (Nat × TypeId)) :=
  match P.underlying t with
  | some (.struct fs) => some (fs.toList.map fun f => (f.offset, f.type))
  | some (.array n e) => some ((List.range n).map fun i => (i * P.cellsOf e, e))
  | _ => none

/-- Plain data. -/
inductive Dat (P : Program) : TypeId → List AV → Prop
  | bool {t : TypeId} {b : Bool} (h : P.underlying t = some .bool) : Dat P t [.bool b]
  | int {t : TypeId} {k : IntKind} {n : Int} (h : P.underlying t = some (.int k)) (hw : (Lit.int k n).wf = true) : Dat P t [.int k n]
  | str {t : TypeId} {s : ByteArray} (h : P.underlying t = some .string) (hw : s.size ≤ maxLen) : Dat P t [.str s]
  | slice {t e : TypeId} {es : List (List AV)} (h : P.underlying t = some (.slice e)) (hw : es.length * P.bytesOf e ≤ reachBytes) (hl : es.length ≤ maxLen) (hx : ∀ x ∈ es, Dat P e x) : Dat P t [.ros (P.cellsOf e) es]
  | agg {t : TypeId} {l : List (Nat × TypeId)} {xs : List AV} (h : parts P t = some l) (hl : xs.length = P.cellsOf t) (hx : ∀ (i o : Nat) (u : TypeId), l[i]? = some (o, u) → Dat P u ((xs.drop o).take (P.cellsOf u))) : Dat P t xs

def consec (P : Program) : Nat → List (Nat × TypeId) → Nat → Bool
  | o, [], n => o == n
  | o, (p, u) :: l, n => p == o && consec P (o + P.cellsOf u) l n
def plainT (P : Program) : Nat → TypeId → Bool
  | 0, _ => false
  | n + 1, t => match P.underlying t with
    | some .bool | some (.int _) | some .string => true
    | some (.slice e) => plainT P n e && decide (0 < P.cellsOf e)
    | some (.struct _) | some (.array _ _) => match parts P t with
      | some l => consec P 0 l (P.cellsOf t) && l.all fun x => plainT P n x.2
      | none => false
    | _ => false

section
variable {P : Program} {W : World} {H : Type} {enc : TypeId × Value → H}

def InF (W : World) : Nat → Prop := fun b => b < W.heap.size
def Vs (W : World) (xs : List AV) (cs : List Value) : Prop := ∀ j v, xs[j]? = some v → VR (InF W) W (fun _ => (0, 0)) (fun _ => False) v (cs.getD j undef)

theorem trod_array {n : Nat} {e t : TypeId} {fuel : Nat} {cs : List Value} {x : DataW H × List MemPlace} (ht : P.underlying t = some (.array n e)) (h : DataW.trod enc P W 0 (fun _ => true) true fuel t cs = some x) :
    ∃ (xs : List (DataW H × List MemPlace)) (m : Nat), x = (.agg (xs.map (·.1)), xs.flatMap (·.2)) ∧ cs.length = P.cellsOf t ∧ xs.length = n ∧
      ∀ (i : Nat), i < n → DataW.trod enc P W 0 (fun _ => true) true m e ((cs.drop (i * P.cellsOf e)).take (P.cellsOf e)) = xs[i]? := by
  cases fuel with
  | zero => simp [DataW.trod] at h
  | succ m =>
    unfold DataW.trod at h
    rw [ht] at h
    split at h <;> simp_all
    obtain ⟨hl, xs, hp, hd⟩ := h
    exact ⟨xs, hd.symm, by simpa using mapM_some_length hp, m, fun i hi => mapM_some_get hp i i (by simp [hi])⟩

theorem weightsAll_mem {e : TypeId} {d : DataW H} {l : List (DataW H)} (h : d ∈ l) : ∀ k ∈ d.weights P e, k ∈ DataW.weightsAll P e l := by
  induction l with
  | nil => cases h
  | cons y l ih =>
    intro k hk
    rw [DataW.weightsAll, List.mem_append]
    rcases List.mem_cons.1 h with rfl | h
    · exact .inl hk
    · exact .inr (ih h k hk)

/-- The parts of a value, each with its reading. -/
theorem trod_parts {l : List (Nat × TypeId)} {t : TypeId} {fuel : Nat} {cs : List Value} {x : DataW H × List MemPlace} (hp : parts P t = some l) (h : DataW.trod enc P W 0 (fun _ => true) true fuel t cs = some x)
    (hsz : ∀ k ∈ x.1.weights P t, k ≤ reachBytes) :
    cs.length = P.cellsOf t ∧ ∀ (i o : Nat) (u : TypeId), l[i]? = some (o, u) → ∃ m y, DataW.trod enc P W 0 (fun _ => true) true m u ((cs.drop o).take (P.cellsOf u)) = some y ∧ ∀ k ∈ y.1.weights P u, k ≤ reachBytes := by
  unfold parts at hp
  split at hp
  · rename_i fs hu
    simp only [Option.some.injEq] at hp; subst hp
    obtain ⟨xs, n, _, rfl, hl, hxl, hx⟩ := DataW.trod_struct hu h
    refine ⟨hl, fun i o u hi => ?_⟩
    simp only [List.getElem?_map, Array.getElem?_toList, Option.map_eq_some_iff, Prod.mk.injEq] at hi
    obtain ⟨f, hf, rfl, rfl⟩ := hi
    have hif : i < xs.length := by rw [hxl]; exact (Array.getElem?_eq_some_iff.1 hf).1
    refine ⟨n, xs[i], by rw [hx i f hf, List.getElem?_eq_getElem hif], fun k hk => hsz k ?_⟩
    simp only [DataW.weights, hu]
    exact DataW.weights_mem_each (j := i) (t := f.type) (d := xs[i].1) (by simp [hf]) (by simp [List.getElem?_eq_getElem hif]) k hk
  · rename_i n e hu
    simp only [Option.some.injEq] at hp; subst hp
    obtain ⟨xs, m, rfl, hl, hxl, hx⟩ := trod_array hu h
    refine ⟨hl, fun i o u hi => ?_⟩
    have hin : i < n := by simpa using (List.getElem?_eq_some_iff.1 hi).1
    simp only [List.getElem?_map, List.getElem?_range hin, Option.map_some, Option.some.injEq, Prod.mk.injEq] at hi
    obtain ⟨rfl, rfl⟩ := hi
    have hif : i < xs.length := by rw [hxl]; exact hin
    refine ⟨m, xs[i], by rw [hx i hin, List.getElem?_eq_getElem hif], fun k hk => hsz k ?_⟩
    simp only [DataW.weights, hu]
    exact weightsAll_mem (List.mem_map.2 ⟨xs[i], List.getElem_mem hif, rfl⟩) k hk
  · cases hp

theorem Dat.len {t : TypeId} {xs : List AV} (h : Dat P t xs) (h1 : ∀ u, P.underlying t = some .bool ∨ (∃ k, P.underlying t = some (.int k)) ∨ P.underlying t = some .string ∨ (∃ e, P.underlying t = some (.slice e)) → u = t → P.cellsOf u = 1) : xs.length = P.cellsOf t := by
  cases h with
  | bool h => rw [h1 t (.inl h) rfl]; rfl
  | int h _ => rw [h1 t (.inr (.inl ⟨_, h⟩)) rfl]; rfl
  | str h _ => rw [h1 t (.inr (.inr (.inl h))) rfl]; rfl
  | slice h _ _ _ => rw [h1 t (.inr (.inr (.inr ⟨_, h⟩))) rfl]; rfl
  | agg _ hl _ => exact hl

theorem addr_add (a : Addr) (x y : Nat) : (a.add x).add y = a.add (x + y) := by
  unfold Addr.add
  by_cases hy : y = 0
  · subst hy; simp
  · by_cases hx : x = 0
    · subst hx; simp
    · simp [hx, hy, Nat.add_assoc]

theorem choose_list {α : Type} [Inhabited α] (p : Nat → α → Prop) : ∀ n, (∀ i, i < n → ∃ x, p i x) → ∃ l : List α, l.length = n ∧ ∀ i x, l[i]? = some x → p i x
  | 0, _ => ⟨[], rfl, by simp⟩
  | n + 1, h => by
    obtain ⟨l, h1, h2⟩ := choose_list p n fun i hi => h i (by omega)
    obtain ⟨x, hx⟩ := h n (by omega)
    refine ⟨l ++ [x], by simp [h1], fun i y hy => ?_⟩
    rcases Nat.lt_or_ge i n with hi | hi
    · rw [List.getElem?_append_left (by omega)] at hy; exact h2 i y hy
    · rw [List.getElem?_append_right (by omega)] at hy
      have : i - l.length = 0 := by
        rcases Nat.eq_zero_or_pos (i - l.length) with h | h
        · exact h
        · rw [List.getElem?_eq_none (by simp; omega)] at hy; cases hy
      rw [this] at hy
      simp only [List.getElem?_cons_zero, Option.some.injEq] at hy
      subst hy
      rwa [show i = n by omega]

/-- Parts that stand one behind another, put together. -/
theorem glue {cs : List Value} (q : TypeId → List AV → Prop) : ∀ (l : List (Nat × TypeId)) (o n : Nat), consec P o l n = true → n ≤ cs.length →
    (∀ (i p : Nat) (u : TypeId), l[i]? = some (p, u) → ∃ ys, q u ys ∧ ys.length = ((cs.drop p).take (P.cellsOf u)).length ∧ Vs W ys ((cs.drop p).take (P.cellsOf u))) →
    ∃ xs, xs.length = n - o ∧ o ≤ n ∧ (∀ (i p : Nat) (u : TypeId), l[i]? = some (p, u) → o ≤ p ∧ q u ((xs.drop (p - o)).take (P.cellsOf u))) ∧ Vs W xs ((cs.drop o).take (n - o))
  | [], o, n, hc, hn, _ => by
    simp only [consec, beq_iff_eq] at hc
    subst hc
    exact ⟨[], by simp, Nat.le_refl _, by simp, fun j v hj => by simp at hj⟩
  | (p, u) :: l, o, n, hc, hn, h => by
    simp only [consec, Bool.and_eq_true, beq_iff_eq] at hc
    obtain ⟨rfl, hc⟩ := hc
    obtain ⟨ys, h1, h2, h3⟩ := h 0 p u rfl
    obtain ⟨xs, g1, g2, g3, g4⟩ := glue q l (p + P.cellsOf u) n hc hn fun i p' u' hi => h (i + 1) p' u' (by simpa using hi)
    replace h2 : ys.length = P.cellsOf u := by rw [h2, List.length_take, List.length_drop]; omega
    refine ⟨ys ++ xs, by simp [h2, g1]; omega, by omega, fun i p' u' hi => ?_, fun j v hj => ?_⟩
    · cases i with
      | zero =>
        simp only [List.getElem?_cons_zero, Option.some.injEq, Prod.mk.injEq] at hi
        obtain ⟨rfl, rfl⟩ := hi
        refine ⟨Nat.le_refl _, ?_⟩
        rw [Nat.sub_self, List.drop_zero, ← h2, List.take_left]
        exact h1
      | succ i =>
        obtain ⟨k1, k2⟩ := g3 i p' u' (by simpa using hi)
        refine ⟨by omega, ?_⟩
        rw [show p' - p = ys.length + (p' - (p + P.cellsOf u)) by omega, ← List.drop_drop, List.drop_left]
        exact k2
    · rcases Nat.lt_or_ge j ys.length with hjl | hjl
      · rw [List.getElem?_append_left hjl] at hj
        have := h3 j v hj
        rw [List.getD_eq_getElem?_getD, List.getElem?_take, if_pos (by omega)] at this ⊢
        exact this
      · rw [List.getElem?_append_right hjl] at hj
        have := g4 _ v hj
        have hjx : j - ys.length < xs.length := (List.getElem?_eq_some_iff.1 hj).1
        rw [List.getD_eq_getElem?_getD, List.getElem?_take, if_pos (by omega), List.getElem?_drop] at this ⊢
        rwa [show p + j = p + P.cellsOf u + (j - ys.length) by omega]

/-- Plain data, opened: it reads as abstract values. -/
theorem open_dat : ∀ (n : Nat) (t : TypeId) (fuel : Nat) (cs : List Value) (x : DataW H × List MemPlace), plainT P n t = true → DataW.trod enc P W 0 (fun _ => true) true fuel t cs = some x → (∀ k ∈ x.1.weights P t, k ≤ reachBytes) →
    ∃ xs, Dat P t xs ∧ xs.length = cs.length ∧ Vs W xs cs
  | 0, t, fuel, cs, x, hp, _, _ => by simp [plainT] at hp
  | n + 1, t, fuel, cs, x, hp, h, hsz => by
    unfold plainT at hp
    have one : ∀ {v : AV} {u : Value}, VR (InF W) W (fun _ => (0, 0)) (fun _ => False) v u → Vs W [v] [u] := fun hv j y hj => by
      cases j with
      | zero => simp at hj; subst hj; exact hv
      | succ j => simp at hj
    split at hp
    · rename_i hu
      obtain ⟨b, rfl, _⟩ := DataW.trod_bool hu h
      exact ⟨[.bool b], .bool hu, rfl, one (.bool b)⟩
    · rename_i k hu
      obtain ⟨m, rfl, _, hw⟩ := DataW.trod_int hu h
      exact ⟨[.int k m], .int hu hw, rfl, one (.int k m)⟩
    · rename_i hu
      obtain ⟨s, rfl, _, hw⟩ := DataW.trod_string hu h
      exact ⟨[.str s], .str hu hw, rfl, one (.str s)⟩
    · rename_i e hu
      simp only [Bool.and_eq_true, decide_eq_true_eq] at hp
      rcases open_slice hu h with ⟨rfl, _⟩ | ⟨a, len, cap, m, q, D, Pl, rfl, _, hl, hm, hmm, rfl, hx⟩
      · exact ⟨[.ros (P.cellsOf e) []], .slice hu (by simp) (by simp) (by simp), rfl, one (.rosNil _)⟩
      · simp only [if_true] at hmm
        subst hmm
        have hws : ∀ i, i < len → ∀ k ∈ (D i).weights P e, k ≤ reachBytes := fun i hi k hk => hsz k (by
          simp only [DataW.weights, hu, List.mem_cons, List.mem_append]
          exact .inr (.inl (weightsAll_mem (List.mem_map.2 ⟨i, List.mem_range.2 hi, rfl⟩) k hk)))
        have hwl : len * P.bytesOf e ≤ reachBytes := by
          have := hsz ((((List.range len).map D).length + ((List.range (m - len)).map fun j => D (len + j)).length) * P.bytesOf e) (by simp only [DataW.weights, hu]; exact List.mem_cons_self)
          refine Nat.le_trans (Nat.mul_le_mul_right _ ?_) this
          simp
        obtain ⟨es, he1, he2⟩ := choose_list (fun i ys => ∃ cs', W.cells? 0 (a.add (i * P.cellsOf e)) (P.cellsOf e) = some cs' ∧ Dat P e ys ∧ ys.length = cs'.length ∧ Vs W ys cs') len fun i hi => by
          obtain ⟨cs', h1, h2⟩ := hx i (by omega)
          obtain ⟨ys, g1, g2, g3⟩ := open_dat n e q cs' _ hp.1 h2 (hws i hi)
          exact ⟨ys, cs', h1, g1, g2, g3⟩
        have hdat : Dat P t [.ros (P.cellsOf e) es] := .slice hu (by rw [he1]; exact hwl) (by rw [he1]; omega) fun y hy => by
          obtain ⟨i, hi, rfl⟩ := List.getElem_of_mem hy
          obtain ⟨_, _, g, _, _⟩ := he2 i _ (List.getElem?_eq_getElem hi)
          exact g
        refine ⟨_, hdat, rfl, one ?_⟩
        rcases Nat.eq_zero_or_pos len with h0 | h0
        · subst h0
          obtain rfl : es = [] := List.length_eq_zero_iff.1 he1
          exact .rosEmp _ a m
        · have cell : ∀ i j, i < len → j < P.cellsOf e → ∀ cs', W.cells? 0 (a.add (i * P.cellsOf e)) (P.cellsOf e) = some cs' → W.cell? (a.add (i * P.cellsOf e + j)) = cs'[j]? ∧ cs'.length = P.cellsOf e := by
            intro i j hi hj cs' h1
            obtain ⟨_, g1, g2⟩ := World.cells?_some h1
            refine ⟨?_, g1⟩
            rw [← g2 j hj, addr_add]
          have known : ∀ i j, i < len → j < P.cellsOf e → ∃ u, W.cell? (a.add (i * P.cellsOf e + j)) = some u := by
            intro i j hi hj
            obtain ⟨cs', h1, _⟩ := he2 i _ (List.getElem?_eq_getElem (by omega))
            obtain ⟨g1, g2⟩ := cell i j hi hj cs' h1
            exact ⟨cs'[j]'(by omega), by rw [g1, List.getElem?_eq_getElem]⟩
          obtain ⟨u0, hu0⟩ := known 0 0 h0 hp.2
          have hblk : ∃ c ty fz, W.heap[a.block]? = some (.cells c ty fz) ∧ a.spot = none := by
            unfold World.cell? at hu0
            split at hu0
            · rename_i c ty fz hb
              refine ⟨c, ty, fz, by simpa [Addr.add] using hb, ?_⟩
              cases hs : a.spot with
              | none => rfl
              | some y => simp [Addr.add, hs] at hu0
            · cases hu0
          obtain ⟨c, ty, fz, hb, hspot⟩ := hblk
          have at_ : ∀ k, W.cell? (a.add k) = c[a.off + k]? := by
            intro k
            by_cases hk : k = 0
            · subst hk; simp [World.cell?, Addr.add, hb, hspot]
            · simp [World.cell?, Addr.add, hb, hk]
          have hsize : a.off + es.length * P.cellsOf e ≤ c.size := by
            obtain ⟨u, hu'⟩ := known (len - 1) (P.cellsOf e - 1) (by omega) (by omega)
            rw [at_] at hu'
            have := (Array.getElem?_eq_some_iff.1 hu').1
            have hmul : len * P.cellsOf e = (len - 1) * P.cellsOf e + P.cellsOf e := by
              obtain ⟨l', rfl⟩ : ∃ l', len = l' + 1 := ⟨len - 1, by omega⟩
              rw [Nat.add_sub_cancel, Nat.succ_mul]
            rw [he1]; omega
          obtain ⟨ablk, aoff, aspot⟩ := a
          simp only at hspot
          subst hspot
          have hlen : len = es.length := he1.symm
          subst hlen
          refine .ros _ es _ _ _ c ty fz hb (lt_of_heap hb) hl (fun y hy => ?_) hsize fun i y j v hy hj => ?_
          · obtain ⟨i, hi, rfl⟩ := List.getElem_of_mem hy
            obtain ⟨cs', h1, _, g2, _⟩ := he2 i _ (List.getElem?_eq_getElem hi)
            rw [g2]; exact (cell i 0 (by omega) hp.2 cs' h1).2
          · obtain ⟨cs', h1, _, g2, g3⟩ := he2 i y hy
            have hil : i < es.length := (List.getElem?_eq_some_iff.1 hy).1
            have hjl : j < y.length := (List.getElem?_eq_some_iff.1 hj).1
            have hcl := (cell i 0 hil hp.2 cs' h1).2
            obtain ⟨k1, _⟩ := cell i j hil (by omega) cs' h1
            have := g3 j v hj
            rw [at_] at k1
            rw [Array.getD_eq_getD_getElem?, show aoff + i * P.cellsOf e + j = aoff + (i * P.cellsOf e + j) by omega, k1, ← List.getD_eq_getElem?_getD]
            exact this
    all_goals first
      | (split at hp
         · rename_i l hl
           simp only [Bool.and_eq_true] at hp
           obtain ⟨hlen, hx⟩ := trod_parts hl h hsz
           obtain ⟨xs, g1, _, g3, g4⟩ := glue (W := W) (cs := cs) (Dat P) l 0 (P.cellsOf t) hp.1 (Nat.le_of_eq hlen.symm) fun i o u hi => by
             obtain ⟨m, y, h1, h2⟩ := hx i o u hi
             obtain ⟨ys, k1, k2, k3⟩ := open_dat n u m _ y (List.all_eq_true.1 hp.2 _ (List.mem_of_getElem? hi)) h1 h2
             exact ⟨ys, k1, k2, k3⟩
           refine ⟨xs, .agg hl (by simpa using g1) fun i o u hi => by simpa using (g3 i o u hi).2, by rw [g1, hlen]; rfl, ?_⟩
           intro j v hj
           have := g4 j v hj
           rwa [Nat.sub_zero, List.drop_zero, List.take_of_length_le (Nat.le_of_eq hlen)] at this
         · exact absurd hp (by simp))
      | exact absurd hp (by simp)
end
end Go.Proofs.Ytffiicopifmmfaa.Ai
