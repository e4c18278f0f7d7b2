/-
  PAMATH: the lists of places, in plain Lean; the owners' row that FloorPartition fills.
-/
import Derived.Test.YtcbghchciplfcaaFlRef3
namespace Go.Proofs.Ytcbghchciplfcaa
set_option linter.unusedVariables false
set_option linter.unusedSimpArgs false
set_option maxRecDepth 100000
open Go.RowKit

theorem placesTo_spec (l : List UInt8) (o : Int) : ∀ k, k ≤ l.length → (placesTo l o k).Pairwise (· < ·) ∧ ∀ x, x ∈ placesTo l o k ↔ ∃ j : Nat, j < k ∧ x = (j : Int) ∧ ownerS (l.getD j 0) = o := by
  intro k
  induction k with
  | zero => intro _; exact ⟨List.Pairwise.nil, fun x => by simp [placesTo]⟩
  | succ k ih =>
    intro hk
    obtain ⟨h1, h2⟩ := ih (by omega)
    have hc : l[k]? = some l[k] := List.getElem?_eq_getElem (by omega)
    have hd : l.getD k 0 = l[k] := by simp [List.getD, hc]
    by_cases he : ownerS l[k] = o
    · rw [placesTo_yes hc he]
      refine ⟨List.pairwise_append.2 ⟨h1, List.pairwise_singleton _ _, fun x hx y hy => ?_⟩, fun x => ?_⟩
      · obtain ⟨j, hj, rfl, _⟩ := (h2 x).1 hx
        simp at hy
        omega
      · rw [List.mem_append, h2]
        constructor
        · rintro (⟨j, hj, e, ho⟩ | h)
          · exact ⟨j, by omega, e, ho⟩
          · simp at h
            exact ⟨k, by omega, h, by rw [hd]; exact he⟩
        · rintro ⟨j, hj, e, ho⟩
          by_cases hjk : j = k
          · right; simp [e, hjk]
          · left; exact ⟨j, by omega, e, ho⟩
    · rw [placesTo_no hc he]
      refine ⟨h1, fun x => ?_⟩
      rw [h2]
      constructor
      · rintro ⟨j, hj, e, ho⟩
        exact ⟨j, by omega, e, ho⟩
      · rintro ⟨j, hj, e, ho⟩
        by_cases hjk : j = k
        · subst hjk; rw [hd] at ho; exact absurd ho he
        · exact ⟨j, by omega, e, ho⟩

theorem places_spec (l : List UInt8) (o : Int) : (placesS l o).Pairwise (· < ·) ∧ ∀ x, x ∈ placesS l o ↔ ∃ j : Nat, j < l.length ∧ x = (j : Int) ∧ ownerS (l.getD j 0) = o := placesTo_spec l o l.length (Nat.le_refl _)
def wt (t : Nat) : Int := if t = 3 then -2 else (t : Int)
def valS (t : Nat) (o : Int) : Int := if (0 ≤ o ∧ o < (t : Int)) ∨ (t = 4 ∧ o = -2) then o else -1
def inS (l : List UInt8) (t i j : Nat) : Int := if (j : Int) ∈ (placesS l (wt t)).take i then wt t else valS t (ownerS (l.getD j 0))
section
variable {l : List UInt8} {t i : Nat}
theorem in_zero (j : Nat) : inS l t 0 j = valS t (ownerS (l.getD j 0)) := by unfold inS; rw [List.take_zero, if_neg (by simp)]
theorem val_zero (o : Int) : valS 0 o = -1 := by unfold valS; rw [if_neg (by omega)]
theorem in_at {x : Int} (h : (placesS l (wt t))[i]? = some x) : ∃ q : Nat, x = (q : Int) ∧ q < l.length ∧ ownerS (l.getD q 0) = wt t := by
  have := List.mem_of_getElem? h
  obtain ⟨j, hj, e, ho⟩ := ((places_spec l (wt t)).2 x).1 this
  exact ⟨j, e, hj, ho⟩
theorem in_asc {x y : Int} (h : (placesS l (wt t))[i]? = some x) (h' : (placesS l (wt t))[i + 1]? = some y) : x < y := by
  have hp := (places_spec l (wt t)).1
  obtain ⟨h1, h2⟩ := List.getElem?_eq_some_iff.1 h
  obtain ⟨h3, h4⟩ := List.getElem?_eq_some_iff.1 h'
  have := List.pairwise_iff_getElem.1 hp i (i + 1) h1 h3 (by omega)
  rw [← h2, ← h4]; exact this
theorem in_step {q j : Nat} (h : (placesS l (wt t))[i]? = some (q : Int)) : inS l t (i + 1) j = if j = q then wt t else inS l t i j := by
  unfold inS
  rw [List.take_add_one, h]
  by_cases hj : j = q
  · subst hj
    rw [if_pos (by simp), if_pos rfl]
  · rw [if_neg hj]
    have : ((j : Int) ∈ (placesS l (wt t)).take i ++ (some (q : Int)).toList) ↔ ((j : Int) ∈ (placesS l (wt t)).take i) := by
      simp; omega
    by_cases hm : (j : Int) ∈ (placesS l (wt t)).take i
    · rw [if_pos hm, if_pos (this.2 hm)]
    · rw [if_neg hm, if_neg (fun h => hm (this.1 h))]
theorem in_fresh {q : Nat} (ht : t ≤ 3) (h : (placesS l (wt t))[i]? = some (q : Int)) : inS l t i q = -1 := by
  obtain ⟨q', e, hq, ho⟩ := in_at h
  obtain rfl : q = q' := by omega
  unfold inS
  rw [if_neg, ho]
  · unfold valS wt
    by_cases h3 : t = 3
    · rw [if_pos h3, if_neg (by omega)]
    · rw [if_neg h3, if_neg (by omega)]
  · intro hm
    have hp := (places_spec l (wt t)).1
    obtain ⟨h1, h2⟩ := List.getElem?_eq_some_iff.1 h
    obtain ⟨k, hk, e2⟩ := List.getElem_of_mem hm
    rw [List.getElem_take] at e2
    have hk' : k < i := by rw [List.length_take] at hk; omega
    have := List.pairwise_iff_getElem.1 hp k i (by omega) h1 hk'
    rw [e2, h2] at this
    omega
theorem in_last {j : Nat} (ht : t ≤ 3) (hj : j < l.length) (ho : ownerS (l.getD j 0) ≤ 2) : inS l t (placesS l (wt t)).length j = valS (t + 1) (ownerS (l.getD j 0)) := by
  unfold inS
  rw [List.take_length]
  have hm := (places_spec l (wt t)).2 (j : Int)
  by_cases he : ownerS (l.getD j 0) = wt t
  · rw [if_pos (hm.2 ⟨j, hj, rfl, he⟩), he]
    unfold valS wt
    split
    · rw [if_pos (by omega)]
    · rw [if_pos (by omega)]
  · rw [if_neg (fun h => by
      obtain ⟨j', hj', e, ho'⟩ := hm.1 h
      obtain rfl : j = j' := by omega
      exact he ho')]
    unfold wt at he
    unfold valS
    by_cases h3 : t = 3
    · rw [if_pos h3] at he
      by_cases h : (0 ≤ ownerS (l.getD j 0) ∧ ownerS (l.getD j 0) < (t : Int)) ∨ (t = 4 ∧ ownerS (l.getD j 0) = -2)
      · rw [if_pos h, if_pos (by omega)]
      · rw [if_neg h, if_neg (by omega)]
    · rw [if_neg h3] at he
      by_cases h : (0 ≤ ownerS (l.getD j 0) ∧ ownerS (l.getD j 0) < (t : Int)) ∨ (t = 4 ∧ ownerS (l.getD j 0) = -2)
      · rw [if_pos h, if_pos (by omega)]
      · rw [if_neg h, if_neg (by omega)]
theorem val_last {o : Int} (h1 : -2 ≤ o) (h2 : o ≤ 2) : valS 4 o = o := by
  unfold valS
  by_cases h : (0 ≤ o ∧ o < ((4 : Nat) : Int)) ∨ ((4 : Nat) = 4 ∧ o = -2)
  · rw [if_pos h]
  · rw [if_neg h]; omega
theorem owner_bd {x : UInt8} (h : cellB x = true) : -2 ≤ ownerS x ∧ ownerS x ≤ 2 := by
  have hx : x.toNat ≤ 3 ∨ x.toNat = 255 := by unfold cellB at h; simpa using h
  rw [ownerS_eq']
  split <;> omega
theorem owner_wall {x : UInt8} (h : cellB x = true) : (ownerS x == -1) = ((x.toNat : Int) == 0) := by
  have hx : x.toNat ≤ 3 ∨ x.toNat = 255 := by unfold cellB at h; simpa using h
  rw [ownerS_eq']
  by_cases h0 : x.toNat = 0
  · rw [h0]; rfl
  · have e2 : ((x.toNat : Int) == 0) = false := by simp; omega
    rw [e2]
    split
    · rfl
    · simp; omega
end

/-- the floor in a variable, and the row of owners. -/
structure PaW (w X : World) (a b : Int) (A : Option Addr) (n c : Nat) (l : List UInt8) (go : Nat) (f : Nat → Int) : Prop where
  kf : Blk X w.heap.size 30 (b3 a b (.slice A n c))
  rf : Reads X w.heap.size 1 A n (bv l)
  row : ∃ ow : List Int, (∀ j, j < n → ow[j]? = some (f j)) ∧ X.ownsRow (w.heap.size + 1) 3 1 (.slice (some ⟨go, 0, none⟩) n n) n (iv ow)
  bel : Below w.heap.size w X
section
variable {w X X' : World} {a b : Int} {A : Option Addr} {n c : Nat} {l : List UInt8} {go : Nat} {f g : Nat → Int}
theorem PaW.next (h : PaW w X a b A n c l go f) (hb : Below X.heap.size X X') : PaW w X' a b A n c l go f :=
  ⟨h.kf.below hb h.kf.lt, h.rf.below (hb.mono h.bel.size), by
    obtain ⟨ow, h1, h2⟩ := h.row
    exact ⟨ow, h1, own_below h2 hb (fun y hy => (h2.lt y hy).2)⟩, h.bel.trans (hb.mono h.bel.size)⟩
theorem PaW.cong (h : PaW w X a b A n c l go f) (hf : ∀ j, j < n → f j = g j) : PaW w X a b A n c l go g :=
  ⟨h.kf, h.rf, by
    obtain ⟨ow, h1, h2⟩ := h.row
    exact ⟨ow, fun j hj => by rw [h1 j hj, hf j hj], h2⟩, h.bel⟩
theorem PaW.ge (h : PaW w X a b A n c l go f) : w.heap.size + 1 ≤ go ∧ go < X.heap.size := by
  obtain ⟨ow, h1, h2⟩ := h.row
  exact h2.lt go rfl
theorem PaW.set (h : PaW w X a b A n c l go f) (q : Nat) (v : Int) : PaW w (X.setCell ⟨go, q, none⟩ (.int .i64 v)) a b A n c l go (fun j => if j = q then v else f j) := by
  have hl := h.ge.1
  obtain ⟨ow, h1, h2⟩ := h.row
  refine ⟨h.kf.far (by simp; omega) _, h.rf.setCell (by simp; omega) _, ⟨ow.set q v, fun j hj => ?_, ?_⟩, h.bel.setCell (by simp; omega) _⟩
  · have hlen : ow.length = n := by have := h2.1; simpa using this
    by_cases hjq : j = q
    · subst hjq; simp [hlen, hj]
    · rw [if_neg hjq, List.getElem?_set_ne (fun e => hjq e.symm)]; exact h1 j hj
  · have := (h2.stored q (.int .i64 v)).1
    rwa [show (iv ow).set q (.int .i64 v) = iv (ow.set q v) from by simp [iv, List.map_set]] at this
theorem PaW.cell (h : PaW w X a b A n c l go f) {q : Nat} (hq : q < n) : X.cell? ⟨go, q, none⟩ = some (.int .i64 (f q)) := by
  obtain ⟨ow, h1, h2⟩ := h.row
  rw [h2.cellAt q (by omega)]
  exact iv_at (h1 q hq)
theorem PaW.frozen (h : PaW w X a b A n c l go f) (q : Nat) : X.frozen? ⟨go, q, none⟩ = false := by
  obtain ⟨ow, h1, h2⟩ := h.row
  exact h2.frozenAt q
theorem paW_made {x : World} (hkf : FBox w x a b (.slice A n c)) (hrf : Reads x w.heap.size 1 A n (bv l)) (hn : n ≤ 1000) :
    PaW w (x.alloc (.cells (madeCells #[Value.int .i64 0] n) 3)) a b A n c l x.heap.size (fun _ => 0) := by
  have hbw := hkf.bel.size
  have hlt := hkf.kf.lt
  refine ⟨hkf.kf.alloc _, hrf.alloc hbw _, ⟨List.replicate n 0, fun j hj => by simp [hj], ?_⟩, hkf.bel.alloc hbw _⟩
  have := World.ownsRow_lit (e := 3) (base := w.heap.size + 1) (size := 1) x (madeCells #[Value.int .i64 0] n) n (by omega) (by unfold maxLen; omega) (by rw [Nat.mul_one]; exact size_madeCells _ _)
  rwa [toList_madeCells_one, show List.replicate n (Value.int .i64 0) = iv (List.replicate n 0) from by simp [iv]] at this
end
end Go.Proofs.Ytcbghchciplfcaa
