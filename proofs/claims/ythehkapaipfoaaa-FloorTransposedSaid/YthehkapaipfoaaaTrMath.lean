/-
  TRMATH: a floor with rows and columns exchanged, in plain Lean; the two floors that FloorTransposed holds.
-/
import Derived.Test.YthehkapaipfoaaaFlRef3
import Derived.Test.YthehkapaipfoaaaTextMath
namespace Go.Proofs.Ythehkapaipfoaaa
set_option linter.unusedVariables false
set_option linter.unusedSimpArgs false
set_option maxRecDepth 100000
open Go.RowKit

/-- the place from which cell i of the exchanged floor comes. -/
def trI (a b : Int) (i : Nat) : Nat := ((i : Int) % b * a + (i : Int) / b).toNat
def trL (l : List UInt8) (a b : Int) (k : Nat) : List UInt8 := (List.range k).map (fun i => l.getD (trI a b i) 0)
theorem trL_len (l : List UInt8) (a b : Int) (k : Nat) : (trL l a b k).length = k := by simp [trL]
theorem trL_snoc (l : List UInt8) (a b : Int) (k : Nat) : trL l a b (k + 1) = trL l a b k ++ [l.getD (trI a b k) 0] := by simp [trL, List.range_succ]
theorem trL_at (l : List UInt8) (a b : Int) {k j : Nat} (h : j < k) : (trL l a b k)[j]? = some (l.getD (trI a b j) 0) := by simp [trL, h]

/-- the exchanged coordinates, both ways. -/
theorem tr_bd {a b : Int} (ha : 2 ≤ a ∧ a ≤ 8) (hb : 2 ≤ b ∧ b ≤ 8) {i : Int} (hi : 0 ≤ i ∧ i < a * b) :
    (0 ≤ i % b ∧ i % b < b) ∧ (0 ≤ i / b ∧ i / b < a) ∧ (0 ≤ i % b * a ∧ i % b * a ≤ 64) ∧ 0 ≤ i % b * a + i / b ∧ i % b * a + i / b < a * b ∧ (i % b * a + i / b) % a = i / b ∧ (i % b * a + i / b) / a = i % b := by
  obtain ⟨x0, x1, y0, y1, e⟩ := coords (h := a) hb (by rw [Int.mul_comm]; exact hi)
  obtain ⟨p1, p2, p3, p4⟩ := placed (h := b) ha ⟨y0, y1⟩ ⟨x0, x1⟩
  have := (size_bd ha hb).2
  exact ⟨⟨x0, x1⟩, ⟨y0, y1⟩, ⟨Int.mul_nonneg x0 (by omega), by omega⟩, p1, p2, p3, p4⟩
theorem floorB_tr {a b : Int} {l : List UInt8} (h : floorB a b l = true) : floorB b a (trL l a b l.length) = true := by
  obtain ⟨⟨ha, hb⟩, hl, hall⟩ := floorB_yes h
  unfold floorB
  rw [(gridB_iff _ _).2 ⟨hb, ha⟩, trL_len, decide_eq_true (by rw [hl, Int.mul_comm])]
  simp only [Bool.true_and, List.all_eq_true]
  intro x hx
  obtain ⟨j, hj, rfl⟩ := List.getElem_of_mem hx
  rw [trL_len] at hj
  have e := trL_at l a b hj
  rw [List.getElem?_eq_getElem (by rw [trL_len]; exact hj)] at e
  injection e with e
  rw [e]
  obtain ⟨_, _, _, z0, z1, _⟩ := tr_bd ha hb (i := (j : Int)) ⟨by omega, by omega⟩
  have hz : trI a b j < l.length := by unfold trI; omega
  rw [show l.getD (trI a b j) 0 = l[trI a b j] from by simp [List.getD, List.getElem?_eq_getElem hz]]
  exact List.all_eq_true.1 hall _ (List.getElem_mem hz)
/-- the character of a place. -/
theorem draw_at {l : List UInt8} {a : Nat} (ha : 1 ≤ a) {j : Nat} : ∀ k, k ≤ l.length → j < k → (drawTo l a k)[j + j / a]? = some (markB (l.getD j 0)) := by
  intro k
  induction k with
  | zero => intro _ h; omega
  | succ k ih =>
    intro hk hj
    have hc : l[k]? = some l[k] := List.getElem?_eq_getElem (by omega)
    have hln := draw_len (l := l) ha k (by omega)
    have hone : (drawTo l a k ++ [markB l[k]])[j + j / a]? = some (markB (l.getD j 0)) := by
      by_cases hjk : j < k
      · have := ih (by omega) hjk
        rw [List.getElem?_append_left (List.getElem?_eq_some_iff.1 this).1]
        exact this
      · obtain rfl : j = k := by omega
        rw [List.getElem?_append_right (by omega), hln]
        simp [List.getD, hc]
    by_cases hm : (k : Int) % (a : Int) = (a : Int) - 1
    · rw [drawTo_lf hc hm, List.getElem?_append_left (List.getElem?_eq_some_iff.1 hone).1]
      exact hone
    · rw [drawTo_no hc hm]
      exact hone

/-- what the loop over the places needs to know of one. -/
theorem tr_place {a b : Int} {l : List UInt8} (h : floorB a b l = true) {i : Nat} (hi : i < l.length) {D E : ByteArray} (hD : D.data.toList = drawTo l a l.length) (hE : E.data.toList = drawTo (trL l a b l.length) b l.length) :
    ∃ (x y r s u v : Nat) (c m : UInt8) (o : Int), locateS a b (i : Int) = ((x : Int), (y : Int), 0) ∧ placeS b a (y : Int) (x : Int) = ((r : Int), 0) ∧
      ownS a b l (i : Int) = (o, 0) ∧ ownS b a (trL l a b l.length) (r : Int) = (o, 0) ∧
      (y : Int) * (a + 1) = (u : Int) ∧ (x : Int) * (b + 1) = (v : Int) ∧ D.data.toList[u + x]? = some m ∧ E.data.toList[v + y]? = some m ∧ x ≤ 8 ∧ y ≤ 8 ∧ u ≤ 100 ∧ v ≤ 100 := by
  have hf' := floorB_tr h
  have hh := h
  obtain ⟨⟨ha, hb⟩, hl, hall⟩ := floorB_yes h
  have hi' : 0 ≤ (i : Int) ∧ (i : Int) < a * b := ⟨by omega, by omega⟩
  obtain ⟨x0, x1, y0, y1, e⟩ := coords (h := b) ha hi'
  obtain ⟨p1, p2, p3, p4⟩ := placed (w := b) (h := a) hb ⟨y0, y1⟩ ⟨x0, x1⟩
  have hs := (size_bd ha hb).2
  have hon : onB a b (i : Int) = true := (onB_iff _ _ _).2 ⟨⟨ha, hb⟩, hi'⟩
  obtain ⟨x, hx⟩ := Int.eq_ofNat_of_zero_le x0
  obtain ⟨y, hy⟩ := Int.eq_ofNat_of_zero_le y0
  obtain ⟨r, hr⟩ := Int.eq_ofNat_of_zero_le p1
  have hrl : r < l.length := by rw [Int.mul_comm b a] at p2; omega
  have hdiv : i / a.toNat = y := by
    obtain ⟨n, rfl⟩ := Int.eq_ofNat_of_zero_le (show 0 ≤ a by omega)
    have : ((i / n : Nat) : Int) = (y : Int) := by rw [← hy]; simp
    exact Int.ofNat.inj this
  have htr : trI a b r = i := by
    unfold trI
    rw [← hr, p3, p4, e]
    simp
  have hdr : r / b.toNat = x := by
    obtain ⟨n, rfl⟩ := Int.eq_ofNat_of_zero_le (show 0 ≤ b by omega)
    have : ((r / n : Nat) : Int) = (x : Int) := by rw [← hx, ← p4, hr]; simp
    exact Int.ofNat.inj this
  have hda := draw_at (l := l) (a := a.toNat) (by omega) (j := i) l.length (Nat.le_refl _) hi
  have hdb := draw_at (l := trL l a b l.length) (a := b.toNat) (by omega) (j := r) l.length (by rw [trL_len]; exact Nat.le_refl _) hrl
  rw [Int.toNat_of_nonneg (by omega), hdiv] at hda
  rw [Int.toNat_of_nonneg (by omega), hdr] at hdb
  have hcell : (trL l a b l.length).getD r 0 = l.getD i 0 := by simp [List.getD, trL_at l a b hrl, htr]
  rw [hcell] at hdb
  rw [hx, hy] at e hr
  have hu : (y : Int) * (a + 1) = ((y * (a.toNat + 1) : Nat) : Int) := by push_cast; rw [Int.toNat_of_nonneg (by omega)]
  have hv : (x : Int) * (b + 1) = ((x * (b.toNat + 1) : Nat) : Int) := by push_cast; rw [Int.toNat_of_nonneg (by omega)]
  have hu2 : ((y * (a.toNat + 1) : Nat) : Int) + (x : Int) = (i : Int) + (y : Int) := by rw [← hu, Int.mul_add]; omega
  have hv2 : ((x * (b.toNat + 1) : Nat) : Int) + (y : Int) = (r : Int) + (x : Int) := by rw [← hv, Int.mul_add]; omega
  refine ⟨x, y, r, 0, y * (a.toNat + 1), x * (b.toNat + 1), 0, markB (l.getD i 0), ownerS (l.getD i 0), ?_, ?_, ?_, ?_, hu, hv, ?_, ?_, by omega, by omega, by omega, by omega⟩
  · unfold locateS; rw [hon, if_pos rfl, hx, hy]
  · unfold placeS
    rw [(gridB_iff _ _).2 ⟨hb, ha⟩, (inB_iff _ _ _ _).2 ⟨by omega, by omega, by omega, by omega⟩]
    simp [hr]
  · unfold ownS; rw [if_pos hh, if_pos ⟨by omega, by omega⟩]; simp
  · unfold ownS; rw [if_pos hf', if_pos ⟨by omega, by rw [trL_len]; omega⟩, Int.toNat_natCast, hcell]
  · rw [hD, ← hda]; congr 1; omega
  · rw [hE, ← hdb]; congr 1; omega
/-- the distance of the exchanged places. -/
theorem tr_dist {a b p q : Int} (hp : onB a b p = true) (hq : onB a b q = true) :
    distS a b p q = (distI a p q, 0) ∧ distS b a (p % a * b + p / a) (q % a * b + q / a) = (distI a p q, 0) := by
  obtain ⟨⟨ha, hb⟩, hp'⟩ := (onB_iff _ _ _).1 hp
  obtain ⟨_, hq'⟩ := (onB_iff _ _ _).1 hq
  obtain ⟨_, _, _, z0, z1, e1, e2⟩ := tr_bd hb ha (i := p) (by rw [Int.mul_comm]; exact hp')
  obtain ⟨_, _, _, y0, y1, f1, f2⟩ := tr_bd hb ha (i := q) (by rw [Int.mul_comm]; exact hq')
  have h1 : onB b a (p % a * b + p / a) = true := (onB_iff _ _ _).2 ⟨⟨hb, ha⟩, z0, z1⟩
  have h2 : onB b a (q % a * b + q / a) = true := (onB_iff _ _ _).2 ⟨⟨hb, ha⟩, y0, y1⟩
  unfold distS
  rw [hp, hq, h1, h2]
  refine ⟨rfl, ?_⟩
  unfold distI
  rw [e1, e2, f1, f2, Int.add_comm]
  rfl

/-- the floor in a variable, the one of the call's own, and its row. -/
structure TW (w X : World) (a b : Int) (A : Option Addr) (n c : Nat) (l : List UInt8) (g : Nat) (v : Value) (t : List UInt8) : Prop where
  kf : Blk X w.heap.size 34 (b3 a b (.slice A n c))
  kg : Blk X g 34 (b3 b a v)
  rf : Reads X w.heap.size 1 A n (bv l)
  own : X.ownsRow (g + 1) 5 1 v t.length (bv t)
  bel : Below w.heap.size w X
  hg : w.heap.size < g
section
variable {w X X' : World} {a b : Int} {A : Option Addr} {n c : Nat} {l t t' : List UInt8} {g : Nat} {v v' : Value}
theorem TW.next (h : TW w X a b A n c l g v t) (hb : Below X.heap.size X X') : TW w X' a b A n c l g v t :=
  ⟨h.kf.below hb h.kf.lt, h.kg.below hb h.kg.lt, h.rf.below (hb.mono h.bel.size), own_below h.own hb (fun y hy => (h.own.lt y hy).2), h.bel.trans (hb.mono h.bel.size), h.hg⟩
theorem TW.app (h : TW w X a b A n c l g v t) (hb : Below (g + 1) X X') (hown : X'.ownsRow (g + 1) 5 1 v' t'.length (bv t')) : TW w (X'.setCell ⟨g, 2, none⟩ v') a b A n c l g v' t' := by
  have hg := h.hg
  refine ⟨(h.kf.below hb (by omega)).far (by simp; omega) _, ?_, (h.rf.below (hb.mono (by omega))).setCell (by simp; omega) _, own_far hown (by simp) _, (h.bel.trans (hb.mono (by omega))).setCell (by simp; omega) _, hg⟩
  have := (h.kg.below hb (by omega)).set_ 2 v'
  simpa [b3] using this
theorem TW.row {n1 c1 : Nat} {A1 : Option Addr} (h : TW w X a b A n c l g (.slice A1 n1 c1) t) (ht : t.length = n1) : Reads X X.heap.size 1 A1 n1 (bv t) := by
  have := h.own
  rw [ht] at this
  exact Reads.of_own this
theorem tW_made {x : World} (hkf : FBox w x a b (.slice A n c)) (hrf : Reads x w.heap.size 1 A n (bv l)) : TW w (x.alloc (.cells #[.int .i64 b, .int .i64 a, .slice none 0 0] 34)) a b A n c l x.heap.size (.slice none 0 0) [] := by
  have hbw := hkf.bel.size
  have hlt := hkf.kf.lt
  exact ⟨hkf.kf.alloc _, Blk.new x 34 (b3 b a (.slice none 0 0)), hrf.alloc hbw _, World.ownsRow_nil _ _ _ _, hkf.bel.alloc hbw _, by omega⟩
end
end Go.Proofs.Ythehkapaipfoaaa
