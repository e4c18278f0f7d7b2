/-
  CFGFRAME: a team and a config among the arguments, opened.
-/
import Derived.Test.YtcbghchciplfcaaFrame
import Derived.Test.YtcbghchciplfcaaCfgMem
import Derived.Lib.SmallJoins
import Derived.Deep.Slices
namespace Go.Proofs.Ytcbghchciplfcaa
set_option linter.unusedVariables false
set_option linter.unusedSimpArgs false
set_option maxRecDepth 100000
open Go.ChangeShapes Go.WideShapes Go.ChangeAt Go.RowKit Go.Deep Go.WideElems Go.Maps

section
variable {H : Type} {enc : TypeId × Value → H} {W : World}
theorem open_irow {P : Program} {t e : TypeId} (ht : P.underlying t = some (.slice e)) (he : P.underlying e = some (.int .i64)) (hc : P.cellsOf e = 1) (hb : P.bytesOf e = 8) {fuel : Nat} {cs : List Value} {x : DataW H × List MemPlace}
    (hf : DataW.trod enc P W 0 (fun _ => true) true fuel t cs = some x) (hsz : ∀ k ∈ x.1.weights P t, k ≤ reachBytes) :
    ∃ A n c l, cs = [.slice A n c] ∧ Reads W W.heap.size 1 A n (iv l) ∧ n ≤ c ∧ n ≤ 17592186044415 := by
  rcases open_ints ht he hc hf with ⟨rfl, _⟩ | ⟨a, n, c, zs, rfl, _, hl, hm, hz, hx, hcell, hwz⟩
  · exact ⟨none, 0, 0, [], rfl, Reads.none_, Nat.le_refl _, by omega⟩
  · simp only [if_true] at hz
    have hw := hsz ((lits (H := H) .i64 (zs.take n)).length * 8 + (lits (H := H) .i64 (zs.drop n)).length * 8) (by rw [hx]; simp [DataW.weights, ht, hb]; left; omega)
    simp only [lits, List.length_map, List.length_take, List.length_drop, reachBytes] at hw
    refine ⟨some a, n, c, zs.take n, rfl, ⟨by simp [iv]; omega, fun hn => ⟨a, rfl, ?_, fun k u hu => ?_⟩⟩, hl, by omega⟩
    · have h0 := hcell 0 (by omega)
      have := World.block_lt_of_cell? W _ h0
      rwa [block_of_add] at this
    · simp only [iv, List.getElem?_map, Option.map_eq_some_iff] at hu
      obtain ⟨z, hz1, rfl⟩ := hu
      rw [List.getElem?_take] at hz1
      split at hz1
      · have hkz : k < zs.length := by omega
        rw [List.getElem?_eq_getElem hkz] at hz1
        injection hz1 with hz1
        subst hz1
        rw [hcell k hkz]
        simp [List.getD, List.getElem?_eq_getElem hkz]
      · cases hz1
theorem open_brow {P : Program} {t e : TypeId} (ht : P.underlying t = some (.slice e)) (he : P.underlying e = some (.int .u8)) (hc : P.cellsOf e = 1) (hb : P.bytesOf e = 1) {fuel : Nat} {cs : List Value} {x : DataW H × List MemPlace}
    (hf : DataW.trod enc P W 0 (fun _ => true) true fuel t cs = some x) (lt : ∀ y ∈ x.2, y.block < W.heap.size) (hsz : ∀ k ∈ x.1.weights P t, k ≤ reachBytes) :
    ∃ A n c l, cs = [.slice A n c] ∧ Reads W W.heap.size 1 A n (bv l) ∧ n ≤ c ∧ n ≤ 140737488351232 := by
  obtain ⟨A, n, c, rfl⟩ := Go.Joins.slice_form ht hf
  obtain ⟨l, h1, h2, h3⟩ := open_bytes (W := W) (enc := enc) ht he hc hb (d := x.1) (p := x.2) ⟨fuel, by simpa [Value.cells] using hf⟩ lt (ts := [t]) (ds := [x.1]) (by simpa [DataW.weightsEach] using hsz) (j := 0) rfl rfl
  exact ⟨A, n, c, l, rfl, h1, h2, by omega⟩
theorem eight {α : Type} {cs : List α} (h : cs.length = 8) : ∃ a b c d e f g i, cs = [a, b, c, d, e, f, g, i] := by
  match cs, h with
  | [a, b, c, d, e, f, g, i], _ => exact ⟨a, b, c, d, e, f, g, i, rfl⟩
theorem six_ {α : Type} {cs : List α} (h : cs.length = 6) : ∃ a b c d e f, cs = [a, b, c, d, e, f] := by
  match cs, h with
  | [a, b, c, d, e, f], _ => exact ⟨a, b, c, d, e, f, rfl⟩
theorem four_ {α : Type} {cs : List α} (h : cs.length = 4) : ∃ a b c d, cs = [a, b, c, d] := by
  match cs, h with
  | [a, b, c, d], _ => exact ⟨a, b, c, d, rfl⟩
theorem three_ {α : Type} {cs : List α} (h : cs.length = 3) : ∃ a b c, cs = [a, b, c] := by
  match cs, h with
  | [a, b, c], _ => exact ⟨a, b, c, rfl⟩
theorem cT : Try.prog.cellsOf 24 = 8 := by kernel_rfl
theorem bT : Try.prog.bytesOf 24 = 112 := by kernel_rfl
theorem cC : Try.prog.cellsOf 36 = 6 := by kernel_rfl
theorem cF : Try.prog.cellsOf 30 = 3 := by kernel_rfl
theorem cI : Try.prog.cellsOf 3 = 1 := by kernel_rfl
theorem bI : Try.prog.bytesOf 3 = 8 := by kernel_rfl
theorem cU : Try.prog.cellsOf 5 = 1 := by kernel_rfl
theorem bU : Try.prog.bytesOf 5 = 1 := by kernel_rfl
theorem cI' : Try.prog.cellsOf 22 = 1 := by kernel_rfl
theorem cU' : Try.prog.cellsOf 28 = 1 := by kernel_rfl
theorem cT' : Try.prog.cellsOf 33 = 1 := by kernel_rfl
theorem cQ' : Try.prog.cellsOf 34 = 1 := by kernel_rfl
theorem open_team {fuel : Nat} {cs : List Value} {x : DataW H × List MemPlace} (hf : DataW.trod enc Try.prog W 0 (fun _ => true) true fuel 24 cs = some x) (hsz : ∀ k ∈ x.1.weights Try.prog 24, k ≤ reachBytes) :
    ∃ t : Tm, cs = t.cells ∧ t.In W W.heap.size := by
  have hs := Try.underlying24
  obtain ⟨xs, n, rfl, rfl, hl, hxl, hx⟩ := DataW.trod_struct hs hf
  rw [cT] at hl
  obtain ⟨c0, c1, c2, c3, c4, c5, c6, c7, rfl⟩ := eight hl
  obtain ⟨x0, x1, x2, x3, x4, x5, x6, x7, rfl⟩ := eight hxl
  have h0 := hx 0 _ rfl; have h1 := hx 1 _ rfl; have h2 := hx 2 _ rfl; have h3 := hx 3 _ rfl; have h4 := hx 4 _ rfl; have h5 := hx 5 _ rfl; have h6 := hx 6 _ rfl; have h7 := hx 7 _ rfl
  clear hx hf
  simp [cI, cI'] at h0 h1 h2 h3 h4 h5 h6 h7
  simp only [DataW.weights, hs, List.map] at hsz
  simp [DataW.weightsEach] at hsz
  obtain ⟨hA, hn, hc, hs', e0, r0, b0, m0⟩ := open_irow Try.underlying22 Try.underlying3 cI bI h0 (fun k hk => hsz k (by simp [hk]))
  obtain ⟨pA, pn, pc, ps', e1, r1, b1, m1⟩ := open_irow Try.underlying22 Try.underlying3 cI bI h1 (fun k hk => hsz k (by simp [hk]))
  obtain ⟨dA, dn, dc, ds', e2, r2, b2, m2⟩ := open_irow Try.underlying22 Try.underlying3 cI bI h2 (fun k hk => hsz k (by simp [hk]))
  obtain ⟨z3, e3, _, _⟩ := DataW.trod_int Try.underlying3 h3
  obtain ⟨z4, e4, _, _⟩ := DataW.trod_int Try.underlying3 h4
  obtain ⟨z5, e5, _, _⟩ := DataW.trod_int Try.underlying3 h5
  obtain ⟨z6, e6, _, _⟩ := DataW.trod_int Try.underlying3 h6
  obtain ⟨z7, e7, _, _⟩ := DataW.trod_int Try.underlying3 h7
  simp at e0 e1 e2 e3 e4 e5 e6 e7
  subst e0 e1 e2 e3 e4 e5 e6 e7
  exact ⟨⟨hA, hn, hc, pA, pn, pc, dA, dn, dc, ⟨hs', ps', ds', z3, z4, z5, z6, z7⟩⟩, rfl, ⟨r0, r1, r2, ⟨b0, m0⟩, ⟨b1, m1⟩, ⟨b2, m2⟩⟩⟩
instance : Inhabited Tm := ⟨⟨none, 0, 0, none, 0, 0, none, 0, 0, ⟨[], [], [], 0, 0, 0, 0, 0⟩⟩⟩
theorem weightsAll_mem {P : Program} {e : TypeId} {d : DataW H} {l : List (DataW H)} (h : d ∈ l) : ∀ k ∈ d.weights P e, k ∈ DataW.weightsAll P e l := by
  induction l with
  | nil => cases h
  | cons y l ih =>
    intro k hk
    rw [DataW.weightsAll, List.mem_append]
    rcases List.mem_cons.1 h with rfl | h
    · exact .inl hk
    · exact .inr (ih h k hk)
theorem open_teams {fuel : Nat} {cs : List Value} {x : DataW H × List MemPlace} (hf : DataW.trod enc Try.prog W 0 (fun _ => true) true fuel 33 cs = some x) (hsz : ∀ k ∈ x.1.weights Try.prog 33, k ≤ reachBytes) :
    ∃ (A : Option Addr) (n c : Nat) (ts : List Tm), cs = [.slice A n c] ∧ Reads W W.heap.size 8 A n (ts.flatMap Tm.cells) ∧ (∀ t ∈ ts, t.In W W.heap.size) ∧ n ≤ c ∧ n ≤ 1256584717422 := by
  have hs := Try.underlying33
  rcases open_slice hs hf with ⟨rfl, _⟩ | ⟨a, n, c, m, q, D, Pl, rfl, _, hl, hm, hmm, rfl, hx⟩
  · exact ⟨none, 0, 0, [], rfl, Reads.none_, by simp, Nat.le_refl _, by omega⟩
  · simp only [if_true] at hmm
    rw [hmm] at hx hsz
    simp only [DataW.weights, hs, bT] at hsz
    have hw := hsz _ (by simp; exact .inl rfl)
    simp [reachBytes] at hw
    obtain ⟨T, hT⟩ := choose_lt (α := Tm) (n := n) (p := fun i t => t.In W W.heap.size ∧ ∀ j u, t.cells[j]? = some u → W.cell? (a.add (i * 8 + j)) = some u) (fun i hi => by
      obtain ⟨cs', h1, h2⟩ := hx i (by omega)
      obtain ⟨t, rfl, ht⟩ := open_team h2 (fun k hk => hsz k (by
        simp only [List.mem_cons, List.mem_append]
        exact .inr (.inl (weightsAll_mem (List.mem_map.2 ⟨i, List.mem_range.2 hi, rfl⟩) k hk))))
      obtain ⟨_, hlen, hcc⟩ := World.cells?_some h1
      rw [cT] at hlen hcc
      refine ⟨t, ht, fun j u hu => ?_⟩
      have hj : j < 8 := by
        rcases Nat.lt_or_ge j 8 with h | h
        · exact h
        · rw [List.getElem?_eq_none (by rw [hlen]; exact h)] at hu; cases hu
      rw [← add_of_add, hcc j hj, hu])
    have hlen : ((List.range n).map T).length = n := by simp
    refine ⟨some a, n, c, (List.range n).map T, rfl, ⟨by rw [flat_cells_length, hlen], fun hn => ⟨a, rfl, ?_, fun k u hu => ?_⟩⟩, ?_, hl, by omega⟩
    · have := (hT 0 hn).2 0 _ rfl
      have := World.block_lt_of_cell? W _ this
      rwa [block_of_add] at this
    · have hk : k < n * 8 := by
        have := (List.getElem?_eq_some_iff.1 hu).1
        rwa [flat_cells_length, hlen] at this
      have hq : k / 8 < n := by omega
      have hg : ((List.range n).map T)[k / 8]? = some (T (k / 8)) := by simp [hq]
      have hr : k % 8 < (T (k / 8)).cells.length := by simp [Tm.cells]; omega
      have h1 := flat_cells_at _ (k / 8) _ hg (k % 8) _ (List.getElem?_eq_getElem hr)
      rw [show k / 8 * 8 + k % 8 = k by omega] at h1
      have h2 := (hT (k / 8) hq).2 (k % 8) _ (List.getElem?_eq_getElem hr)
      rw [show k / 8 * 8 + k % 8 = k by omega] at h2
      rw [h2, ← h1, hu]
    · intro t ht
      obtain ⟨i, hi, rfl⟩ := List.mem_map.1 ht
      exact (hT i (List.mem_range.1 hi)).1
theorem open_config {base : Nat} {v : Value} {d : DataW H} {p : List MemPlace} (hv : Value.okWide Try.prog W .any base 36 v) (h : DataW.Trod enc Try.prog W 0 (fun _ => true) true 36 v d p) (lt : ∀ x ∈ p, x.block < W.heap.size) {ts : List TypeId} {ds : List (DataW H)}
    (hz : (DataW.weightsEach Try.prog ts ds).all (· ≤ reachBytes) = true) {j : Nat} (htj : ts[j]? = some 36) (hdj : ds[j]? = some d) :
    ∃ c : Cm, v = c.val ∧ c.In W W.heap.size := by
  have hs := Try.underlying36
  have hsz : ∀ k ∈ d.weights Try.prog 36, k ≤ reachBytes := fun k hk => by simpa using List.all_eq_true.1 hz k (DataW.weights_mem_each htj hdj k hk)
  clear hz
  obtain ⟨cs, rfl, _⟩ := okWide_struct hs hv
  obtain ⟨fuel, hf⟩ := h
  obtain ⟨xs, n, rfl, hx0, hl, hxl, hx⟩ := DataW.trod_struct hs hf
  simp only [Prod.mk.injEq] at hx0
  obtain ⟨rfl, rfl⟩ := hx0
  rw [cC] at hl
  obtain ⟨c0, c1, c2, c3, c4, c5, hcs⟩ := six_ hl
  rw [hcs] at hx
  have hcs' : cs = #[c0, c1, c2, c3, c4, c5] := by
    have h1 : (Value.agg cs).cells = cs := rfl
    rw [h1] at hcs
    rw [← Array.toArray_toList (xs := cs), hcs]
  subst hcs'
  obtain ⟨x0, x1, x2, x3, rfl⟩ := four_ hxl
  have h0 := hx 0 _ rfl; have h1 := hx 1 _ rfl; have h2 := hx 2 _ rfl; have h3 := hx 3 _ rfl
  clear hx hf hcs
  simp [cF, cU', cT', cQ'] at h0 h1 h2 h3
  simp only [DataW.weights, hs, List.map] at hsz
  simp [DataW.weightsEach] at hsz
  simp at lt
  have hsF := Try.underlying30
  have wF : ∀ k ∈ x0.1.weights Try.prog 30, k ≤ reachBytes := fun k hk => hsz k (by simp [hk])
  have lF : ∀ y ∈ x0.2, y.block < W.heap.size := fun y hy => lt y (by simp [hy])
  obtain ⟨xs, n', rfl, rfl, _, hxl, hx⟩ := DataW.trod_struct hsF h0
  obtain ⟨f0, f1, f2, rfl⟩ := three_ hxl
  have g0 := hx 0 _ rfl; have g1 := hx 1 _ rfl; have g2 := hx 2 _ rfl
  clear hx h0
  simp [cI, cU'] at g0 g1 g2
  simp only [DataW.weights, hsF, List.map] at wF
  simp [DataW.weightsEach] at wF
  simp at lF
  obtain ⟨a, ea, _, _⟩ := DataW.trod_int Try.underlying3 g0
  obtain ⟨b, eb, _, _⟩ := DataW.trod_int Try.underlying3 g1
  obtain ⟨fA, fn, fc, fl, ef, fr, fb, fm⟩ := open_brow Try.underlying28 Try.underlying5 cU bU g2 (fun y hy => lF y (by simp [hy])) (fun k hk => wF k (by simp [hk]))
  obtain ⟨sA, sn, sc, sl, es, sr, sb, sm⟩ := open_brow Try.underlying28 Try.underlying5 cU bU h1 (fun y hy => lt y (by simp [hy])) (fun k hk => hsz k (by simp [hk]))
  obtain ⟨tA, tn, tc, tl, et, tr, ti, tb, tm⟩ := open_teams h2 (fun k hk => hsz k (by simp [hk]))
  obtain ⟨z, ez, _, wz⟩ := DataW.trod_int Try.underlying34 h3
  obtain ⟨st, rfl, hst⟩ := u64_wf wz
  simp at ea eb ef es et ez
  subst ea eb ef es et ez
  exact ⟨⟨a, b, fA, fn, fc, fl, sA, sn, sc, sl, tA, tn, tc, tl, st⟩, rfl, ⟨fr, sr, tr, ti, ⟨fb, fm⟩, ⟨sb, sm⟩, ⟨tb, tm⟩, hst⟩⟩
theorem open_teamv {base : Nat} {v : Value} {d : DataW H} {p : List MemPlace} (hv : Value.okWide Try.prog W .any base 24 v) (h : DataW.Trod enc Try.prog W 0 (fun _ => true) true 24 v d p) {ts : List TypeId} {ds : List (DataW H)}
    (hz : (DataW.weightsEach Try.prog ts ds).all (· ≤ reachBytes) = true) {j : Nat} (htj : ts[j]? = some 24) (hdj : ds[j]? = some d) :
    ∃ t : Tm, v = t.val ∧ t.In W W.heap.size := by
  obtain ⟨cs, rfl, _⟩ := okWide_struct Try.underlying24 hv
  obtain ⟨fuel, hf⟩ := h
  obtain ⟨t, e, ht⟩ := open_team hf (fun k hk => by simpa using List.all_eq_true.1 hz k (DataW.weights_mem_each htj hdj k hk))
  refine ⟨t, ?_, ht⟩
  have h1 : (Value.agg cs).cells = cs := rfl
  rw [h1] at e
  rw [show t.val = .agg t.cells.toArray from rfl, ← e]
end
end Go.Proofs.Ytcbghchciplfcaa
