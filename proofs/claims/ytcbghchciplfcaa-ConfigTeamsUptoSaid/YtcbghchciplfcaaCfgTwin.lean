/-
  CFGTWIN: the reference's TwinTeam.
-/
import Derived.Test.YtcbghchciplfcaaCfgTeam
import Derived.Deep.MidRow
namespace Go.Proofs.Ytcbghchciplfcaa
set_option linter.unusedVariables false
set_option linter.unusedSimpArgs false
set_option maxRecDepth 100000
open Go.RowKit

theorem int_info' : (Try.prog.info? 3).map (fun i => (i.zero, i.size, i.bytes)) = some (some (.int .i64 0), 1, 8) := by kernel_rfl
theorem team_size : (Try.prog.info? 24).map (·.size) = some 8 := by kernel_rfl
theorem below_row {B g : Nat} {w w' : World} (h : Below B w w') (hg : B ≤ g) (cs : Array Value) : Below B w (w'.setRow g cs) := ⟨h.os, h.tape, h.output, by simpa using h.size, fun i hi => (setRow_other w' g i cs (by omega)).trans (h.block i hi)⟩
theorem own_row {w : World} {base : Nat} {e : TypeId} {size : Nat} {v : Value} {n : Nat} {xs : List Value} (h : w.ownsRow base e size v n xs) {g : Nat} (hp : v.ownBlock ≠ some g) (cs : Array Value) : (w.setRow g cs).ownsRow base e size v n xs := by
  obtain ⟨h1, h2⟩ := h
  refine ⟨h1, ?_⟩
  rcases h2 with h2 | ⟨g', cap, cur, rfl, b, c, d⟩
  · exact .inl h2
  · exact .inr ⟨g', cap, cur, rfl, b, (setRow_other w g g' cs (fun h => hp (by rw [← h]; rfl))).trans c, d⟩
theorem own_base {w : World} {base : Nat} {e : TypeId} {size : Nat} {v : Value} {n : Nat} {xs : List Value} (h : w.ownsRow base e size v n xs) {g : Nat} (hg : g < base) : v.ownBlock ≠ some g := by
  rcases h.2 with ⟨rfl, _⟩ | ⟨g', cap, cur, rfl, b, _⟩
  · exact fun h => by cases h
  · intro h
    injection h with h
    have h : g' = g := h
    omega
theorem below_grown {a w : World} (h : a.grownBy w none) : Below a.heap.size a w := ⟨h.os, h.tape, h.output, h.size, fun i hi => h.block i hi (fun e => by cases e)⟩
set_option maxHeartbeats 3200000 in
theorem twinTeam_any (t : Tm) (w : World) (ht : t.In w w.heap.size) :
    Calls Try.prog 30 #[t.val] w fun e w' => ∃ u : Tm, e = .returned u.val ∧ u.tm = t.tm ∧ Hid (u.Own w' w.heap.size) ∧ Below w.heap.size w w' := by
  obtain ⟨i0, hi, hz0, hz1, hz2⟩ := info_parts int_info'
  have h1 := ht.h1; have p1 := ht.p1; have d1 := ht.d1
  have BX : Hid (Below w.heap.size w ((w.alloc (.cells #[.slice t.hA t.hn t.hc, .slice t.pA t.pn t.pc, .slice t.dA t.dn t.dc, .int .i64 t.tm.lo, .int .i64 t.tm.un, .int .i64 t.tm.qu, .int .i64 t.tm.qt, .int .i64 t.tm.wi] 24)).alloc (.cells #[.slice none 0 0, .slice none 0 0, .slice none 0 0, .int .i64 0, .int .i64 0, .int .i64 0, .int .i64 0, .int .i64 0] 24))) := Lib.hid (bk_alloc (bk_alloc (Below.refl _ _) _) _)
  have KF : Hid (Blk ((w.alloc (.cells #[.slice t.hA t.hn t.hc, .slice t.pA t.pn t.pc, .slice t.dA t.dn t.dc, .int .i64 t.tm.lo, .int .i64 t.tm.un, .int .i64 t.tm.qu, .int .i64 t.tm.qt, .int .i64 t.tm.wi] 24)).alloc (.cells #[.slice none 0 0, .slice none 0 0, .slice none 0 0, .int .i64 0, .int .i64 0, .int .i64 0, .int .i64 0, .int .i64 0] 24)) w.heap.size 24 t.arr) := Lib.hid ((Blk.new w 24 t.arr).alloc _)
  have KG : Hid (∃ z : Array Value, z.size = 8 ∧ Blk ((w.alloc (.cells #[.slice t.hA t.hn t.hc, .slice t.pA t.pn t.pc, .slice t.dA t.dn t.dc, .int .i64 t.tm.lo, .int .i64 t.tm.un, .int .i64 t.tm.qu, .int .i64 t.tm.qt, .int .i64 t.tm.wi] 24)).alloc (.cells #[.slice none 0 0, .slice none 0 0, .slice none 0 0, .int .i64 0, .int .i64 0, .int .i64 0, .int .i64 0, .int .i64 0] 24)) (w.heap.size + 1) 24 z) := Lib.hid (by
    have := Blk.new (w.alloc (.cells t.arr 24)) 24 #[.slice none 0 0, .slice none 0 0, .slice none 0 0, .int .i64 0, .int .i64 0, .int .i64 0, .int .i64 0, .int .i64 0]
    rw [show (w.alloc (.cells t.arr 24)).heap.size = w.heap.size + 1 from by simp] at this
    exact ⟨_, rfl, this⟩)
  have TI := Lib.hid ht
  have HZ : Hid (w.heap.size + 2 ≤ ((w.alloc (.cells #[.slice t.hA t.hn t.hc, .slice t.pA t.pn t.pc, .slice t.dA t.dn t.dc, .int .i64 t.tm.lo, .int .i64 t.tm.un, .int .i64 t.tm.qu, .int .i64 t.tm.qt, .int .i64 t.tm.wi] 24)).alloc (.cells #[.slice none 0 0, .slice none 0 0, .slice none 0 0, .int .i64 0, .int .i64 0, .int .i64 0, .int .i64 0, .int .i64 0] 24)).heap.size) := Lib.hid (by simp)
  clear ht
  go_enter Try.func30, Try.ntmps30
  go_upto_region 1 with fail
  generalize (w.alloc _).alloc _ = W0 at *
  have KF0 := KF; have KG0 := KG; have BX0 := BX; have HZ0 := HZ
  clear KF KG BX HZ
  have c0 := KF0.out.cellv 0 (v := .slice t.hA t.hn t.hc) rfl
  have f0 := KF0.out.frozen 0
  go_upto_region 2 with (at_builtin; refine wpList_append_any _ rfl _ _ 22 rfl W0.heap.size 3 i0 (.int .i64 0) 1 8 Try.underlying22 hi hz0 hz1 hz2 rfl (by decide) _ _ _ rfl (show W0.ownsRow W0.heap.size 3 1 (.slice none 0 0) 0 [] from ⟨rfl, .inl ⟨rfl, rfl⟩⟩) W0.heap.size _ _ _ _ rfl (TI.out.go BX0.out).h (iv_oneCell _) (by unfold maxLen; omega) (by omega) (Nat.le_refl _) ?_; intro v1 w1 hown1 hg0 _; have hg1 : W0.grownBy w1 none := hg0; rw [show (0 + t.hn = t.hn) from by omega, List.nil_append] at hown1; obtain ⟨A1, cA1, rfl, _, _, _⟩ := own_form hown1; have hk1 := KF0.out.grown hg1 (by simp); clear c0 f0; have c0 := hk1.cellv 0 (v := .slice t.hA t.hn t.hc) rfl; have f0 := hk1.frozen 0; have HG := Lib.hid (below_grown hg1); have HO := Lib.hid hown1; clear hk1 hg1 hg0 hown1)
  clear c0 f0
  generalize hW : World.setCell _ _ _ = W1
  have HW := Lib.hid hW
  clear hW
  have KF1 := Lib.hid (by have := (KF0.out.below HG.out (by have := HZ0.out; omega)).set_ 0 (.slice A1 t.hn cA1); rw [HW.out] at this; exact this)
  have KG1 : Hid (∃ z : Array Value, z.size = 8 ∧ Blk W1 (w.heap.size + 1) 24 z) := Lib.hid (by obtain ⟨z, hz, hk⟩ := KG0.out; refine ⟨z, hz, ?_⟩; rw [← HW.out]; exact (hk.below HG.out (by have := HZ0.out; omega)).far (by show _ ≠ w.heap.size; omega) _)
  have BX1 : Hid (Below w.heap.size w W1) := Lib.hid (by rw [← HW.out]; exact (BX0.out.trans (HG.out.mono BX0.out.size)).setCell (Nat.le_refl _) _)
  have HZ1 : Hid (w.heap.size + 2 ≤ W1.heap.size) := Lib.hid (by rw [← HW.out]; have := HG.out.size; have := HZ0.out; simp [World.setCell]; omega)
  have OA1 : Hid (W1.ownsRow (w.heap.size + 2) 3 1 (.slice A1 t.hn cA1) t.hn (iv t.tm.hs)) := Lib.hid (by rw [← HW.out]; exact own_more (own_far HO.out (by show w.heap.size < _; have := HZ0.out; omega) _) HZ0.out)
  clear KF0 KG0 BX0 HZ0 HG HO HW w1
  have c0 := KF1.out.cellv 1 (v := .slice t.pA t.pn t.pc) rfl
  have f0 := KF1.out.frozen 1
  go_upto_region 3 with (at_builtin; refine wpList_append_any _ rfl _ _ 22 rfl W1.heap.size 3 i0 (.int .i64 0) 1 8 Try.underlying22 hi hz0 hz1 hz2 rfl (by decide) _ _ _ rfl (show W1.ownsRow W1.heap.size 3 1 (.slice none 0 0) 0 [] from ⟨rfl, .inl ⟨rfl, rfl⟩⟩) W1.heap.size _ _ _ _ rfl (TI.out.go BX1.out).p (iv_oneCell _) (by unfold maxLen; omega) (by omega) (Nat.le_refl _) ?_; intro v1 w1 hown1 hg0 _; have hg1 : W1.grownBy w1 none := hg0; rw [show (0 + t.pn = t.pn) from by omega, List.nil_append] at hown1; obtain ⟨A2, cA2, rfl, _, _, _⟩ := own_form hown1; have hk1 := KF1.out.grown hg1 (by simp); clear c0 f0; have c0 := hk1.cellv 1 (v := .slice t.pA t.pn t.pc) rfl; have f0 := hk1.frozen 1; have HG := Lib.hid (below_grown hg1); have HO := Lib.hid hown1; clear hk1 hg1 hg0 hown1)
  clear c0 f0
  generalize hW : World.setCell _ _ _ = W2
  have HW := Lib.hid hW
  clear hW
  have KF2 := Lib.hid (by have := (KF1.out.below HG.out (by have := HZ1.out; omega)).set_ 1 (.slice A2 t.pn cA2); rw [HW.out] at this; exact this)
  have KG2 : Hid (∃ z : Array Value, z.size = 8 ∧ Blk W2 (w.heap.size + 1) 24 z) := Lib.hid (by obtain ⟨z, hz, hk⟩ := KG1.out; refine ⟨z, hz, ?_⟩; rw [← HW.out]; exact (hk.below HG.out (by have := HZ1.out; omega)).far (by show _ ≠ w.heap.size; omega) _)
  have BX2 : Hid (Below w.heap.size w W2) := Lib.hid (by rw [← HW.out]; exact (BX1.out.trans (HG.out.mono BX1.out.size)).setCell (Nat.le_refl _) _)
  have HZ2 : Hid (w.heap.size + 2 ≤ W2.heap.size) := Lib.hid (by rw [← HW.out]; have := HG.out.size; have := HZ1.out; simp [World.setCell]; omega)
  have OA2 : Hid (W2.ownsRow (w.heap.size + 2) 3 1 (.slice A2 t.pn cA2) t.pn (iv t.tm.ps)) := Lib.hid (by rw [← HW.out]; exact own_more (own_far HO.out (by show w.heap.size < _; have := HZ1.out; omega) _) HZ1.out)
  replace OA1 : Hid (W2.ownsRow (w.heap.size + 2) 3 1 (.slice A1 t.hn cA1) t.hn (iv t.tm.hs)) := Lib.hid (by rw [← HW.out]; exact own_far (own_go OA1.out HG.out) (by show w.heap.size < _; omega) _)
  clear KF1 KG1 BX1 HZ1 HG HO HW w1
  have c0 := KF2.out.cellv 2 (v := .slice t.dA t.dn t.dc) rfl
  have f0 := KF2.out.frozen 2
  go_upto_region 4 with (at_builtin; refine wpList_append_any _ rfl _ _ 22 rfl W2.heap.size 3 i0 (.int .i64 0) 1 8 Try.underlying22 hi hz0 hz1 hz2 rfl (by decide) _ _ _ rfl (show W2.ownsRow W2.heap.size 3 1 (.slice none 0 0) 0 [] from ⟨rfl, .inl ⟨rfl, rfl⟩⟩) W2.heap.size _ _ _ _ rfl (TI.out.go BX2.out).d (iv_oneCell _) (by unfold maxLen; omega) (by omega) (Nat.le_refl _) ?_; intro v1 w1 hown1 hg0 _; have hg1 : W2.grownBy w1 none := hg0; rw [show (0 + t.dn = t.dn) from by omega, List.nil_append] at hown1; obtain ⟨A3, cA3, rfl, _, _, _⟩ := own_form hown1; have hk1 := KF2.out.grown hg1 (by simp); clear c0 f0; have c0 := hk1.cellv 2 (v := .slice t.dA t.dn t.dc) rfl; have f0 := hk1.frozen 2; have HG := Lib.hid (below_grown hg1); have HO := Lib.hid hown1; clear hk1 hg1 hg0 hown1)
  clear c0 f0
  generalize hW : World.setCell _ _ _ = W3
  have HW := Lib.hid hW
  clear hW
  have KF3 := Lib.hid (by have := (KF2.out.below HG.out (by have := HZ2.out; omega)).set_ 2 (.slice A3 t.dn cA3); rw [HW.out] at this; exact this)
  have KG3 : Hid (∃ z : Array Value, z.size = 8 ∧ Blk W3 (w.heap.size + 1) 24 z) := Lib.hid (by obtain ⟨z, hz, hk⟩ := KG2.out; refine ⟨z, hz, ?_⟩; rw [← HW.out]; exact (hk.below HG.out (by have := HZ2.out; omega)).far (by show _ ≠ w.heap.size; omega) _)
  have BX3 : Hid (Below w.heap.size w W3) := Lib.hid (by rw [← HW.out]; exact (BX2.out.trans (HG.out.mono BX2.out.size)).setCell (Nat.le_refl _) _)
  have HZ3 : Hid (w.heap.size + 2 ≤ W3.heap.size) := Lib.hid (by rw [← HW.out]; have := HG.out.size; have := HZ2.out; simp [World.setCell]; omega)
  have OA3 : Hid (W3.ownsRow (w.heap.size + 2) 3 1 (.slice A3 t.dn cA3) t.dn (iv t.tm.ds)) := Lib.hid (by rw [← HW.out]; exact own_more (own_far HO.out (by show w.heap.size < _; have := HZ2.out; omega) _) HZ2.out)
  replace OA1 : Hid (W3.ownsRow (w.heap.size + 2) 3 1 (.slice A1 t.hn cA1) t.hn (iv t.tm.hs)) := Lib.hid (by rw [← HW.out]; exact own_far (own_go OA1.out HG.out) (by show w.heap.size < _; omega) _)
  replace OA2 : Hid (W3.ownsRow (w.heap.size + 2) 3 1 (.slice A2 t.pn cA2) t.pn (iv t.tm.ps)) := Lib.hid (by rw [← HW.out]; exact own_far (own_go OA2.out HG.out) (by show w.heap.size < _; omega) _)
  clear KF2 KG2 BX2 HZ2 HG HO HW w1
  have c0 := KF3.out.cellv 0 (v := .slice A1 t.hn cA1) rfl
  have c1 := KF3.out.cellv 1 (v := .slice A2 t.pn cA2) rfl
  have c2 := KF3.out.cellv 2 (v := .slice A3 t.dn cA3) rfl
  have c3 := KF3.out.cellv 3 (v := .int .i64 t.tm.lo) rfl
  have c4 := KF3.out.cellv 4 (v := .int .i64 t.tm.un) rfl
  have c5 := KF3.out.cellv 5 (v := .int .i64 t.tm.qu) rfl
  have c6 := KF3.out.cellv 6 (v := .int .i64 t.tm.qt) rfl
  have c7 := KF3.out.cellv 7 (v := .int .i64 t.tm.wi) rfl
  obtain ⟨z, hz, hk⟩ := KG3.out
  have KZ := Lib.hid hk
  have ZZ := Lib.hid hz
  clear hz hk KG3
  have U2 : Hid ((Try.prog.info? 24).map (·.size) = some (Array.size (α := Value) #[.slice A1 t.hn cA1, .slice A2 t.pn cA2, .slice A3 t.dn cA3, .int .i64 t.tm.lo, .int .i64 t.tm.un, .int .i64 t.tm.qu, .int .i64 t.tm.qt, .int .i64 t.tm.wi])) := Lib.hid team_size
  have U3 : Hid (z.size = Array.size (α := Value) #[.slice A1 t.hn cA1, .slice A2 t.pn cA2, .slice A3 t.dn cA3, .int .i64 t.tm.lo, .int .i64 t.tm.un, .int .i64 t.tm.qu, .int .i64 t.tm.qt, .int .i64 t.tm.wi]) := Lib.hid ZZ.out
  have U4 : Hid (Array.all (α := Value) #[.slice A1 t.hn cA1, .slice A2 t.pn cA2, .slice A3 t.dn cA3, .int .i64 t.tm.lo, .int .i64 t.tm.un, .int .i64 t.tm.qu, .int .i64 t.tm.qt, .int .i64 t.tm.wi] (·.oneCell') = true) := Lib.hid (by simp [Value.oneCell'])
  go_wp2_with (refine wpList_store_row rfl 24 (.tmp 2) (.tmp 15) rfl (w.heap.size + 1) #[.slice A1 t.hn cA1, .slice A2 t.pn cA2, .slice A3 t.dn cA3, .int .i64 t.tm.lo, .int .i64 t.tm.un, .int .i64 t.tm.qu, .int .i64 t.tm.qt, .int .i64 t.tm.wi] rfl rfl 24 z KZ.out U2.out U3.out U4.out ?_)
  refine bodyPost_ret (v := .agg #[.slice A1 t.hn cA1, .slice A2 t.pn cA2, .slice A3 t.dn cA3, .int .i64 t.tm.lo, .int .i64 t.tm.un, .int .i64 t.tm.qu, .int .i64 t.tm.qt, .int .i64 t.tm.wi]) ?_ rfl ?_
  · exact results_cell_row rfl _ _ (w.heap.size + 1) 24 _ (0, 0) _ rfl (KZ.out.row _) Try.underlying24 rfl team_size
  · refine ⟨⟨A1, t.hn, cA1, A2, t.pn, cA2, A3, t.dn, cA3, t.tm⟩, rfl, rfl, Lib.hid ⟨?_, ?_, ?_, h1.2, p1.2, d1.2⟩, below_row BX3.out (by omega) _⟩
    · exact own_more (own_row OA1.out (own_base OA1.out (by omega)) _) (by omega)
    · exact own_more (own_row OA2.out (own_base OA2.out (by omega)) _) (by omega)
    · exact own_more (own_row OA3.out (own_base OA3.out (by omega)) _) (by omega)
end Go.Proofs.Ytcbghchciplfcaa
