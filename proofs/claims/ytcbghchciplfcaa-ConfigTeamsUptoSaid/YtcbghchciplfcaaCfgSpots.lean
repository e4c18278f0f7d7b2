/-
  CFGSPOTS: slices.Grow of nil, slices.Concat of three rows, Spots (both).
-/
import Derived.Test.YtcbghchciplfcaaCfgTwin2
import Derived.Lib.AppendZeros
import Derived.BigQuiet
namespace Go.Proofs.Ytcbghchciplfcaa
set_option linter.unusedVariables false
set_option linter.unusedSimpArgs false
set_option maxRecDepth 100000
open Go.RowKit

theorem zeros_size (z : Array Value) (n : Nat) : (Builtin.zeroCells z n).size = n * z.size := by
  simp [Builtin.zeroCells]
set_option maxHeartbeats 1600000 in
theorem growInts (n : Nat) (w : World) (hn : n ≤ 17592186044415) :
    Calls Try.prog 120 #[.slice none 0 0, .int .i64 (n : Int)] w fun e w' => ∃ A c, e = .returned (.slice A 0 c) ∧ Hid (w'.ownsRow w.heap.size 3 1 (.slice A 0 c) 0 (iv [])) ∧ Below w.heap.size w w' := by
  obtain ⟨i0, hi, hz0, hz1, hz2⟩ := info_parts int_info'
  have t1 : decide ((n : Int) < 0) = false := by simp
  have u1 : IntKind.i64.wrap (n : Int) = (n : Int) := IntWalk.i64_in _ (by omega)
  by_cases h0 : n = 0
  · subst h0
    go_enter Try.func120, Try.ntmps120
    go_wp2
    go_ret
    exact ⟨none, 0, rfl, Lib.hid ⟨rfl, .inl ⟨rfl, rfl⟩⟩, Below.refl _ _⟩
  · have t2 : decide ((n : Int) > 0) = true := by simp; omega
    have hrun := Lib.run_append_nil_zeros (P := Try.prog) w 22 3 22 3 i0 (.int .i64 0) .i64 .i64 Try.underlying22 Try.underlying3 hi hz0 n (by omega) (by rw [hz1]; omega) (by omega) (by rw [hz2]; omega)
    have HR := Lib.hid hrun
    have HG := Lib.hid (And.intro (grownCap_ge w n 0 3) (grownCap_le_maxLen w n 0 3 (by unfold maxLen; omega)))
    clear hrun
    go_enter Try.func120, Try.ntmps120
    go_wp2_with (at_builtin; refine Lib.wpList_append_run _ rfl _ _ _ _ rfl _ _ rfl rfl _ _ HR.out ?_)
    go_ret
    refine ⟨_, _, rfl, Lib.hid ⟨rfl, .inr ⟨w.heap.size, _, _, rfl, Nat.le_refl _, heap_alloc_new w _, by omega, HG.out.2, ?_, rfl⟩⟩, bk_drew (bk_alloc (Below.refl _ _) _)⟩
    have h9 := HG.out.1
    rw [Array.size_append, zeros_size, zeros_size]
    show n * 1 + (grownCap w n 0 3 - n) * 1 = grownCap w n 0 3 * 1
    omega
set_option maxHeartbeats 3200000 in
theorem concat3 (g : Nat) (A1 A2 A3 : Option Addr) (n1 n2 n3 c1 c2 c3 : Nat) (l1 l2 l3 : List Int) (w : World) (k0 : w.cell? ⟨g, 0, none⟩ = some (.slice A1 n1 c1)) (k1 : w.cell? ⟨g, 1, none⟩ = some (.slice A2 n2 c2)) (k2 : w.cell? ⟨g, 2, none⟩ = some (.slice A3 n3 c3)) (hg : g < w.heap.size)
    (r1 : Reads w w.heap.size 1 A1 n1 (iv l1)) (r2 : Reads w w.heap.size 1 A2 n2 (iv l2)) (r3 : Reads w w.heap.size 1 A3 n3 (iv l3)) (hn : n1 + n2 + n3 ≤ 17592186044415) :
    Calls Try.prog 79 #[.slice (some ⟨g, 0, none⟩) 3 3] w fun e w' => ∃ A c, e = .returned (.slice A (n1 + n2 + n3) c) ∧ Hid (w'.ownsRow w.heap.size 3 1 (.slice A (n1 + n2 + n3) c) (n1 + n2 + n3) (iv (l1 ++ l2 ++ l3))) ∧ Below w.heap.size w w' := by
  obtain ⟨i0, hi, hz0, hz1, hz2⟩ := info_parts int_info'
  have u1 : IntKind.i64.wrap (n1 : Int) = (n1 : Int) := IntWalk.i64_in _ (by omega)
  have u2 : IntKind.i64.wrap ((n1 : Int) + (n2 : Int)) = ((n1 + n2 : Nat) : Int) := by rw [← Int.natCast_add]; exact IntWalk.i64_in _ (by omega)
  have u3 : IntKind.i64.wrap (((n1 + n2 : Nat) : Int) + (n3 : Int)) = ((n1 + n2 + n3 : Nat) : Int) := by rw [← Int.natCast_add]; exact IntWalk.i64_in _ (by omega)
  have G := Lib.hid (growInts (n1 + n2 + n3) w hn)
  have R1 := Lib.hid r1; have R2 := Lib.hid r2; have R3 := Lib.hid r3
  have KK : Hid (∀ W', Below w.heap.size w W' → W'.cell? ⟨g, 0, none⟩ = some (.slice A1 n1 c1) ∧ W'.cell? ⟨g, 1, none⟩ = some (.slice A2 n2 c2) ∧ W'.cell? ⟨g, 2, none⟩ = some (.slice A3 n3 c3)) :=
    Lib.hid fun W' hb => ⟨(hb.cell (p := ⟨g, 0, none⟩) hg).trans k0, (hb.cell (p := ⟨g, 1, none⟩) hg).trans k1, (hb.cell (p := ⟨g, 2, none⟩) hg).trans k2⟩
  clear r1 r2 r3 hg
  have v0 : decide ((n1 : Int) < 0) = false := by simp
  have v1 : decide (((n1 + n2 : Nat) : Int) < 0) = false := by simp; omega
  have v2 : decide (((n1 + n2 + n3 : Nat) : Int) < 0) = false := by simp; omega
  generalize hS : n1 + n2 + n3 = S at *
  generalize hT : n1 + n2 = T at *
  go_enter Try.func79, Try.ntmps79
  go_wp2
  refine wp_loop_rounds 4 ?_
  rw [rounds_succ]
  go_wp2
  rw [rounds_succ]
  go_wp2
  rw [rounds_succ]
  go_wp2
  rw [rounds_succ]
  go_wp2_with fail
  refine G.out.mono ?_
  rintro e w1 ⟨A, cA, rfl, HO, hb⟩
  have HB := Lib.hid hb
  have hb1 := hb
  obtain ⟨k0, k1, k2⟩ := KK.out w1 hb
  clear hb
  go_wp2
  refine wp_loop_rounds 4 ?_
  rw [rounds_succ]
  go_wp2_with (at_builtin; refine wpList_append_any _ rfl _ _ 22 rfl w.heap.size 3 i0 (.int .i64 0) 1 8 Try.underlying22 hi hz0 hz1 hz2 rfl (by decide) _ _ _ rfl HO.out w.heap.size _ _ _ _ rfl (R1.out.below HB.out) (iv_oneCell _) (by unfold maxLen; omega) (by omega) HB.out.size ?_; intro v2 w2 hown2 hg2 _; have hb2 : Below w.heap.size w w2 := HB.out.trans (below_grow hg2 (own_ge HO.out) HB.out.size); obtain ⟨k0', k1', k2'⟩ := KK.out w2 hb2; have HO2 := Lib.hid hown2; have HB2 := Lib.hid hb2; clear hown2 hg2 hb2)
  clear k0 k1 k2 k0'
  rw [rounds_succ]
  go_wp2_with (at_builtin; refine wpList_append_any _ rfl _ _ 22 rfl w.heap.size 3 i0 (.int .i64 0) 1 8 Try.underlying22 hi hz0 hz1 hz2 rfl (by decide) _ _ _ rfl HO2.out w.heap.size _ _ _ _ rfl (R2.out.below HB2.out) (iv_oneCell _) (by unfold maxLen; omega) (by omega) HB2.out.size ?_; intro v3 w3 hown2 hg2 _; have hb2 : Below w.heap.size w w3 := HB2.out.trans (below_grow hg2 (own_ge HO2.out) HB2.out.size); obtain ⟨k0, k1, k2⟩ := KK.out w3 hb2; have HO3 := Lib.hid hown2; have HB3 := Lib.hid hb2; clear hown2 hg2 hb2)
  clear k1' k2' k0 k1
  rw [rounds_succ]
  go_wp2_with (at_builtin; refine wpList_append_any _ rfl _ _ 22 rfl w.heap.size 3 i0 (.int .i64 0) 1 8 Try.underlying22 hi hz0 hz1 hz2 rfl (by decide) _ _ _ rfl HO3.out w.heap.size _ _ _ _ rfl (R3.out.below HB3.out) (iv_oneCell _) (by unfold maxLen; omega) (by omega) HB3.out.size ?_; intro v4 w4 hown2 hg2 _; have hb2 : Below w.heap.size w w4 := HB3.out.trans (below_grow hg2 (own_ge HO3.out) HB3.out.size); have HO4 := Lib.hid hown2; have HB4 := Lib.hid hb2; clear hown2 hg2 hb2)
  clear k2
  rw [rounds_succ]
  go_wp2
  go_ret
  obtain ⟨A', c', e, _⟩ := own_form HO4.out
  subst e
  have h := HO4.out
  rw [show 0 + n1 + n2 + n3 = S from by omega] at h ⊢
  exact ⟨_, _, rfl, Lib.hid (by simpa [iv_append, iv_nil] using h), HB4.out⟩
theorem sp_len {t : Tm} {w : World} {B : Nat} (ht : t.In w B) : t.tm.spots.length = t.hn + t.pn + t.dn := by
  unfold Team.spots
  rw [List.length_append, List.length_append, ht.h.len, ht.p.len, ht.d.len]
set_option maxHeartbeats 1600000 in
theorem spots_any (t : Tm) (w : World) (ht : t.In w w.heap.size) (hn : t.hn + t.pn + t.dn ≤ 17592186044415) :
    Calls Try.prog 31 #[t.val] w fun e w' => ∃ A c, e = .returned (.slice A t.tm.spots.length c) ∧ Hid (w'.ownsRow w.heap.size 3 1 (.slice A t.tm.spots.length c) t.tm.spots.length (iv t.tm.spots)) ∧ Below w.heap.size w w' := by
  have TB := Lib.hid (tbox w t)
  have hl := Lib.hid (sp_len ht)
  have V : Hid (∀ (X : World), Below w.heap.size w X → Calls Try.prog 79 #[.slice (some ⟨X.heap.size, 0, none⟩) 3 3] (X.alloc (.cells #[.slice t.hA t.hn t.hc, .slice t.pA t.pn t.pc, .slice t.dA t.dn t.dc] 22)) fun e w' => ∃ A c, e = .returned (.slice A (t.hn + t.pn + t.dn) c) ∧ Hid (w'.ownsRow w.heap.size 3 1 (.slice A (t.hn + t.pn + t.dn) c) (t.hn + t.pn + t.dn) (iv t.tm.spots)) ∧ Below w.heap.size w w') := Lib.hid fun X hb => by
    have ha : Below X.heap.size X (X.alloc (.cells #[.slice t.hA t.hn t.hc, .slice t.pA t.pn t.pc, .slice t.dA t.dn t.dc] 22)) := bk_alloc (Below.refl _ _) _
    have h2 := (ht.go hb).go ha
    have hB := Blk.new X 22 #[.slice t.hA t.hn t.hc, .slice t.pA t.pn t.pc, .slice t.dA t.dn t.dc]
    exact (concat3 X.heap.size t.hA t.pA t.dA t.hn t.pn t.dn t.hc t.pc t.dc t.tm.hs t.tm.ps t.tm.ds _ (hB.cellv 0 rfl) (hB.cellv 1 rfl) (hB.cellv 2 rfl) hB.lt h2.h h2.p h2.d hn).mono fun e w' ⟨A, c, h1, h3, h4⟩ => ⟨A, c, h1, Lib.hid (own_more h3.out (Nat.le_trans hb.size ha.size)), hb.trans ((ha.trans (h4.mono ha.size)).mono hb.size)⟩
  have HT := Lib.hid ht
  clear ht
  rw [hl.out]
  have c0 := TB.out.kf.cellv 0 (v := .slice t.hA t.hn t.hc) rfl
  have c1 := TB.out.kf.cellv 1 (v := .slice t.pA t.pn t.pc) rfl
  have c2 := TB.out.kf.cellv 2 (v := .slice t.dA t.dn t.dc) rfl
  go_enter Try.func31, Try.ntmps31
  go_upto_region 1 with fail
  clear c0 c1 c2
  generalize World.alloc _ _ = X at TB ⊢
  have c0 := TB.out.kf.cellv 0 (v := .slice t.hA t.hn t.hc) rfl
  have c1 := TB.out.kf.cellv 1 (v := .slice t.pA t.pn t.pc) rfl
  have c2 := TB.out.kf.cellv 2 (v := .slice t.dA t.dn t.dc) rfl
  go_wp2_with fail
  refine (V.out _ TB.out.bel).mono ?_
  rintro e x ⟨A, c, rfl, HO, hb⟩
  clear c0 c1 c2
  go_wp2
  go_ret
  exact ⟨A, c, rfl, HO, hb⟩
set_option maxHeartbeats 1600000 in
theorem refSpots_any (t : Tm) (w : World) (ht : t.In w w.heap.size) (hn : t.hn + t.pn + t.dn ≤ 17592186044415) :
    Calls Try.prog 35 #[t.val] w fun e w' => ∃ A c, e = .returned (.slice A t.tm.spots.length c) ∧ Hid (w'.ownsRow w.heap.size 3 1 (.slice A t.tm.spots.length c) t.tm.spots.length (iv t.tm.spots)) ∧ Below w.heap.size w w' := by
  obtain ⟨i0, hi, hz0, hz1, hz2⟩ := info_parts int_info'
  have TB := Lib.hid (tbox w t)
  have hl := Lib.hid (sp_len ht)
  have R1 := Lib.hid ht.h; have R2 := Lib.hid ht.p; have R3 := Lib.hid ht.d
  clear ht
  rw [hl.out]
  have c0 := TB.out.kf.cellv 0 (v := .slice t.hA t.hn t.hc) rfl
  have c1 := TB.out.kf.cellv 1 (v := .slice t.pA t.pn t.pc) rfl
  have c2 := TB.out.kf.cellv 2 (v := .slice t.dA t.dn t.dc) rfl
  go_enter Try.func35, Try.ntmps35
  go_upto_region 1 with fail
  clear c0 c1 c2
  generalize World.alloc _ _ = X at TB ⊢
  have HB := Lib.hid TB.out.bel
  have HO : Hid (X.ownsRow w.heap.size 3 1 (.slice none 0 0) 0 (iv [])) := Lib.hid ⟨rfl, .inl ⟨rfl, rfl⟩⟩
  have KK : Hid (∀ W', Below X.heap.size X W' → W'.cell? ⟨w.heap.size, 0, none⟩ = some (.slice t.hA t.hn t.hc) ∧ W'.cell? ⟨w.heap.size, 1, none⟩ = some (.slice t.pA t.pn t.pc) ∧ W'.cell? ⟨w.heap.size, 2, none⟩ = some (.slice t.dA t.dn t.dc)) :=
    Lib.hid fun W' hb => ⟨(TB.out.next hb).kf.cellv 0 rfl, (TB.out.next hb).kf.cellv 1 rfl, (TB.out.next hb).kf.cellv 2 rfl⟩
  obtain ⟨k0, k1, k2⟩ := KK.out X (Below.refl _ _)
  have KF := Lib.hid TB.out.kf
  have tail : Hid (w.heap.size + 1 ≤ X.heap.size) := Lib.hid TB.out.kf.lt
  go_upto_region 3 with (at_builtin; refine wpList_append_any _ rfl _ _ 22 rfl (w.heap.size + 1) 3 i0 (.int .i64 0) 1 8 Try.underlying22 hi hz0 hz1 hz2 rfl (by decide) _ _ _ rfl (show X.ownsRow (w.heap.size + 1) 3 1 (.slice none 0 0) 0 (iv []) from ⟨rfl, .inl ⟨rfl, rfl⟩⟩) w.heap.size _ _ _ _ rfl (R1.out.below HB.out) (iv_oneCell _) (by unfold maxLen; omega) (by omega) tail.out ?_; intro v2 w2 hown2 hg2 _; rw [Nat.zero_add, iv_nil, List.nil_append] at hown2; have hb2 : Below (w.heap.size + 1) X w2 := below_grow hg2 (fun g h => by cases h) tail.out; have k1 := (KF.out.below hb2 (Nat.lt_succ_self _)).cellv 1 (v := .slice t.pA t.pn t.pc) rfl; have k2 := (KF.out.below hb2 (Nat.lt_succ_self _)).cellv 2 (v := .slice t.dA t.dn t.dc) rfl; obtain ⟨A2, cA2, rfl, _, _, _⟩ := own_form hown2; have HO2 := Lib.hid hown2; have HB2 := Lib.hid hb2; clear hown2 hg2 hb2)
  clear k0
  go_upto_region 4 with (at_builtin; refine wpList_append_any _ rfl _ _ 22 rfl (w.heap.size + 1) 3 i0 (.int .i64 0) 1 8 Try.underlying22 hi hz0 hz1 hz2 rfl (by decide) _ _ _ rfl HO2.out w.heap.size _ _ _ _ rfl (R2.out.below (HB.out.trans (HB2.out.mono (by omega)))) (iv_oneCell _) (by unfold maxLen; omega) (by omega) (Nat.le_trans tail.out HB2.out.size) ?_; intro v3 w3 hown2 hg2 _; have hb2 : Below (w.heap.size + 1) X w3 := HB2.out.trans (below_grow hg2 (own_ge HO2.out) (Nat.le_trans tail.out HB2.out.size)); clear k1 k2; have k2 := (KF.out.below hb2 (Nat.lt_succ_self _)).cellv 2 (v := .slice t.dA t.dn t.dc) rfl; obtain ⟨A3, cA3, rfl, _, _, _⟩ := own_form hown2; have HO3 := Lib.hid hown2; have HB3 := Lib.hid hb2; clear hown2 hg2 hb2)
  go_wp2_with (at_builtin; refine wpList_append_any _ rfl _ _ 22 rfl (w.heap.size + 1) 3 i0 (.int .i64 0) 1 8 Try.underlying22 hi hz0 hz1 hz2 rfl (by decide) _ _ _ rfl HO3.out w.heap.size _ _ _ _ rfl (R3.out.below (HB.out.trans (HB3.out.mono (by omega)))) (iv_oneCell _) (by unfold maxLen; omega) (by omega) (Nat.le_trans tail.out HB3.out.size) ?_; intro v4 w4 hown2 hg2 _; have hb2 : Below (w.heap.size + 1) X w4 := HB3.out.trans (below_grow hg2 (own_ge HO3.out) (Nat.le_trans tail.out HB3.out.size)); obtain ⟨A4, cA4, rfl, _, _, _⟩ := own_form hown2; have HO4 := Lib.hid hown2; have HB4 := Lib.hid hb2; clear hown2 hg2 hb2)
  go_ret
  have h := HO4.out
  exact ⟨_, _, rfl, Lib.hid (own_more (by simpa [iv_append, iv_nil, Team.spots] using h) (by omega)), HB.out.trans (HB4.out.mono (by omega))⟩
end Go.Proofs.Ytcbghchciplfcaa
