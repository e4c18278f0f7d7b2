/-
  LAWBYTESWALK: the walk of the law DigestBytes: it answers true for whatever bytes, number, size, index and count.
-/
import Derived.Test.YtinoekcancgamaaRefB
import Derived.Test.YtinoekcancgamaaBytes2
import Derived.Test.YtinoekcancgamaaFrame
namespace Go.Proofs.Ytinoekcancgamaa
set_option linter.unusedVariables false
set_option linter.unusedSimpArgs false
open Go.RowKit

set_option maxHeartbeats 1600000 in
set_option maxRecDepth 100000 in
theorem digestBytes_walk (A : Option Addr) (n c : Nat) (m : Nat) (s k j : Int) (l : List UInt8) (w : World) (hr : Reads w w.heap.size 1 A n (bv l)) (hnc : n ≤ c) (hc : c ≤ 140737488351232) (hm : m < 18446744073709551616) :
    Calls Try.prog 3 #[.slice A n c, .int .u64 (m : Int), .int .i64 s, .int .i64 k, .int .i64 j] w fun e w' => e = .returned (.bool true) ∧ Below w.heap.size w w' := by
  obtain ⟨i0, hi, hz0, hz1, hz2⟩ := info_parts u8_info
  have hlen : l.length = n := by have := hr.1; simpa using this
  have H1 := Lib.hid hlen; clear hlen
  have hown0 := own_new0 (B := w.heap.size) w 5 (Nat.le_refl _)
  go_enter Try.func3, Try.ntmps3
  go_wp2_with (at_builtin; refine wpList_append_any _ rfl (.tmp 21) (.tmp 22) 22 rfl w.heap.size 5 i0 (.int .u8 0) 1 1 Try.underlying22 hi hz0 hz1 hz2 rfl (by decide) _ _ _ rfl hown0 w.heap.size _ _ _ _ rfl (hr.alloc (Nat.le_refl _) _) (bv_oneCell _) (by unfold maxLen; omega) (by omega) (by simp) ?_; intro v1 w1 hown1 hg1 _)
  have hb1 : Below w.heap.size w w1 := ((Below.refl _ _).alloc (Nat.le_refl _) _).grown hg1 (by simp) (fun g h => (hown0.lt g h).1)
  rw [show (0 + n = n) from by omega, List.nil_append] at hown1
  obtain ⟨A1, c1, rfl, hc1, hc1m, _⟩ := own_form hown1
  have hr1 := Reads.of_own hown1
  have hs1 := hb1.size
  clear hown0 hg1 hown1
  -- PutUint
  refine (putUint_any A1 n c1 m s l w1 hr1 hm).mono ?_
  rintro e w2 ⟨v2, rfl, hown2, hb2⟩
  obtain ⟨A2, c2, rfl, _, _, _⟩ := own_form hown2
  have hs2 := hb2.size
  have r2 := Reads.of_own hown2
  clear hown2
  go_wp2_with fail
  refine (refPutUint_any A n c m s l w2 ((hr.below (hb1.trans (hb2.mono hs1))).more (by omega)) hm (by omega)).mono ?_
  rintro e w3 ⟨v3, rfl, hown3, hb3⟩
  obtain ⟨A3, c3, rfl, _, _, _⟩ := own_form hown3
  have hs3 := hb3.size
  have r3 := Reads.of_own hown3
  clear hown3
  have q2 := run_str (P := Try.prog) 22 5 9 Try.underlying22 Try.underlying5 Try.underlying9 (c := c2) (r2.below hb3)
  have q3 := run_str (P := Try.prog) 22 5 9 Try.underlying22 Try.underlying5 Try.underlying9 (c := c3) r3
  clear r2 r3
  generalize putUintS l m s = P at *
  obtain ⟨pl, pe⟩ := P
  go_wp2_with fail
  clear q2 q3
  have hA1 : Below w1.heap.size w1 w3 := hb2.trans (hb3.mono hs2)
  have hA0 : Below w.heap.size w w3 := hb1.trans (hA1.mono hs1)
  -- TakeUint
  refine (takeUint_any A1 n c1 k s l w3 ((hr1.below hA1).more (by omega)) hc1 (by unfold maxLen at hc1m; omega) (by omega)).mono ?_
  rintro e w4 ⟨rfl, hb4⟩
  have hs4 := hb4.size
  go_wp2_with fail
  refine (refTakeUint_any A n c k s l w4 ((hr.below (hA0.trans (hb4.mono (by omega)))).more (by omega)) hnc (by omega) (by omega)).mono ?_
  rintro e w5 ⟨rfl, hb5⟩
  have hs5 := hb5.size
  generalize takeUintS l k s = T at *
  obtain ⟨tn, ta, te⟩ := T
  have hB1 : Below w1.heap.size w1 w5 := hA1.trans ((hb4.mono (by omega)).trans (hb5.mono (by omega)))
  have hB0 : Below w.heap.size w w5 := hA0.trans ((hb4.mono (by omega)).trans (hb5.mono (by omega)))
  clear hb2 hb3 hb4 hb5 hA1 hA0
  go_wp2_with fail
  -- TakeBytes
  refine (takeBytes_any A1 n c1 k j l w5 ((hr1.below hB1).more (by omega)) hc1 (by unfold maxLen at hc1m; omega) (by omega)).mono ?_
  rintro e w6 ⟨v6, rfl, hown6, hb6⟩
  obtain ⟨A6, c6, rfl, hc6, hc6m, hc60⟩ := own_form hown6
  have hs6 := hb6.size
  have hlt6 := fun g hg => (hown6.lt g hg).2
  have r6 := Reads.of_own hown6
  go_wp2_with fail
  refine (refTakeBytes_any A n c k j l w6 ((hr.below (hB0.trans (hb6.mono (by omega)))).more (by omega)) hnc (by omega) (by omega)).mono ?_
  rintro e w7 ⟨v7, rfl, hown7, hb7⟩
  obtain ⟨A7, c7, rfl, _, _, _⟩ := own_form hown7
  have hs7 := hb7.size
  have r7 := Reads.of_own hown7
  have hown6' := own_below hown6 hb7 hlt6
  clear hown7 hown6 hlt6
  have q2 := run_str (P := Try.prog) 22 5 9 Try.underlying22 Try.underlying5 Try.underlying9 (c := c6) (r6.below hb7)
  have q3 := run_str (P := Try.prog) 22 5 9 Try.underlying22 Try.underlying5 Try.underlying9 (c := c7) r7
  clear r6 r7
  have hlx := takeBytesS_le l k j
  generalize takeBytesS l k j = T at *
  obtain ⟨xl, ta, te⟩ := T
  simp only at q2 q3 hown6' hlx hc6
  have hC1 : Below w1.heap.size w1 w7 := hB1.trans ((hb6.mono (by omega)).trans (hb7.mono (by omega)))
  have hC0 : Below w.heap.size w w7 := hB0.trans ((hb6.mono (by omega)).trans (hb7.mono (by omega)))
  have hw57 : w5.heap.size ≤ w7.heap.size := by omega
  have hw15 := hB1.size
  clear hb6 hb7 hB1 hB0
  generalize hln : xl.length = ln at *
  have HL := Lib.hid hln; clear hln
  have hlb : ln ≤ 140737488351232 := by have := H1.out; omega
  go_wp2_with fail
  go_loopw [20] (fun i wr => ∃ (q : Nat) (yl : List UInt8), q ≤ ln ∧ yl.length = ln ∧ i = .int .i64 (q : Int) ∧ wr.ownsRow w5.heap.size 5 1 (.slice A6 ln c6) ln (bv yl) ∧ Below w5.heap.size w7 wr) (fun i _ => ln - (intOf i).toNat)
  case atStart => exact ⟨0, xl, Nat.zero_le _, HL.out, rfl, hown6', Below.refl _ _⟩
  case round =>
    obtain ⟨q, yl, hq, hyl, rfl, hownr, hnx⟩ := hrel
    clear q2 q3
    by_cases hlt : q < ln
    · have HY := Lib.hid hyl; clear hyl
      obtain ⟨x, hx⟩ : ∃ x, yl[q]? = some x := ⟨_, List.getElem?_eq_getElem (by rw [HY.out]; exact hlt)⟩
      obtain ⟨g, rfl⟩ : ∃ g, A6 = some ⟨g, 0, none⟩ := by
        rcases hownr.2 with ⟨_, h0⟩ | ⟨g, cap, cur, hv, _⟩
        · omega
        · exact ⟨g, by injection hv⟩
      have hcell : wr.cell? ⟨g, q, none⟩ = some (.int .u8 (x.toNat : Int)) := by
        rw [hownr.cellAt q (by omega)]
        simp [bv, hx, u8v]
      have hfz := hownr.frozenAt q
      have hxo := xor_one x
      have hst := hownr.stored q (u8v (x ^^^ 1))
      rw [bv_set] at hst
      have hg5 := (hownr.lt g rfl).1
      have HX := Lib.hid hxo; clear hxo
      have HS := Lib.hid hst; clear hst
      have HQ := Lib.hid hx; clear hx
      go_wp2
      go_roundw
      case rel => exact ⟨q + 1, yl.set q (x ^^^ 1), by omega, by rw [List.length_set]; exact HY.out, by go_num, by rw [HX.out]; exact HS.out.1, hnx.setCell hg5 _⟩
      case measure => simp [intOf]; omega
    · have hD1 := hC1.trans (hnx.mono hw15)
      have hD0 := hC0.trans (hnx.mono (by omega))
      have q1 := run_str (P := Try.prog) 22 5 9 Try.underlying22 Try.underlying5 Try.underlying9 (c := c1) (hr1.below hD1)
      have q0 := run_str (P := Try.prog) 22 5 9 Try.underlying22 Try.underlying5 Try.underlying9 (c := c) (hr.below hD0)
      clear hownr
      go_wp2
      go_ret
      exact ⟨rfl, hD0⟩
end Go.Proofs.Ytinoekcancgamaa
namespace Go.Proofs.Ytinoekcancgamaa.digestBytes
open Go.RowKit
/-- The walk, as the row's frame hands its arguments over. -/
theorem digestBytes_walk (A : Option Addr) (n c : Nat) (l : List UInt8) (m s k j : Int) (w : World) (hr : Reads w w.heap.size 1 A n (bv l)) (hnc : n ≤ c) (hc : c ≤ 140737488351232) (hm : (Lit.int .u64 m).wf = true) (_ : (Lit.int .i64 s).wf = true) (_ : (Lit.int .i64 k).wf = true) (_ : (Lit.int .i64 j).wf = true) :
    Calls Try.prog 3 #[.slice A n c, .int .u64 m, .int .i64 s, .int .i64 k, .int .i64 j] w fun e w' => e = .returned (.bool true) ∧ Below w.heap.size w w' := by
  obtain ⟨m, rfl, hm'⟩ := u64_wf hm
  exact Go.Proofs.Ytinoekcancgamaa.digestBytes_walk A n c m s k j l w hr hnc hc hm'
end Go.Proofs.Ytinoekcancgamaa.digestBytes
