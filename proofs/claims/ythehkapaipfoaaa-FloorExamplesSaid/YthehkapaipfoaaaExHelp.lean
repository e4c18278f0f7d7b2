/-
  FLOOREXAMPLES: the walk.
-/
import Derived.Test.YthehkapaipfoaaaSlRef
import Derived.Laws.OwnMore
namespace Go.Proofs.Ythehkapaipfoaaa
set_option linter.unusedVariables false
set_option linter.unusedSimpArgs false
set_option maxRecDepth 100000
open Go.RowKit

theorem six_own (w : World) : Calls Try.prog 27 #[] w fun e w' => ∃ g c, e = .returned (.agg #[.int .i64 3, .int .i64 2, .slice (some ⟨g, 0, none⟩) 6 c]) ∧ Hid (w'.ownsRow w.heap.size 5 1 (.slice (some ⟨g, 0, none⟩) 6 c) 6 (bv sixL)) ∧ Below w.heap.size w w' := by
  have hr : ((w.alloc (.cells #[.int .i64 3, .int .i64 2, .slice (some ⟨w.heap.size + 1, 0, none⟩) 6 6] 34)).alloc (.cells #[.int .u8 1, .int .u8 255, .int .u8 2, .int .u8 0, .int .u8 255, .int .u8 1] 5)).ownsRow w.heap.size 5 1 (.slice (some ⟨w.heap.size + 1, 0, none⟩) 6 6) 6 (bv sixL) := by
    refine ⟨rfl, .inr ⟨w.heap.size + 1, 6, #[.int .u8 1, .int .u8 255, .int .u8 2, .int .u8 0, .int .u8 255, .int .u8 1], rfl, by omega, ?_, by omega, by unfold maxLen; omega, rfl, rfl⟩⟩
    have := heap_alloc_new (w.alloc (.cells #[.int .i64 3, .int .i64 2, .slice (some ⟨w.heap.size + 1, 0, none⟩) 6 6] 34)) (.cells #[.int .u8 1, .int .u8 255, .int .u8 2, .int .u8 0, .int .u8 255, .int .u8 1] 5)
    simpa using this
  have hb : Blk ((w.alloc (.cells #[.int .i64 3, .int .i64 2, .slice (some ⟨w.heap.size + 1, 0, none⟩) 6 6] 34)).alloc (.cells #[.int .u8 1, .int .u8 255, .int .u8 2, .int .u8 0, .int .u8 255, .int .u8 1] 5)) w.heap.size 34 (b3 3 2 (.slice (some ⟨w.heap.size + 1, 0, none⟩) 6 6)) := (Blk.new w 34 (b3 3 2 (.slice (some ⟨w.heap.size + 1, 0, none⟩) 6 6))).alloc _
  have hB : Below w.heap.size w ((w.alloc (.cells #[.int .i64 3, .int .i64 2, .slice (some ⟨w.heap.size + 1, 0, none⟩) 6 6] 34)).alloc (.cells #[.int .u8 1, .int .u8 255, .int .u8 2, .int .u8 0, .int .u8 255, .int .u8 1] 5)) := ((Below.refl _ _).alloc (Nat.le_refl _) _).alloc (by simp) _
  have HR := Lib.hid hr; have HB := Lib.hid hb; have HL := Lib.hid hB
  clear hr hb hB
  go_enter Try.func27, Try.ntmps27
  go_wp2
  generalize (w.alloc _).alloc _ = W at HR HB HL ⊢
  refine bodyPost_ret (v := .agg (b3 3 2 (.slice (some ⟨w.heap.size + 1, 0, none⟩) 6 6))) ?_ rfl ?_
  · exact results_cell_row rfl _ _ w.heap.size 34 _ (0, 0) _ rfl HB.out Try.underlying34 rfl (f3_info _ _ _)
  · exact ⟨_, _, rfl, HR, HL.out⟩

def wantL : List Int := [0, -2, 1, -1]
theorem want_at {k : Nat} {x : Int} (hx : wantL[k]? = some x) : ownS 3 2 sixL (k : Int) = (x, 0) := by
  match k with
  | 0 => injection hx with hx; subst hx; decide
  | 1 => injection hx with hx; subst hx; decide
  | 2 => injection hx with hx; subst hx; decide
  | 3 => injection hx with hx; subst hx; decide
  | k + 4 => cases hx
set_option maxHeartbeats 1600000 in
theorem owns_yes (A : Option Addr) (c : Nat) (w : World) (hr : Reads w w.heap.size 1 A 4 (iv wantL)) :
    Calls Try.prog 30 #[.slice A 4 c] w fun e w' => e = .returned (.bool true) ∧ Below w.heap.size w w' := by
  have HR := Lib.hid hr
  clear hr
  have B := Lib.hid (Below.refl w.heap.size w)
  go_enter Try.func30, Try.ntmps30
  go_wp2
  go_loopw [3] (fun i wr => ∃ k : Nat, k ≤ 4 ∧ i = .int .i64 (k : Int) ∧ Hid (Below w.heap.size w wr)) (fun i _ => 4 - (intOf i).toNat)
  case atStart => exact ⟨0, Nat.zero_le _, rfl, B⟩
  case round =>
    obtain ⟨k, hk, rfl, hB⟩ := hrel
    clear B
    have B := hB
    clear hB
    by_cases hlt : k < 4
    · have hrr := (HR.out.below B.out)
      obtain ⟨ad0, x0, rfl, _, hx0, _⟩ := ints_at hrr hlt
      have HW := Lib.hid (want_at hx0)
      have HX0 := Lib.hid hx0
      clear hx0 hrr
      go_wp2_with fail
      refine (six_any _).mono ?_
      rintro e x1 ⟨A1, c1, rfl, r1, hb⟩
      replace B := Lib.hid (B.out.trans (hb.mono B.out.size))
      clear hb
      have O1 := Lib.hid (owner_any 3 2 A1 6 c1 sixL (k : Int) _ r1.out (by omega))
      rw [HW.out] at O1
      go_wp2_with fail
      refine O1.out.mono ?_
      rintro e x2 ⟨rfl, hb⟩
      replace B := Lib.hid (B.out.trans (hb.mono B.out.size))
      clear hb O1
      obtain ⟨ad, x, he, _, hx, hcx⟩ := ints_at (HR.out.below B.out) hlt
      injection he with he
      subst he
      obtain rfl : x = x0 := by have := HX0.out; rw [hx] at this; injection this
      clear hx
      have k0 : (0 : Int) ≤ (k : Int) := by omega
      have k1 : (k : Int) < 4 := by omega
      go_wp2_with fail
      refine (is_true _ _).mono ?_
      rintro e x ⟨rfl, rfl⟩
      go_wp2
      go_roundw
      case rel => exact ⟨k + 1, by omega, by go_num, B⟩
      case measure => simp [intOf]; omega
    · obtain rfl : k = 4 := by omega
      go_wp2
      go_ret
      exact ⟨rfl, B.out⟩

theorem made_bv (n : Nat) : madeCells #[Value.int .u8 0] n = (bv (List.replicate n 0)).toArray := by
  apply Array.toList_inj.1
  rw [toList_madeCells_one]
  simp [bv, u8v]
theorem made_reads (w : World) (n : Nat) : Reads (w.alloc (.cells (madeCells #[Value.int .u8 0] n) 5)) (w.alloc (.cells (madeCells #[Value.int .u8 0] n) 5)).heap.size 1 (some ⟨w.heap.size, 0, none⟩) n (bv (List.replicate n 0)) := by
  rw [made_bv]
  have := reads_lit w 5 (bv (List.replicate n 0))
  rw [bv_length, List.length_replicate] at this
  exact this.more (by simp)
end Go.Proofs.Ythehkapaipfoaaa
