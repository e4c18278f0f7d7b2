/-
  SCHED: the contract of digest.schedule.
-/
import Derived.Test.YtpoppfmlphkakaaDoorRot
import Derived.Test.YtpoppfmlphkakaaDoorSchedMath
import Derived.Test.YtpoppfmlphkakaaDoorArr
import Derived.Test.YtpoppfmlphkakaaDoorBytes
import Derived.StillTailTactics
namespace Go.Proofs.YtpoppfmlphkakaaDoor
set_option linter.unusedVariables false
set_option linter.unusedSimpArgs false
set_option maxRecDepth 100000
open Go.RowKit

theorem u32_info : (Tryd.prog.info? 39).map (fun i => (i.zero, i.size, i.bytes)) = some (some (.int .u32 0), 1, 4) := by kernel_rfl
def zeros64 : Array Value := wv (List.replicate 64 0)
theorem alloc64 : ∀ w : World, (Instr.alloc 91 true (.tuple #[])).run Tryd.prog w = .ok (.pointer (some ⟨w.heap.size, 0, none⟩)) (w.alloc (.cells zeros64 91)) := fun _ => by kernel_rfl
theorem size48 : (Tryd.prog.info? 48).map (·.size) = some 64 := by kernel_rfl
theorem size91 : (Tryd.prog.info? 91).map (·.size) = some 64 := by kernel_rfl

set_option maxHeartbeats 800000 in
set_option maxRecDepth 100000 in
theorem schedule_any (l : List UInt8) (w : World) (hl : l.length = 64) :
    Calls Tryd.prog 49 #[.agg (bv l).toArray] w fun e w' => e = .returned (.agg (wv (sched l))) ∧ Below w.heap.size w w' := by
  obtain ⟨ib, hib, _, hib1, _⟩ := info_parts u8_info
  have HL := Lib.hid hl; clear hl
  have hz := alloc64
  have b0 : Blk (((w.alloc (.cells (bv l).toArray 48)).alloc (.cells zeros64 91)).alloc (.cells zeros64 91)) w.heap.size 48 (bv l).toArray := ((Blk.new w _ _).alloc _).alloc _
  have b1 : Blk (((w.alloc (.cells (bv l).toArray 48)).alloc (.cells zeros64 91)).alloc (.cells zeros64 91)) (w.heap.size + 1) 91 zeros64 := by
    have := (Blk.new (w.alloc (.cells (bv l).toArray 48)) 91 zeros64).alloc (.cells zeros64 91)
    simpa using this
  have b2 : Blk (((w.alloc (.cells (bv l).toArray 48)).alloc (.cells zeros64 91)).alloc (.cells zeros64 91)) (w.heap.size + 1 + 1) 91 zeros64 := by
    have := (Blk.new ((w.alloc (.cells (bv l).toArray 48)).alloc (.cells zeros64 91)) 91 zeros64)
    simpa using this
  have hbel : Below w.heap.size w (((w.alloc (.cells (bv l).toArray 48)).alloc (.cells zeros64 91)).alloc (.cells zeros64 91)) :=
    (((Below.refl _ _).alloc (Nat.le_refl _) _).alloc (by simp) _).alloc (by simp; omega) _
  have H0 := Lib.hid b0; have H1 := Lib.hid b1; have H2 := Lib.hid b2; have H3 := Lib.hid hbel; clear b0 b1 b2 hbel
  have hs : (Tryd.prog.info? 48).map (·.size) = some (bv l).toArray.size := by rw [size48]; simp [HL.out]
  have HS := Lib.hid hs; clear hs
  go_enter Tryd.func49, Tryd.ntmps49
  go_wp2_with (first | (with_reducible refine wpList_alloc_named rfl 91 rfl zeros64 hz ?_) | (refine wpList_load_row rfl 48 (.tmp 1) rfl w.heap.size rfl 48 (bv l).toArray (0, 0) _ H0.out Tryd.underlying48 rfl HS.out ?_))
  generalize ((w.alloc (.cells (bv l).toArray 48)).alloc (.cells zeros64 91)).alloc (.cells zeros64 91) = W3 at H0 H1 H2 H3 ⊢
  clear hz
  go_loopw [10] (fun i wr => ∃ k : Nat, k ≤ 64 ∧ i = .int .i64 (k : Int) ∧ Blk wr (w.heap.size + 1 + 1) 91 (wv (partWords l k)) ∧ Blk wr (w.heap.size + 1) 91 zeros64 ∧ Below w.heap.size w wr)
    (fun i _ => 64 - (intOf i).toNat)
  case atStart => exact ⟨0, Nat.zero_le _, rfl, by rw [partWords_zero]; exact H2.out, H1.out, H3.out⟩
  case round =>
    obtain ⟨k, hk, rfl, hB2, hB1, hnx⟩ := hrel
    by_cases hlt : k < 64
    · obtain ⟨x, hx⟩ : ∃ x, l[k]? = some x := ⟨_, List.getElem?_eq_getElem (by rw [HL.out]; exact hlt)⟩
      have q1 := fun W => run_index_agg (P := Tryd.prog) W 48 5 64 (bv l).toArray .i64 .u8 k (u8v x) ib Tryd.underlying48 Tryd.underlying5 hib hib1 (by simp [bv, hx]) hlt
      unfold u8v at q1
      have hst := partWords_step l hx hlt
      have hpl := part_lt l (k := k) (j := k / 4) (by omega)
      have hat := wv_at (partWords_at l k (k / 4) (by omega))
      generalize val (((l.take k).drop (4 * (k / 4))).take 4) = v at *
      have hcell := hB2.cellv (k / 4) hat
      have hfz := hB2.frozen (k / 4)
      unfold u32v at hcell
      have hxl := x.toNat_lt
      have hset := hB2.set_ (k / 4) (u32v (256 * v + x.toNat))
      rw [wv_set, ← hst] at hset
      have hlt2 := hB2.lt
      have S1 := Lib.hid hset; have S2 := Lib.hid hB1; have S3 := Lib.hid hst
      clear hset hB1 hst hat hx hB2
      have hor := or_byte32 v x hpl
      have S4 := Lib.hid hor; clear hor
      go_wp2
      go_roundw
      case rel => exact ⟨k + 1, by omega, by go_num, by rw [S4.out]; exact S1.out, S2.out.far (by show _ ≠ w.heap.size + 1 + 1; omega) _, hnx.setCell (by show _ ≤ w.heap.size + 1 + 1; omega) _⟩
      case measure => simp [intOf]; omega
    · have hk64 : k = 64 := by omega
      have hpw : partWords l k = padded l 16 := by rw [hk64, partWords_full l HL.out]; rfl
      rw [hpw] at hB2
      clear H0 H1 H2 H3 hpw hk64
      go_wp2_with fail
      obtain ⟨wo, rfl⟩ : ∃ wo : World, wo = wr := ⟨_, rfl⟩
      go_loopw [8] (fun i wr => ∃ k : Nat, 16 ≤ k ∧ k ≤ 64 ∧ i = .int .i64 (k : Int) ∧ Blk wr (w.heap.size + 1 + 1) 91 (wv (padded l k)) ∧ Blk wr (w.heap.size + 1) 91 zeros64 ∧ Below w.heap.size w wr)
        (fun i _ => 64 - (intOf i).toNat)
      case atStart => exact ⟨16, by omega, by omega, rfl, hB2, hB1, hnx⟩
      case round =>
        obtain ⟨k, hk16, hk, rfl, hB2, hB1, hnx⟩ := hrel
        by_cases hlt : k < 64
        · have c0 := hB2.cellv (k - 16) (wv_at (padded_at l (i := k) (j := k - 16) (by omega)))
          have c1 := hB2.cellv (k - 15) (wv_at (padded_at l (i := k) (j := k - 15) (by omega)))
          have c2 := hB2.cellv (k - 7) (wv_at (padded_at l (i := k) (j := k - 7) (by omega)))
          have c3 := hB2.cellv (k - 2) (wv_at (padded_at l (i := k) (j := k - 2) (by omega)))
          have e0 := words_at_lt l k (k - 16)
          have e1 := words_at_lt l k (k - 15)
          have e2 := words_at_lt l k (k - 7)
          have e3 := words_at_lt l k (k - 2)
          have hnw := nextWord_late l (words l k) hk16
          generalize (words l k).getD (k - 16) 0 = a0 at c0 e0 hnw
          generalize (words l k).getD (k - 15) 0 = a1 at c1 e1 hnw
          generalize (words l k).getD (k - 7) 0 = a2 at c2 e2 hnw
          generalize (words l k).getD (k - 2) 0 = a3 at c3 e3 hnw
          unfold u32v at c0 c1 c2 c3
          obtain ⟨u, hu⟩ : ∃ u, (wv (padded l k))[k]? = some u := ⟨_, Array.getElem?_eq_getElem (by rw [wv_size, padded_length l hk]; exact hlt)⟩
          have c4 := hB2.cellv k hu
          have hfz := hB2.frozen k
          have hset := hB2.set_ k (u32v (nextWord l (words l k) k))
          rw [wv_set, ← padded_step l hlt] at hset
          have S1 := Lib.hid hset; have S2 := Lib.hid hB1; have S3 := Lib.hid hnw
          clear hset hB1 hnw hu hB2
          have g16 : IntKind.i64.wrap ((k : Int) - 16) = ((k - 16 : Nat) : Int) := by rw [IntWalk.i64_in _ (by omega)]; omega
          have g15 : IntKind.i64.wrap ((k : Int) - 15) = ((k - 15 : Nat) : Int) := by rw [IntWalk.i64_in _ (by omega)]; omega
          have g7 : IntKind.i64.wrap ((k : Int) - 7) = ((k - 7 : Nat) : Int) := by rw [IntWalk.i64_in _ (by omega)]; omega
          have g2 : IntKind.i64.wrap ((k : Int) - 2) = ((k - 2 : Nat) : Int) := by rw [IntWalk.i64_in _ (by omega)]; omega
          have l16 : ((k - 16 : Nat) : Int) < 64 := by omega
          have l15 : ((k - 15 : Nat) : Int) < 64 := by omega
          have l7 : ((k - 7 : Nat) : Int) < 64 := by omega
          have l2 : ((k - 2 : Nat) : Int) < 64 := by omega
          have early := (early_any a1 wr.drew e1).mono (R' := fun e w'' => e = .returned (.int .u32 (sig0 a1 : Int)) ∧ w'' = wr.drew) fun _ _ h => ⟨h.1, h.2.symm⟩
          have late := (late_any a3 wr.drew e3).mono (R' := fun e w'' => e = .returned (.int .u32 (sig1 a3 : Int)) ∧ w'' = wr.drew) fun _ _ h => ⟨h.1, h.2.symm⟩
          have CE := Lib.hid early; have CL := Lib.hid late; clear early late
          go_wp2
          go_still_tail 25, (by kernel_rfl)
          still_call CE.out
          repeat still_step
          still_call CL.out
          repeat still_step
          refine wpStill_nil ?_
          clear g16 g15 g7 g2
          change wpList _ _ _ _ _ wr.drew
          have hws := sum4 a0 (sig0 a1) a2 (sig1 a3)
          have HWS := Lib.hid hws; clear hws
          go_wp2
          go_roundw
          case rel => exact ⟨k + 1, by omega, by omega, by go_num, by rw [HWS.out, ← S3.out]; exact S1.out.drew, (S2.out.far (p := ⟨w.heap.size + 1 + 1, k, none⟩) (by show _ ≠ w.heap.size + 1 + 1; omega) _).drew, (hnx.setCell (p := ⟨w.heap.size + 1 + 1, k, none⟩) (by show _ ≤ w.heap.size + 1 + 1; omega) _).drew⟩
          case measure => simp [intOf]; omega
        · have hk64 : k = 64 := by omega
          rw [hk64, padded_full] at hB2
          clear hk64
          have hs1 : (Tryd.prog.info? 91).map (·.size) = some (wv (sched l)).size := by rw [size91, wv_size, sched_length]
          have hs2 : zeros64.size = (wv (sched l)).size := by unfold zeros64; rw [wv_size, wv_size, sched_length]; simp
          have R1 := Lib.hid hB2; have R2 := Lib.hid hB1; have R3 := Lib.hid hs1; have R4 := Lib.hid hs2
          clear hB2 hB1 hs1 hs2
          go_wp2_with (first | (refine wpList_load_row rfl 91 (.tmp 3) rfl (w.heap.size + 1 + 1) rfl 91 (wv (sched l)) (0, 0) _ R1.out Tryd.underlying91 rfl R3.out ?_) | (refine wpList_store_row rfl 91 (.tmp 2) (.tmp 55) rfl (w.heap.size + 1) (wv (sched l)) rfl rfl 91 zeros64 R2.out R3.out R4.out (wv_one _) ?_))
          exact bodyPost_ret (results_cell_row rfl _ _ (w.heap.size + 1) 91 (wv (sched l)) (0, 0) _ rfl (R2.out.row _) Tryd.underlying91 rfl R3.out) rfl ⟨rfl, below_setRow hnx (by omega) _⟩
end Go.Proofs.YtpoppfmlphkakaaDoor
