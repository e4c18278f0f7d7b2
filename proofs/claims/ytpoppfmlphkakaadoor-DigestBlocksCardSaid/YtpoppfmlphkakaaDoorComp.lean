/-
  COMP: the contract of digest.Compress.
-/
import Derived.Test.YtpoppfmlphkakaaDoorMix
import Derived.Test.YtpoppfmlphkakaaDoorSched
import Derived.Test.YtpoppfmlphkakaaDoorCompMath
import Derived.LoopN
namespace Go.Proofs.YtpoppfmlphkakaaDoor
set_option linter.unusedVariables false
set_option linter.unusedSimpArgs false
set_option maxRecDepth 100000
open Go.RowKit

/-- The table of constants, in memory. -/
def HasRc (w : World) : Prop := 2 ≤ w.heap.size ∧ ∀ i x, rc[i]? = some x → w.cell? ⟨1, i, none⟩ = some (u32v x)
theorem HasRc.below {w w' : World} {B : Nat} (h : HasRc w) (hb : Below B w w') (hB : 2 ≤ B) : HasRc w' :=
  ⟨Nat.le_trans h.1 hb.size, fun i x hx => (hb.cell (by show 1 < B; omega)).trans (h.2 i x hx)⟩

theorem vals_size (s : St) : s.vals.size = 8 := rfl
theorem vals_one (s : St) : s.vals.all (·.oneCell') = true := by simp [St.vals, u32v, Value.oneCell']
@[irreducible] def zeros8 : Array Value := #[.int .u32 0, .int .u32 0, .int .u32 0, .int .u32 0, .int .u32 0, .int .u32 0, .int .u32 0, .int .u32 0]
theorem zeros8_size : zeros8.size = 8 := by unfold zeros8; rfl
theorem alloc8 : ∀ w : World, (Instr.alloc 40 true (.tuple #[])).run Tryd.prog w = .ok (.pointer (some ⟨w.heap.size, 0, none⟩)) (w.alloc (.cells zeros8 40)) := fun _ => by unfold zeros8; kernel_rfl
theorem size8 : (Tryd.prog.info? 40).map (·.size) = some 8 := by kernel_rfl

set_option maxHeartbeats 1600000 in
theorem compress_any (s : St) (l : List UInt8) (w : World) (hs : s.ok) (hl : l.length = 64) (hrc : HasRc w) :
    Calls Tryd.prog 27 #[.agg s.vals, .agg (bv l).toArray] w fun e w' => e = .returned (.agg (compress s l).vals) ∧ Below w.heap.size w w' := by
  obtain ⟨iw, hiw, _, hiw1, _⟩ := info_parts u32_info
  have HR := Lib.hid hrc; clear hrc
  have HL := Lib.hid hl; clear hl
  have hz := alloc8
  have b0 : Blk (((w.alloc (.cells s.vals 40)).alloc (.cells (bv l).toArray 48)).alloc (.cells zeros8 40)) w.heap.size 40 s.vals := ((Blk.new w _ _).alloc _).alloc _
  have b1 : Blk (((w.alloc (.cells s.vals 40)).alloc (.cells (bv l).toArray 48)).alloc (.cells zeros8 40)) (w.heap.size + 1) 48 (bv l).toArray := by
    have := (Blk.new (w.alloc (.cells s.vals 40)) 48 (bv l).toArray).alloc (.cells zeros8 40)
    simpa using this
  have b2 : Blk (((w.alloc (.cells s.vals 40)).alloc (.cells (bv l).toArray 48)).alloc (.cells zeros8 40)) (w.heap.size + 1 + 1) 40 zeros8 := by
    have := Blk.new ((w.alloc (.cells s.vals 40)).alloc (.cells (bv l).toArray 48)) 40 zeros8
    simpa using this
  have hbel : Below w.heap.size w (((w.alloc (.cells s.vals 40)).alloc (.cells (bv l).toArray 48)).alloc (.cells zeros8 40)) :=
    (((Below.refl _ _).alloc (Nat.le_refl _) _).alloc (by simp) _).alloc (by simp; omega) _
  have hsz : (((w.alloc (.cells s.vals 40)).alloc (.cells (bv l).toArray 48)).alloc (.cells zeros8 40)).heap.size = w.heap.size + 1 + 1 + 1 := by simp
  have hs8 : (Tryd.prog.info? 40).map (·.size) = some s.vals.size := by rw [size8, vals_size]
  have hs64 : (Tryd.prog.info? 48).map (·.size) = some (bv l).toArray.size := by rw [size48]; simp [HL.out]
  have hzs : zeros8.size = s.vals.size := by rw [zeros8_size, vals_size]
  have b3 : Blk ((((w.alloc (.cells s.vals 40)).alloc (.cells (bv l).toArray 48)).alloc (.cells zeros8 40)).alloc (.cells zeros8 40)) (w.heap.size + 1 + 1 + 1) 40 zeros8 := by
    have := Blk.new (((w.alloc (.cells s.vals 40)).alloc (.cells (bv l).toArray 48)).alloc (.cells zeros8 40)) 40 zeros8
    rw [hsz] at this
    exact this
  have d0 : Blk (((((w.alloc (.cells s.vals 40)).alloc (.cells (bv l).toArray 48)).alloc (.cells zeros8 40)).alloc (.cells zeros8 40)).setRow (w.heap.size + 1 + 1 + 1) s.vals) w.heap.size 40 s.vals := (b0.alloc _).rowFar (by omega) _
  have d1 : Blk (((((w.alloc (.cells s.vals 40)).alloc (.cells (bv l).toArray 48)).alloc (.cells zeros8 40)).alloc (.cells zeros8 40)).setRow (w.heap.size + 1 + 1 + 1) s.vals) (w.heap.size + 1) 48 (bv l).toArray := (b1.alloc _).rowFar (by omega) _
  have d2 : Blk (((((w.alloc (.cells s.vals 40)).alloc (.cells (bv l).toArray 48)).alloc (.cells zeros8 40)).alloc (.cells zeros8 40)).setRow (w.heap.size + 1 + 1 + 1) s.vals) (w.heap.size + 1 + 1) 40 zeros8 := (b2.alloc _).rowFar (by omega) _
  have d3 : Blk (((((w.alloc (.cells s.vals 40)).alloc (.cells (bv l).toArray 48)).alloc (.cells zeros8 40)).alloc (.cells zeros8 40)).setRow (w.heap.size + 1 + 1 + 1) s.vals) (w.heap.size + 1 + 1 + 1) 40 s.vals := b3.row _
  have dB : Below w.heap.size w (((((w.alloc (.cells s.vals 40)).alloc (.cells (bv l).toArray 48)).alloc (.cells zeros8 40)).alloc (.cells zeros8 40)).setRow (w.heap.size + 1 + 1 + 1) s.vals) := below_setRow (hbel.alloc (by rw [hsz]; omega) _) (by omega) _
  have H0 := Lib.hid b0; have H1 := Lib.hid b1; have H2 := Lib.hid b2; have H3 := Lib.hid b3; have S8 := Lib.hid hs8; have S64 := Lib.hid hs64; have ZS := Lib.hid hzs
  have D0 := Lib.hid d0; have D1 := Lib.hid d1; have D2 := Lib.hid d2; have D3 := Lib.hid d3; have DB := Lib.hid dB
  clear b0 b1 b2 hbel hsz hs8 hs64 hzs d0 d1 d2 d3 dB b3
  go_enter Tryd.func27, Tryd.ntmps27
  go_wp2_with (first | (with_reducible refine wpList_alloc_named rfl 40 rfl zeros8 hz ?_) | (refine wpList_load_row rfl 40 (.tmp 2) rfl w.heap.size rfl 40 s.vals (0, 0) _ H0.out Tryd.underlying40 rfl S8.out ?_) | (refine wpList_store_row rfl 40 (.tmp 5) (.tmp 11) rfl (w.heap.size + 1 + 1 + 1) s.vals (by simp [Act.eval, Act.put]) (by simp [Act.eval, Act.put]) 40 zeros8 H3.out S8.out ZS.out (vals_one _) ?_) | (refine wpList_load_row rfl 48 (.tmp 3) rfl (w.heap.size + 1) rfl 48 (bv l).toArray (0, 0) _ D1.out Tryd.underlying48 rfl S64.out ?_))
  generalize (((((w.alloc (.cells s.vals 40)).alloc (.cells (bv l).toArray 48)).alloc (.cells zeros8 40)).alloc (.cells zeros8 40)).setRow (w.heap.size + 1 + 1 + 1) s.vals) = W5 at D0 D1 D2 D3 DB ⊢
  clear H0 H1 H2 H3 D1 hz
  refine (schedule_any l W5 HL.out).mono ?_
  rintro e w6 ⟨rfl, hb6⟩
  have e0 : Blk w6 w.heap.size 40 s.vals := D0.out.below hb6 D0.out.lt
  have e2 : Blk w6 (w.heap.size + 1 + 1) 40 zeros8 := D2.out.below hb6 D2.out.lt
  have e3 : Blk w6 (w.heap.size + 1 + 1 + 1) 40 s.vals := D3.out.below hb6 D3.out.lt
  have hsz5 := DB.out.size
  have eB : Below w.heap.size w w6 := DB.out.trans (hb6.mono hsz5)
  have E0 := Lib.hid e0; have E2 := Lib.hid e2; have E3 := Lib.hid e3; have EB := Lib.hid eB
  clear e0 e2 e3 eB hb6 D0 D2 D3 DB
  go_wp2_with fail
  go_loopw [15] (fun i wr => ∃ k : Nat, k ≤ 64 ∧ i = .int .i64 (k : Int) ∧ Blk wr (w.heap.size + 1 + 1 + 1) 40 (rounds s (sched l) k).vals ∧ Blk wr w.heap.size 40 s.vals ∧ Blk wr (w.heap.size + 1 + 1) 40 zeros8 ∧ Below w.heap.size w wr)
    (fun i _ => 64 - (intOf i).toNat)
  case atStart => exact ⟨0, Nat.zero_le _, rfl, E3.out, E0.out, E2.out, EB.out⟩
  case round =>
    obtain ⟨k, hk, rfl, hB3, hB0, hB2, hnx⟩ := hrel
    by_cases hlt : k < 64
    · obtain ⟨x, hx⟩ : ∃ x, (sched l)[k]? = some x := ⟨_, List.getElem?_eq_getElem (by rw [sched_length]; exact hlt)⟩
      obtain ⟨y, hy⟩ : ∃ y, rc[k]? = some y := ⟨_, List.getElem?_eq_getElem (by rw [rc_length]; exact hlt)⟩
      have q1 := fun W => run_index_agg (P := Tryd.prog) W 91 39 64 (wv (sched l)) .i64 .u32 k (u32v x) iw Tryd.underlying91 Tryd.underlying39 hiw hiw1 (wv_at hx) hlt
      have hcell := (HR.out.below hnx HR.out.1).2 k y hy
      unfold u32v at q1 hcell
      have hstep : rounds s (sched l) (k + 1) = (rounds s (sched l) k).step y x := by
        show (rounds s (sched l) k).step (rc.getD k 0) ((sched l).getD k 0) = _
        rw [List.getD_eq_getElem?_getD, List.getD_eq_getElem?_getD, hx, hy]
        rfl
      have hok := rounds_ok hs (sched l) k
      generalize rounds s (sched l) k = m at hB3 hstep hok
      have hmx := mix_any (w.heap.size + 1 + 1 + 1) 40 m y x wr hok hB3
      rw [← hstep] at hmx
      have S0 := Lib.hid hB0; have S2 := Lib.hid hB2; have SM := Lib.hid hmx
      clear hB0 hB2 hmx hB3 hstep hx hy
      go_wp2_with fail
      refine SM.out.mono ?_
      rintro e w7 ⟨rfl, hb7, hg7⟩
      have f0 := S0.out.grown hg7 (fun e => by injection e with e; omega)
      have f2 := S2.out.grown hg7 (fun e => by injection e with e; omega)
      have hnx7 : Below w.heap.size w w7 := hnx.grown hg7 hnx.size (fun g h => by injection h with h; omega)
      have T7 := Lib.hid hb7; have T0 := Lib.hid f0; have T2 := Lib.hid f2
      clear hb7 f0 f2 hg7
      go_wp2
      go_roundw
      case rel => exact ⟨k + 1, by omega, by go_num, T7.out, T0.out, T2.out, hnx7⟩
      case measure => simp [intOf]; omega
    · have hk64 : k = 64 := by omega
      rw [hk64, mixed_eq] at hB3
      have hok := mixed_ok hs l
      have hcomp : compress s l = (mixed s l).add s := rfl
      generalize mixed s l = m at hB3 hok hcomp
      have HC := Lib.hid hcomp
      clear hcomp E0 E2 E3 EB
      have HK := Lib.hid hk64; clear hk64
      have L0 := Lib.hid hB0
      have hB3' : Blk wr (w.heap.size + 1 + 1 + 1) 40 (wv (sumTo m.list s.list 0)) := by rw [sumTo_zero, ← vals_eq]; exact hB3
      have L2 := Lib.hid hB2; have L3 := Lib.hid hB3'; have LN := Lib.hid hnx
      clear hB3 hB2 hB0 hB3' hnx HR
      go_wp2_with (refine wpList_load_row rfl 40 (.tmp 2) rfl w.heap.size rfl 40 _ (0, 0) _ L0.out Tryd.underlying40 rfl S8.out ?_)
      obtain ⟨wo, rfl⟩ : ∃ wo : World, wo = wr := ⟨_, rfl⟩
      go_loopw [27] (fun i wr => ∃ j : Nat, j ≤ 8 ∧ i = .int .i64 (j : Int) ∧ Blk wr (w.heap.size + 1 + 1 + 1) 40 (wv (sumTo m.list s.list j)) ∧ Blk wr (w.heap.size + 1 + 1) 40 zeros8 ∧ Below w.heap.size w wr)
        (fun i _ => 8 - (intOf i).toNat)
      case atStart => exact ⟨0, Nat.zero_le _, rfl, L3.out, L2.out, LN.out⟩
      case round =>
        obtain ⟨j, hj, rfl, hB3, hB2, hnx⟩ := hrel
        by_cases hlj : j < 8
        · have q1 := fun W => run_index_agg (P := Tryd.prog) W 40 39 8 s.vals .i64 .u32 j (u32v (s.list.getD j 0)) iw Tryd.underlying40 Tryd.underlying39 hiw hiw1 (by rw [vals_eq]; exact wv_at (s.list_getD hlj)) hlj
          have hcell := hB3.cellv j (wv_at (sumTo_at m.list s.list j hlj))
          have hfz := hB3.frozen j
          have hset := hB3.set_ j (u32v ((m.list.getD j 0 + s.list.getD j 0) % 4294967296))
          rw [wv_set, ← sumTo_step m.list s.list j hlj] at hset
          generalize m.list.getD j 0 = x at *
          generalize s.list.getD j 0 = y at *
          unfold u32v at q1 hcell
          have hsum : ((x : Int) + (y : Int)) % 4294967296 = (((x + y) % 4294967296 : Nat) : Int) := by omega
          have S1 := Lib.hid hset; have S2 := Lib.hid hB2; have S3 := Lib.hid hsum
          clear hset hB2 hB3 hsum
          go_wp2
          go_roundw
          case rel => exact ⟨j + 1, by omega, by go_num, by rw [S3.out]; exact S1.out, S2.out.far (by show _ ≠ w.heap.size + 1 + 1 + 1; omega) _, hnx.setCell (by show _ ≤ w.heap.size + 1 + 1 + 1; omega) _⟩
          case measure => simp [intOf]; omega
        · have hj8 : j = 8 := by omega
          rw [hj8, sumTo_full, ← HC.out] at hB3
          have hB3' : Blk wr (w.heap.size + 1 + 1 + 1) 40 (compress s l).vals := by rw [vals_eq]; exact hB3
          have hc8 : (Tryd.prog.info? 40).map (·.size) = some (compress s l).vals.size := by rw [size8, vals_size]
          have hz8 : zeros8.size = (compress s l).vals.size := by rw [zeros8_size, vals_size]
          have R1 := Lib.hid hB3'; have R2 := Lib.hid hB2; have R3 := Lib.hid hc8; have R4 := Lib.hid hz8
          have h1 := vals_one (compress s l)
          have R5 := Lib.hid h1
          clear hB3 hB3' hB2 hc8 hz8 hj8 h1
          go_wp2_with (first | (refine wpList_load_row rfl 40 (.tmp 5) rfl (w.heap.size + 1 + 1 + 1) rfl 40 (compress s l).vals (0, 0) _ R1.out Tryd.underlying40 rfl R3.out ?_) | (refine wpList_store_row rfl 40 (.tmp 4) (.tmp 38) rfl (w.heap.size + 1 + 1) (compress s l).vals (by simp [Act.eval, Act.put]) (by simp [Act.eval, Act.put]) 40 zeros8 R2.out R3.out R4.out R5.out ?_))
          exact bodyPost_ret (results_cell_row rfl _ _ (w.heap.size + 1 + 1) 40 (compress s l).vals (0, 0) _ rfl (R2.out.row _) Tryd.underlying40 rfl R3.out) rfl ⟨rfl, below_setRow hnx (by omega) _⟩
end Go.Proofs.YtpoppfmlphkakaaDoor
