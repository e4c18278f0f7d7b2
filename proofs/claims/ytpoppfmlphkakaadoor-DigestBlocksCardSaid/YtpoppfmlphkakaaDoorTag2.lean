/-
  TAG: the contract of digest.Tag, good case.
-/
import Derived.Test.YtpoppfmlphkakaaDoorTag
namespace Go.Proofs.YtpoppfmlphkakaaDoor
set_option linter.unusedVariables false
set_option linter.unusedSimpArgs false
set_option maxRecDepth 100000
open Go.RowKit

/-- HMAC-SHA256 in plain Lean, as the walk comes to it. -/
def tagB (key l : List UInt8) : List UInt8 := keyedB ((key64 key).map (· ^^^ 92)) (keyedB ((key64 key).map (· ^^^ 54)) l)
theorem tagB_length (key l : List UInt8) : (tagB key l).length = 32 := keyedB_length _ _

set_option maxHeartbeats 1600000 in
theorem tag_ok (A A2 : Option Addr) (m c m2 c2 : Nat) (key l : List UInt8) (w : World) (hr : Reads w w.heap.size 1 A m (bv key)) (hr2 : Reads w w.heap.size 1 A2 m2 (bv l)) (hm0 : 1 ≤ m) (hm : m ≤ 64) (hm2 : m2 ≤ 8128) (hrc : HasRc w) (hfs : HasFs w) :
    Calls Tryd.prog 22 #[.slice A m c, .slice A2 m2 c2] w fun e w' => e = .returned (.tuple #[.agg (bv (tagB key l)).toArray, .int .i64 0]) ∧ Below w.heap.size w w' := by
  have hz32 := alloc32
  have hb0 : Below w.heap.size w (w.alloc (.cells zeros32 35)) := (Below.refl _ _).alloc (Nat.le_refl _) _
  have b0 := Blk.new w 35 zeros32
  have hk1 := keyed_ok A A2 m c m2 c2 54 key l (w.alloc (.cells zeros32 35)) ((hr.below hb0).more hb0.size) ((hr2.below hb0).more hb0.size) hm hm2 (hrc.below hb0 hrc.1) (hfs.below hb0 hfs.1)
  have hD1 : (keyedB ((key64 key).map (· ^^^ 54)) l).length = 32 := keyedB_length _ _
  obtain ⟨I, hI⟩ : ∃ I, I = keyedB ((key64 key).map (· ^^^ 54)) l := ⟨_, rfl⟩
  rw [← hI] at hk1 hD1
  have K1 := Lib.hid hk1; have HB0 := Lib.hid hb0; have B0 := Lib.hid b0; have HR := Lib.hid hr; have HRC := Lib.hid hrc; have HFS := Lib.hid hfs; have HD1 := Lib.hid hD1; have HI := Lib.hid hI
  have t1 : decide ((m : Int) < 1) = false := by simp; omega
  have t2 : decide ((64 : Int) < (m : Int)) = false := by simp; omega
  clear hk1 hb0 b0 hr hr2 hrc hfs hD1 hI
  go_enter Tryd.func22, Tryd.ntmps22
  go_wp2_with (first | (with_reducible refine wpList_alloc_named rfl 35 rfl zeros32 hz32 ?_))
  refine K1.out.mono ?_
  rintro e w1 ⟨rfl, hb1⟩
  have hw1 : Below w.heap.size w w1 := HB0.out.trans (hb1.mono HB0.out.size)
  have b1 := B0.out.below hb1 B0.out.lt
  have hsD : (Tryd.prog.info? 35).map (·.size) = some (bv I).toArray.size := by rw [size32]; simp [HD1.out]
  have hoD : zeros32.size = (bv I).toArray.size := by rw [zeros32_size]; simp [HD1.out]
  have h1D : (bv I).toArray.all (·.oneCell') = true := by
    rw [Array.all_eq_true_iff_forall_mem]
    intro v hv
    exact bv_oneCell I v (by simpa using hv)
  have bi := Blk.new w1 35 zeros32
  have hbW : Below w1.heap.size w1 ((w1.alloc (.cells zeros32 35)).setRow w1.heap.size (bv I).toArray) := below_setRow ((Below.refl _ _).alloc (Nat.le_refl _) _) (Nat.le_refl _) _
  have biW := bi.row (bv I).toArray
  have hszW := hbW.size
  have hk2 := keyed_ok A (some ⟨w1.heap.size, 0, none⟩) m c 32 32 92 key I _ (((HR.out.below hw1).below (hbW.mono hw1.size)).more (Nat.le_trans hw1.size hszW)) (HD1.out ▸ Blk.reads biW (by simp)) hm (by omega) ((HRC.out.below hw1 HRC.out.1).below hbW (Nat.le_trans HRC.out.1 hw1.size)) ((HFS.out.below hw1 HFS.out.1).below hbW (Nat.le_trans HFS.out.1 hw1.size))
  rw [HI.out, show keyedB ((key64 key).map (· ^^^ 92)) (keyedB ((key64 key).map (· ^^^ 54)) l) = tagB key l from rfl, ← HI.out] at hk2
  have b1W := b1.below hbW b1.lt
  have hw2 := hw1.trans (hbW.mono hw1.size)
  obtain ⟨V, hV⟩ : ∃ V, V = (bv I).toArray := ⟨_, rfl⟩
  rw [← hV] at hsD hoD h1D hk2 b1W hw2 ⊢
  have U1 := Lib.hid hsD; have U2 := Lib.hid hoD; have U3 := Lib.hid h1D; have U4 := Lib.hid bi; have K2 := Lib.hid hk2; have U5 := Lib.hid b1W; have U6 := Lib.hid hw2
  clear hsD hoD h1D bi hk2 b1W hw2 hV biW b1 hw1 hb1 hbW hszW K1 HB0 B0 HR HRC HFS
  go_wp2_with (first | (with_reducible refine wpList_alloc_named rfl 35 rfl zeros32 hz32 ?_) | (refine wpList_store_row rfl 35 (.tmp 6) (.tmp 21) rfl w1.heap.size V rfl rfl 35 zeros32 U4.out U1.out U2.out U3.out ?_))
  refine K2.out.mono ?_
  rintro e w5 ⟨rfl, hb5⟩
  have h5 := U5.out.below hb5 U5.out.lt
  have hw5 : Below w.heap.size w w5 := U6.out.trans (hb5.mono U6.out.size)
  have hsD : (Tryd.prog.info? 35).map (·.size) = some (bv (tagB key l)).toArray.size := by rw [size32]; simp [tagB_length]
  have hoD : zeros32.size = (bv (tagB key l)).toArray.size := by rw [zeros32_size]; simp [tagB_length]
  have h1D : (bv (tagB key l)).toArray.all (·.oneCell') = true := by
    rw [Array.all_eq_true_iff_forall_mem]
    intro v hv
    exact bv_oneCell (tagB key l) v (by simpa using hv)
  obtain ⟨V3, hV3⟩ : ∃ V, V = (bv (tagB key l)).toArray := ⟨_, rfl⟩
  rw [← hV3] at hsD hoD h1D ⊢
  have HV3 := Lib.hid hV3
  have W1 := Lib.hid h5; have W2 := Lib.hid hsD; have W3 := Lib.hid hoD; have W4 := Lib.hid h1D; have W5 := Lib.hid hw5
  clear hV3 h5 hsD hoD h1D hw5 hb5
  go_wp2_with (refine wpList_store_row rfl 35 (.tmp 4) (.tmp 30) rfl w.heap.size V3 rfl rfl 35 zeros32 W1.out W2.out W3.out W4.out ?_)
  exact bodyPost_ret (results_row_tmp rfl _ _ w.heap.size 35 V3 (0, 0) _ rfl (W1.out.row _) Tryd.underlying35 rfl W2.out) rfl ⟨by rw [HV3.out]; rfl, below_setRow W5.out (Nat.le_refl _) _⟩
end Go.Proofs.YtpoppfmlphkakaaDoor
