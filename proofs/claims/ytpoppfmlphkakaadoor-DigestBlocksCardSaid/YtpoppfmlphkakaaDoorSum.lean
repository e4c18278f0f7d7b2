/-
  SUM: the contracts of digest.Start and digest.Sum.
-/
import Derived.Test.YtpoppfmlphkakaaDoorFin
namespace Go.Proofs.YtpoppfmlphkakaaDoor
set_option linter.unusedVariables false
set_option linter.unusedSimpArgs false
set_option maxRecDepth 100000
open Go.RowKit

/-- The first state. -/
def iv : St := ⟨1779033703, 3144134277, 1013904242, 2773480762, 1359893119, 2600822924, 528734635, 1541459225⟩
theorem iv_ok : iv.ok := by constructor <;> decide
/-- The first state, in memory. -/
def HasFs (w : World) : Prop := 2 ≤ w.heap.size ∧ ∀ i x, iv.list[i]? = some x → w.cell? ⟨0, i, none⟩ = some (u32v x)
theorem HasFs.below {w w' : World} {B : Nat} (h : HasFs w) (hb : Below B w w') (hB : 2 ≤ B) : HasFs w' :=
  ⟨Nat.le_trans h.1 hb.size, fun i x hx => (hb.cell (by show 0 < B; omega)).trans (h.2 i x hx)⟩

set_option maxHeartbeats 1600000 in
theorem start_any (w : World) (hfs : HasFs w) :
    Calls Tryd.prog 24 #[] w fun e w' => e = .returned (.agg (hashV iv (.slice none 0 0) 0)) ∧ Below w.heap.size w w' := by
  have hz := allocH
  have hb0 : Below w.heap.size w (w.alloc (.cells zerosH 42)) := (Below.refl _ _).alloc (Nat.le_refl _) _
  have hfs' := hfs.below hb0 hfs.1
  have c0 := hfs'.2 0 _ rfl
  have c1 := hfs'.2 1 _ rfl
  have c2 := hfs'.2 2 _ rfl
  have c3 := hfs'.2 3 _ rfl
  have c4 := hfs'.2 4 _ rfl
  have c5 := hfs'.2 5 _ rfl
  have c6 := hfs'.2 6 _ rfl
  have c7 := hfs'.2 7 _ rfl
  have b1 := Blk.new w 42 zerosH
  have B1 := Lib.hid b1; clear b1
  unfold u32v at c0 c1 c2 c3 c4 c5 c6 c7
  clear hfs hfs'
  generalize iv = s at *
  go_enter Tryd.func24, Tryd.ntmps24
  go_wp2_with (first | (with_reducible refine wpList_alloc_named rfl 42 rfl zerosH hz ?_) | (refine wpList_store_row rfl 42 (.tmp 0) (.tmp 2) rfl w.heap.size (hlit s (.slice none 0 0) 0) rfl rfl 42 zerosH B1.out (hlit_info _ _ _) (hlit_old _ _ _) (hlit_one _ _ _ _ _) ?_))
  exact bodyPost_ret (results_cell_row rfl _ _ w.heap.size 42 (hlit s (.slice none 0 0) 0) (0, 0) _ rfl (B1.out.row _) Tryd.underlying42 rfl (hlit_info _ _ _)) rfl ⟨by rw [show hlit s (.slice none 0 0) 0 = hashV s (.slice none 0 0) 0 from hlit_eq s _ 0 0], below_setRow hb0 (Nat.le_refl _) _⟩
/-- SHA-256 in plain Lean, as the walk comes to it: the whole blocks first, then the rest with its padding. -/
def shaB (l : List UInt8) : List UInt8 :=
  sumBytes (absorbed (absorbed iv l (l.length / 64)) (l.drop (64 * (l.length / 64)) ++ padBytes l.length) ((l.length % 64 + (padBytes l.length).length) / 64))
theorem checkE_mod (n : Nat) (h : n ≤ 8192) : checkE (n % 64) n = 0 := by
  unfold checkE
  rw [if_neg]
  omega

set_option maxHeartbeats 1600000 in
theorem sum_ok (A : Option Addr) (m c : Nat) (l : List UInt8) (w : World) (hr : Reads w w.heap.size 1 A m (bv l)) (hm : m ≤ 8192) (hrc : HasRc w) (hfs : HasFs w) :
    Calls Tryd.prog 21 #[.slice A m c] w fun e w' => e = .returned (.tuple #[.agg (bv (shaB l)).toArray, .int .i64 0]) ∧ Below w.heap.size w w' := by
  have hl : l.length = m := by have := hr.1; simpa using this
  have hz := allocH
  have hz32 := alloc32
  have hb0 : Below w.heap.size w (w.alloc (.cells zeros32 35)) := (Below.refl _ _).alloc (Nat.le_refl _) _
  have b2 := Blk.new w 35 zeros32
  have HR := Lib.hid hr; have HRC := Lib.hid hrc; have HFS := Lib.hid hfs; have HL := Lib.hid hl; have HB0 := Lib.hid hb0; have B2 := Lib.hid b2
  clear hr hrc hfs hl hb0 b2
  go_enter Tryd.func21, Tryd.ntmps21
  go_wp2_with (first | (with_reducible refine wpList_alloc_named rfl 35 rfl zeros32 hz32 ?_))
  refine (start_any _ (HFS.out.below HB0.out HFS.out.1)).mono ?_
  rintro e w1 ⟨rfl, hb1⟩
  have hsz0 := HB0.out.size
  have hw1 : Below w.heap.size w w1 := HB0.out.trans (hb1.mono hsz0)
  have b21 : Blk w1 w.heap.size 35 zeros32 := B2.out.below hb1 B2.out.lt
  have hwr := write_ok iv none A 0 0 0 m c [] l w1 iv_ok Reads.none_ ((HR.out.below hw1).more hw1.size) (by omega) (by decide) (by omega) (by omega) (HRC.out.below hw1 HRC.out.1)
  have WR := Lib.hid hwr; have B21 := Lib.hid b21; have HW1 := Lib.hid hw1
  clear hwr b21 hw1 hb1 B2 HB0 HFS
  generalize hashV iv (.slice none 0 0) 0 = h0 at WR ⊢
  go_wp2_with fail
  refine WR.out.mono ?_
  rintro e w2 ⟨S', A', c', hS', rfl, hr2, hin, hc1, hc2, hb2⟩
  rw [List.nil_append, Nat.zero_add] at hr2
  rw [Nat.zero_add] at hc1
  rw [List.nil_append, Nat.zero_add] at hS'
  simp only [Nat.zero_add]
  have hS : S'.ok := by rw [hS'.out]; exact absorbed_ok iv_ok _ _
  have hw1' := HW1.out
  have hsz1 := hw1'.size
  have hw2 : Below w.heap.size w w2 := hw1'.trans (hb2.mono hsz1)
  have b22 : Blk w2 w.heap.size 35 zeros32 := B21.out.below hb2 B21.out.lt
  have hsh : (hashV S' (.slice A' (m % 64) c') m).size = 10 := rfl
  have hih : (Tryd.prog.info? 42).map (·.size) = some (hashV S' (.slice A' (m % 64) c') m).size := by rw [sizeH, hsh]
  have hoh : zerosH.size = (hashV S' (.slice A' (m % 64) c') m).size := by rw [zerosH_size, hsh]
  have h1h := hashV_one S' A' (m % 64) c' m
  have hfin := fun (W : World) (hb : Below w2.heap.size w2 W) => finish_ok S' A' (m % 64) c' m (l.drop (64 * (m / 64))) W hS ((hr2.below hb).more hb.size) (by omega) (checkE_mod m hm) hm ((HRC.out.below hw2 HRC.out.1).below hb (Nat.le_trans HRC.out.1 hw2.size))
  generalize hashV S' (.slice A' (m % 64) c') m = hv2 at hih hoh h1h hfin ⊢
  have FI := Lib.hid hfin; have I1 := Lib.hid hih; have I2 := Lib.hid hoh; have I3 := Lib.hid h1h; have B22 := Lib.hid b22; have HW2 := Lib.hid hw2
  have bh := Blk.new w2 42 zerosH
  have BH := Lib.hid bh
  clear hfin hih hoh h1h b22 hw2 hsh hr2 hin hS hb2 B21 HW1 hw1' WR bh
  go_wp2_with (first | (with_reducible refine wpList_alloc_named rfl 42 rfl zerosH hz ?_) | (refine wpList_store_row rfl 42 (.tmp 4) (.tmp 10) rfl w2.heap.size hv2 rfl rfl 42 zerosH BH.out I1.out I2.out I3.out ?_) | (refine wpList_load_row rfl 42 (.tmp 4) rfl w2.heap.size rfl 42 hv2 (0, 0) _ (BH.out.row _) Tryd.underlying42 rfl I1.out ?_))
  have hbW : Below w2.heap.size w2 ((w2.alloc (.cells zerosH 42)).setRow w2.heap.size hv2) := below_setRow ((Below.refl _ _).alloc (Nat.le_refl _) _) (Nat.le_refl _) _
  refine (FI.out _ hbW).mono ?_
  rintro e w5 ⟨rfl, hb5⟩
  have hw2 := HW2.out
  have hsz2 := hw2.size
  have b22 := B22.out
  have hlt2 := b22.lt
  have bW := b22.below hbW hlt2
  have b5 : Blk w5 w.heap.size 35 zeros32 := bW.below hb5 bW.lt
  have hw5 : Below w.heap.size w w5 := (hw2.trans (hbW.mono hsz2)).trans (hb5.mono (Nat.le_trans hsz2 hbW.size))
  have hD : shaB l = sumBytes (absorbed S' (l.drop (64 * (m / 64)) ++ padBytes m) ((m % 64 + (padBytes m).length) / 64)) := by unfold shaB; rw [HL.out, ← hS'.out]
  rw [← hD]
  have hDl : (shaB l).length = 32 := by rw [hD, sumBytes_length]
  have hsD : (Tryd.prog.info? 35).map (·.size) = some (bv (shaB l)).toArray.size := by rw [size32]; simp [hDl]
  have hoD : zeros32.size = (bv (shaB l)).toArray.size := by rw [zeros32_size]; simp [hDl]
  have h1D : (bv (shaB l)).toArray.all (·.oneCell') = true := by
    rw [Array.all_eq_true_iff_forall_mem]
    intro v hv
    exact bv_oneCell (shaB l) v (by simpa using hv)
  obtain ⟨V, hV⟩ : ∃ V, V = (bv (shaB l)).toArray := ⟨_, rfl⟩
  rw [← hV] at hsD hoD h1D ⊢
  have HV := Lib.hid hV
  clear hV
  have U1 := Lib.hid b5; have U2 := Lib.hid hsD; have U3 := Lib.hid hoD; have U4 := Lib.hid h1D; have U5 := Lib.hid hw5
  clear b5 hsD hoD h1D hw5 hDl hD bW b22 hw2 hb5 hbW
  go_wp2_with (refine wpList_store_row rfl 35 (.tmp 2) (.tmp 18) rfl w.heap.size V rfl rfl 35 zeros32 U1.out U2.out U3.out U4.out ?_)
  exact bodyPost_ret (results_row_tmp rfl _ _ w.heap.size 35 V (0, 0) _ rfl (U1.out.row _) Tryd.underlying35 rfl U2.out) rfl ⟨by rw [← HV.out]; rfl, below_setRow U5.out (Nat.le_refl _) _⟩
/-- 32 zero bytes, written out. -/
def zl32 : Array Value := #[.int .u8 0, .int .u8 0, .int .u8 0, .int .u8 0, .int .u8 0, .int .u8 0, .int .u8 0, .int .u8 0, .int .u8 0, .int .u8 0, .int .u8 0, .int .u8 0, .int .u8 0, .int .u8 0, .int .u8 0, .int .u8 0, .int .u8 0, .int .u8 0, .int .u8 0, .int .u8 0, .int .u8 0, .int .u8 0, .int .u8 0, .int .u8 0, .int .u8 0, .int .u8 0, .int .u8 0, .int .u8 0, .int .u8 0, .int .u8 0, .int .u8 0, .int .u8 0]
theorem zl32_size : zl32.size = 32 := rfl
theorem zl32_one : zl32.all (·.oneCell') = true := by simp [zl32, Value.oneCell']
theorem zl32_info : (Tryd.prog.info? 35).map (·.size) = some zl32.size := by rw [size32, zl32_size]
theorem zl32_old : zeros32.size = zl32.size := by rw [zeros32_size, zl32_size]
theorem zl32_eq : zl32 = (bv (List.replicate 32 0)).toArray := rfl

set_option maxHeartbeats 1600000 in
theorem sum_many (A : Option Addr) (m c : Nat) (w : World) (hm : 8192 < m) (hm2 : m ≤ 140737488351232) (hrc : HasRc w) (hfs : HasFs w) :
    Calls Tryd.prog 21 #[.slice A m c] w fun e w' => e = .returned (.tuple #[.agg (bv (List.replicate 32 0)).toArray, .int .i64 4]) ∧ Below w.heap.size w w' := by
  have hz := allocH
  have hz32 := alloc32
  have hb0 : Below w.heap.size w (w.alloc (.cells zeros32 35)) := (Below.refl _ _).alloc (Nat.le_refl _) _
  have b2 := Blk.new w 35 zeros32
  have HRC := Lib.hid hrc; have HFS := Lib.hid hfs; have HB0 := Lib.hid hb0; have B2 := Lib.hid b2
  clear hrc hfs hb0 b2
  go_enter Tryd.func21, Tryd.ntmps21
  go_wp2_with (first | (with_reducible refine wpList_alloc_named rfl 35 rfl zeros32 hz32 ?_))
  refine (start_any _ (HFS.out.below HB0.out HFS.out.1)).mono ?_
  rintro e w1 ⟨rfl, hb1⟩
  have hsz0 := HB0.out.size
  have hw1 : Below w.heap.size w w1 := HB0.out.trans (hb1.mono hsz0)
  have b21 : Blk w1 w.heap.size 35 zeros32 := B2.out.below hb1 B2.out.lt
  have hwr := write_many iv none A 0 0 0 m c w1 (by omega) (by omega) (by decide) (by omega) (by omega) hm2
  have WR := Lib.hid hwr; have B21 := Lib.hid b21; have HW1 := Lib.hid hw1
  clear hwr b21 hw1 hb1 B2 HB0 HFS
  generalize hashV iv (.slice none 0 0) 0 = h0 at WR ⊢
  go_wp2_with fail
  refine WR.out.mono ?_
  rintro e w2 ⟨rfl, hb2⟩
  have hw1' := HW1.out
  have hsz1 := hw1'.size
  have hw2 : Below w.heap.size w w2 := hw1'.trans (hb2.mono hsz1)
  have b22 : Blk w2 w.heap.size 35 zeros32 := B21.out.below hb2 B21.out.lt
  have hih : (Tryd.prog.info? 42).map (·.size) = some (hashV st0 (.slice none 0 0) 0).size := by rw [sizeH, hashV_size]
  have hoh : zerosH.size = (hashV st0 (.slice none 0 0) 0).size := by rw [zerosH_size, hashV_size]
  have h1h := hashV_one st0 none 0 0 0
  generalize hashV st0 (.slice none 0 0) 0 = hv2 at hih hoh h1h ⊢
  have bh := Blk.new w2 42 zerosH
  have bW : Blk ((w2.alloc (.cells zerosH 42)).setRow w2.heap.size hv2) w.heap.size 35 zeros32 := (b22.alloc _).rowFar (by have := b22.lt; omega) _
  have hbW : Below w.heap.size w ((w2.alloc (.cells zerosH 42)).setRow w2.heap.size hv2) := below_setRow (hw2.alloc hw2.size _) hw2.size _
  have I1 := Lib.hid hih; have I2 := Lib.hid hoh; have I3 := Lib.hid h1h; have BW := Lib.hid bW; have HW2 := Lib.hid hbW; have BH := Lib.hid bh
  clear hih hoh h1h b22 hw2 hb2 B21 HW1 hw1' WR bh bW hbW
  go_wp2_with (first | (with_reducible refine wpList_alloc_named rfl 42 rfl zerosH hz ?_) | (refine wpList_store_row rfl 42 (.tmp 4) (.tmp 10) rfl w2.heap.size hv2 rfl rfl 42 zerosH BH.out I1.out I2.out I3.out ?_) | (refine wpList_store_row rfl 35 (.tmp 2) (.tmp 14) rfl w.heap.size zl32 rfl rfl 35 zeros32 BW.out zl32_info zl32_old zl32_one ?_))
  exact bodyPost_ret (results_row_tmp rfl _ _ w.heap.size 35 zl32 (0, 0) _ rfl (BW.out.row _) Tryd.underlying35 rfl zl32_info) rfl ⟨rfl, below_setRow HW2.out (Nat.le_refl _) _⟩
end Go.Proofs.YtpoppfmlphkakaaDoor
